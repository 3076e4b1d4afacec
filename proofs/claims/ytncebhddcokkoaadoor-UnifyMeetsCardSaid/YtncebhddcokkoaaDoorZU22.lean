/- Texts in a row: Kj Kk Km. -/
import Derived.Test.YtncebhddcokkoaaDoorZU17
/- A walk over a store's types: the program's. -/
namespace Go.Proofs.YtncebhddcokkoaaDoor
open Go.RowKit
set_option linter.unusedSimpArgs false
set_option linter.unusedVariables false
/-- How much is still to be met. -/
def pot (k : Int) (L : List Nd) : Nat := (L.map fun x => if x.wk = k then 0 else x.i.kids.length + 1).sum
theorem pot_le (k : Int) : ∀ L : List Nd, pot k L ≤ (L.map fun x => x.i.kids.length + 1).sum
  | [] => Nat.le_refl _
  | x :: L => by
    have := pot_le k L
    unfold pot at *
    simp only [List.map_cons, List.sum_cons]
    split <;> omega
theorem pot_set {k : Int} : ∀ {L : List Nd} {z : Nat} {x : Nd}, L[z]? = some x → x.wk ≠ k → pot k (L.set z { x with wk := k }) + (x.i.kids.length + 1) = pot k L
  | [], z, x, h, _ => by simp at h
  | y :: L, 0, x, h, hk => by
    obtain rfl : y = x := by simpa using h
    unfold pot
    simp only [List.set_cons_zero, List.map_cons, List.sum_cons]
    rw [if_neg hk]
    simp
    omega
  | y :: L, z + 1, x, h, hk => by
    have := pot_set (L := L) (z := z) (x := x) (by simpa using h) hk
    unfold pot at *
    simp only [List.set_cons_succ, List.map_cons, List.sum_cons]
    omega
theorem pot_same {k : Int} {L M : List Nd} (h : SameBe L M) : pot k M = pot k L := by
  unfold pot
  congr 1
  apply List.ext_getElem?
  intro i
  rw [List.getElem?_map, List.getElem?_map]
  cases hy : M[i]? with
  | none =>
    have : L[i]? = none := by
      rw [List.getElem?_eq_none_iff] at hy ⊢
      rw [← h.1]; exact hy
    rw [this]
  | some y =>
    obtain ⟨x, b, hx, rfl⟩ := h.back hy
    rw [hx]; rfl
/-- A walk is set forth. -/
theorem StL.setWks {c : Cfg} {v : Value} {L : List Nd} {w : World} (h : StL c v L w) (n : Int) : StL { c with wks := n } v L (w.setCell ⟨c.B, 4, none⟩ (.int .i64 n)) ∧ Kp c w (w.setCell ⟨c.B, 4, none⟩ (.int .i64 n)) := by
  have hK : Kp c w (w.setCell ⟨c.B, 4, none⟩ (.int .i64 n)) := ⟨(Below.refl _ _).setCell h.hb _, by simp [World.setCell], fun k y hy hk _ => hb_set_other hy _ hk⟩
  refine ⟨⟨h.hb, h.ne, hb_set_same h.blk 4 _, ?_, fun x hx => (h.kid x hx).move hK, h.few⟩, hK⟩
  rcases h.row with h1 | ⟨g, cap, cur, h1, h2, h3, h4⟩
  · exact .inl h1
  · refine .inr ⟨g, cap, cur, h1, h2, hb_set_other h3 _ ?_, h4⟩
    rintro rfl
    have := h.blk
    rw [h3] at this
    injection this with this
    injection this with _ e _
    exact h.ne e.symm
/-- The mark of a walk. -/
theorem Rep.mark {rk : Nat → Nat} {L : List Nd} {A : Abs} (h : Rep rk L A) {i : Nat} {x : Nd} (hx : L[i]? = some x) (k : Int) : Rep rk (L.set i { x with wk := k }) A := by
  have key : ∀ (j : Nat) (z : Nd), (L.set i { x with wk := k })[j]? = some z → ∃ y : Nd, L[j]? = some y ∧ z.i = y.i ∧ z.lv = y.lv ∧ z.be = y.be := by
    intro j z hz
    rw [List.getElem?_set] at hz
    by_cases e : i = j
    · rw [if_pos e] at hz
      subst e
      rw [if_pos (List.getElem?_eq_some_iff.1 hx).1] at hz
      cases hz
      exact ⟨x, hx, rfl, rfl, rfl⟩
    · rw [if_neg e] at hz
      exact ⟨z, hz, rfl, rfl, rfl⟩
  refine ⟨?_, fun j z hz => ?_, fun j z hz => ?_⟩
  · rw [h.l]
    apply List.ext_getElem?
    intro j
    rw [List.getElem?_map, List.getElem?_map, List.getElem?_set]
    by_cases e : i = j
    · rw [if_pos e]
      subst e
      rw [if_pos (List.getElem?_eq_some_iff.1 hx).1, hx]; rfl
    · rw [if_neg e]
  · obtain ⟨y, hy, _, e, _⟩ := key j z hz
    rw [e]; exact h.lv j y hy
  · obtain ⟨y, hy, _, _, e⟩ := key j z hz
    rw [e, List.length_set]; exact h.be j y hy
theorem vis_mark {k : Int} {L : List Nd} {z : Nat} {x : Nd} (hx : L[z]? = some x) (i : Nat) : Vis k (L.set z { x with wk := k }) i ↔ (Vis k L i ∨ i = z) := by
  unfold Vis
  rw [List.getElem?_set]
  by_cases e : z = i
  · subst e
    rw [if_pos rfl, if_pos (List.getElem?_eq_some_iff.1 hx).1]
    exact ⟨fun _ => .inr rfl, fun _ => ⟨_, rfl, rfl⟩⟩
  · rw [if_neg e]
    exact ⟨.inl, fun h => h.resolve_right fun e2 => e e2.symm⟩
theorem pln_mark {k : Int} {L : List Nd} {z : Nat} {x : Nd} (hx : L[z]? = some x) (i : Nat) : Pln (L.set z { x with wk := k }) i ↔ Pln L i := by
  unfold Pln
  rw [List.getElem?_set]
  by_cases e : z = i
  · subst e
    rw [if_pos rfl, if_pos (List.getElem?_eq_some_iff.1 hx).1, hx]
    constructor
    · rintro ⟨y, hy, hp⟩; cases hy; exact ⟨x, rfl, hp⟩
    · rintro ⟨y, hy, hp⟩; cases hy; exact ⟨_, rfl, hp⟩
  · rw [if_neg e]
theorem run_app_nil (w : World) (q : Option Addr) (n c : Nat) (hn : n ≤ c) (q2 : Option Addr) (c2 : Nat) : (Builtin.append_ #[88, 88] 88 #[.slice q n c, .slice q2 0 c2]).run Tryd.prog w = .ok (.slice q n c) w := by
  obtain ⟨i, z, hi, hz, hs, hby, hzc⟩ := info3
  have hu : Tryd.prog.underlying 88 = some (.slice 3) := by kernel_rfl
  have hf : (Builtin.firstCells 1 0 (Value.slice q2 0 c2)).run Tryd.prog w = .ok #[] w := by
    cases q2 with
    | none => exact run_firstCells_none w 1 0 0 c2
    | some a => exact run_firstCells_some w 1 0 a 0 c2 [] rfl (by simp)
  cases q with
  | none => simp [Builtin.append_, run_underlying hu, sizeOf, typeInfo, hi, Builtin.lenOf, hn, hs, storeCells, hf]
  | some a => simp [Builtin.append_, run_underlying hu, sizeOf, typeInfo, hi, Builtin.lenOf, hn, hs, storeCells, hf]
end Go.Proofs.YtncebhddcokkoaaDoor
/- A walk's memory. -/
namespace Go.Proofs.YtncebhddcokkoaaDoor
open Go.RowKit
set_option linter.unusedSimpArgs false
set_option linter.unusedVariables false
/-- All that was there stays but the store's own, and a box. -/
structure Kq (c : Cfg) (bi : Nat) (w w' : World) : Prop where
  below : Below c.b0 w w'
  size : w.heap.size ≤ w'.heap.size
  block : ∀ (k : Nat) (x : Obj), w.heap[k]? = some x → k ≠ c.B → k ≠ bi → (∀ cs fr, x ≠ .cells cs 90 fr) → w'.heap[k]? = some x
theorem Kq.of_kp {c : Cfg} {bi : Nat} {w w' : World} (h : Kp c w w') : Kq c bi w w' := ⟨h.below, h.size, fun k x h1 h2 _ h3 => h.block k x h1 h2 h3⟩
theorem Kq.trans {c : Cfg} {bi : Nat} {w w1 w2 : World} (h : Kq c bi w w1) (k : Kq c bi w1 w2) : Kq c bi w w2 :=
  ⟨h.below.trans k.below, Nat.le_trans h.size k.size, fun g x h1 h2 h3 h4 => k.block g x (h.block g x h1 h2 h3 h4) h2 h3 h4⟩
/-- From what was there, where rows that are new change. -/
theorem Kq.step {c : Cfg} {bi : Nat} {w w1 w2 : World} (h : Kq c bi w w1) (hb : Below c.b0 w1 w2) (k : ∀ (g : Nat) (x : Obj), g < w.heap.size → w1.heap[g]? = some x → g ≠ c.B → g ≠ bi → (∀ cs fr, x ≠ .cells cs 90 fr) → w2.heap[g]? = some x) : Kq c bi w w2 :=
  ⟨h.below.trans hb, Nat.le_trans h.size hb.size, fun g x h1 h2 h3 h4 => k g x (hb_lt h1) (h.block g x h1 h2 h3 h4) h2 h3 h4⟩
theorem KI.q {c : Cfg} {bi : Nat} {w w' : World} {v : Value} {l : List Nat} (h : KI c.B w v l) (k : Kq c bi w w') (hbi : ∃ cs fr, w.heap[bi]? = some (.cells cs 88 fr)) : KI c.B w' v l := by
  obtain ⟨q, cc, h1, h2⟩ := h
  refine ⟨q, cc, h1, ?_⟩
  rcases h2 with h2 | ⟨g, o, cs, fr, e, hg, hB, hc⟩
  · exact .inl h2
  · refine .inr ⟨g, o, cs, fr, e, k.block g _ hg hB (fun e => ?_) (fun cs' fr' e2 => by injection e2 with _ e3 _; exact absurd e3 (by decide)), hB, hc⟩
    obtain ⟨cs', fr', h3⟩ := hbi
    rw [e, h3] at hg
    injection hg with hg
    injection hg with _ e3 _
    exact absurd e3 (by decide)
theorem StL.frame {c : Cfg} {bi : Nat} {v : Value} {L : List Nd} {w0 W W' : World} (h : StL c v L W) (hk : ∀ x ∈ L, KI c.B w0 x.ks x.i.kids) (hq : Kq c bi w0 W') (hbi : ∃ cs fr, w0.heap[bi]? = some (.cells cs 88 fr)) (hB : W'.heap[c.B]? = W.heap[c.B]?) (hr : ∀ g cs, v.ownBlock = some g → W.heap[g]? = some (.cells cs 90 (0, 0)) → W'.heap[g]? = some (.cells cs 90 (0, 0))) : StL c v L W' := by
  refine ⟨h.hb, h.ne, by rw [hB]; exact h.blk, ?_, fun x hx => (hk x hx).q hq hbi, h.few⟩
  rcases h.row with h1 | ⟨g, cap, cur, rfl, h2, h3, h4⟩
  · exact .inl h1
  · exact .inr ⟨g, cap, cur, rfl, h2, hr g cur rfl h3, h4⟩
/-- The last one of a row. -/
theorem IRow.pop {base : Nat} {w : World} {v : Value} {T : List Nat} {t : Nat} (h : IRow base w v (T ++ [t])) : ∃ g cap, v = .slice (some ⟨g, 0, none⟩) (T.length + 1) cap ∧ T.length + 1 ≤ cap ∧ cap ≤ maxLen ∧ base ≤ g ∧ w.cell? ⟨g, T.length, none⟩ = some (intV t) ∧ (∃ cs, w.heap[g]? = some (.cells cs 3 (0, 0))) ∧ IRow base w (.slice (some ⟨g, 0, none⟩) T.length cap) T := by
  obtain ⟨hl, h2⟩ := h
  rw [List.length_append] at h2
  rcases h2 with ⟨rfl, h0⟩ | ⟨g, cap, cur, rfl, h3, h4, h5, h6, h7, h8⟩
  · have h9 : T.length + 1 = 0 := h0
    omega
  · have h5' : T.length + 1 ≤ cap := h5
    rw [Nat.mul_one] at h8 h7
    rw [List.map_append] at h8
    refine ⟨g, cap, rfl, h5', h6, h3, ?_, ⟨cur, h4⟩, by simp, .inr ⟨g, cap, cur, rfl, h3, h4, by omega, h6, by omega, ?_⟩⟩
    · rw [hb_cell h4, ← Array.getElem?_toList]
      have e : (cur.toList.take (T.length + [t].length))[T.length]? = (T.map intV ++ [t].map intV)[T.length]? := by rw [h8]
      rw [List.getElem?_take, if_pos (by simp)] at e
      rw [e]
      simp
    · rw [Nat.mul_one]
      have e := congrArg (List.take T.length) h8
      rw [List.take_take] at e
      have e2 : min T.length (T.length + [t].length) = T.length := by simp
      rw [e2] at e
      rw [e]
      simp
/-- A walk's round. -/
structure WI (c : Cfg) (A : Abs) (base bi a : Nat) (lv : Int) (b : Nat) (w0 : World) (t : Value) (wr : World) (m : Nat) (v : Value) (L : List Nd) (rk : Nat → Nat) (T I : List Nat) (o : Option Nat) : Prop where
  st : StL c v L wr
  rep : Rep rk L A
  pl : ∀ i x, L[i]? = some x → x.pl = true → ∀ θ θ', A.Mod θ → A.Mod θ' → θ i = θ' i
  wk : ∀ x ∈ L, x.wk ≤ c.wks
  k0 : ∀ x ∈ L, KI c.B w0 x.ks x.i.kids
  tr : IRow w0.heap.size wr t T
  ne : ∀ g, t.ownBlock = some g → o ≠ some g
  io : ∀ g, o = some g → w0.heap.size ≤ g
  ib : InBox wr base bi I o
  df : Dfs A (Vis c.wks L) (Pln L) b T
  asd : ∀ z, Vis c.wks L z → (A.kd z = 1 → z ≠ a ∧ z ∈ I) ∧ (A.kd z = 5 → A.lv z ≤ lv)
  ii : ∀ z ∈ I, A.Reach b z ∧ A.kd z = 1
  kq : Kq c bi w0 wr
  f1 : I.length + pot c.wks L ≤ 100000
  f2 : T.length + pot c.wks L ≤ 200000
  f3 : T.length + pot c.wks L ≤ m
end Go.Proofs.YtncebhddcokkoaaDoor
/- A walk's round at a type that is met the first time. -/
namespace Go.Proofs.YtncebhddcokkoaaDoor
open Go.RowKit
set_option linter.unusedSimpArgs false
set_option linter.unusedVariables false
theorem irow_keep {base : Nat} {c : Cfg} {w w' : World} {v : Value} {l : List Nat} (h : IRow base w v l) (hk : Kp c w w') (hB : c.B < base) : IRow base w' v l := by
  refine h.keep fun g y hg hy => hk.block g y hy ?_ ?_
  · have := (h.blk g hg).1; omega
  · intro cs fr e
    obtain ⟨_, cs', h2⟩ := h.blk g hg
    rw [h2] at hy
    cases hy
    injection e with _ e2 _
    exact absurd e2 (by decide)
theorem inbox_keep {base bi : Nat} {c : Cfg} {w w' : World} {I : List Nat} {o : Option Nat} (h : InBox w base bi I o) (hk : Kp c w w') (hB : c.B < base) : InBox w' base bi I o := by
  obtain ⟨v, h1, h2, h3, h4⟩ := h
  exact ⟨v, hk.block bi _ h1 (by omega) (fun cs fr e => by injection e with _ e2 _; exact absurd e2 (by decide)), irow_keep h2 hk hB, h3, h4⟩
theorem InBox.own {base bi : Nat} {w : World} {I : List Nat} {o : Option Nat} (h : InBox w base bi I o) : ∀ g, o = some g → ∃ cs, w.heap[g]? = some (.cells cs 3 (0, 0)) := by
  obtain ⟨v, h1, h2, h3, h4⟩ := h
  intro g hg
  exact (h2.blk g (h3.trans hg)).2
theorem InBox.box {base bi : Nat} {w : World} {I : List Nat} {o : Option Nat} (h : InBox w base bi I o) : ∃ v, w.heap[bi]? = some (.cells #[v] 88 (0, 0)) := let ⟨v, h1, _⟩ := h; ⟨v, h1⟩
theorem type_ne {cs cs' : Array Value} {T T' : TypeId} {fr fr' : Nat × Nat} {w : World} {g g' : Nat} (h : w.heap[g]? = some (.cells cs T fr)) (h' : w.heap[g']? = some (.cells cs' T' fr')) (hT : T ≠ T') : g ≠ g' := by
  rintro rfl
  rw [h] at h'
  injection h' with h'
  injection h' with _ e _
  exact hT e
theorem WI.met {c : Cfg} {A : Abs} {base bi a b m : Nat} {lv : Int} {w0 wr w2 W2 w3 : World} {t v : Value} {L L' : List Nd} {rk : Nat → Nat} {T I : List Nat} {o o' : Option Nat} {x : Nat} {y : Nd} (h : WI c A base bi a lv b w0 t wr m v L rk (T ++ [x]) I o) (hB : c.B < base) (hbw : base ≤ w0.heap.size)
    (hs : SameBe L L') (hk : Kp c wr W2) (hy : L'[A.r x]? = some y) (hS : StL c v (L'.set (A.r x) { y with wk := c.wks }) W2)
    (hb3 : Below base W2 w3) (hfr : ∀ k z, W2.heap[k]? = some z → k ≠ bi → some k ≠ o → w3.heap[k]? = some z) (hbi : ∃ cs fr, w0.heap[bi]? = some (.cells cs 88 fr)) :
    Kq c bi w0 w3 ∧ StL c v (L'.set (A.r x) { y with wk := c.wks }) w3 ∧ (∀ z ∈ L'.set (A.r x) { y with wk := c.wks }, KI c.B w0 z.ks z.i.kids) ∧ ∀ t', IRow w0.heap.size wr t' T → t'.ownBlock = t.ownBlock → IRow w0.heap.size w3 t' T := by
  have hb0 : c.b0 ≤ base := by have := hS.hb; omega
  have hib := inbox_keep h.ib hk hB
  have hbl : w0.heap.size ≤ W2.heap.size := Nat.le_trans h.kq.size hk.size
  have hkq : Kq c bi w0 w3 := (h.kq.trans (Kq.of_kp hk)).step (hb3.mono hb0) fun g z hg hz h1 h2 h3 => hfr g z hz h2 (fun e => by have := h.io g e.symm; omega)
  have hk0 : ∀ z ∈ L', KI c.B w0 z.ks z.i.kids := by
    intro z hz
    obtain ⟨i, hi⟩ := List.getElem?_of_mem hz
    obtain ⟨y', b', hy', rfl⟩ := hs.back hi
    exact h.k0 y' (List.mem_of_getElem? hy')
  have hkM : ∀ z ∈ L'.set (A.r x) { y with wk := c.wks }, KI c.B w0 z.ks z.i.kids := by
    intro z hz
    rcases List.mem_or_eq_of_mem_set hz with hz | rfl
    · exact hk0 z hz
    · exact hk0 y (List.mem_of_getElem? hy)
  obtain ⟨vb, hvb⟩ := hib.box
  refine ⟨hkq, hS.frame hkM hkq hbi ?_ ?_, hkM, fun t' ht he => (irow_keep ht hk (by omega)).keep fun g z hg hz => hfr g z hz ?_ (fun e => h.ne g (by rw [← he]; exact hg) e.symm)⟩
  · have h1 := hS.blk
    rw [hfr c.B _ h1 (by have := hib; obtain ⟨_, _, _, _, h4⟩ := hib; omega) (fun e => by have := h.io c.B e.symm; omega), h1]
  · intro g cs hg hcs
    refine hfr g _ hcs (type_ne hcs hvb (by decide)) fun e => ?_
    obtain ⟨cs', h2⟩ := hib.own g e.symm
    exact type_ne hcs h2 (by decide) rfl
  · obtain ⟨_, cs, hcs⟩ := (irow_keep ht hk (by omega)).blk g hg
    exact type_ne hcs hvb (by decide)
theorem WI.ex {c : Cfg} {A : Abs} {base bi a b m : Nat} {lv : Int} {w0 wr : World} {t v : Value} {L L' : List Nd} {rk : Nat → Nat} {T I : List Nat} {o : Option Nat} {j : Nat} {y : Nd} (h : WI c A base bi a lv b w0 t wr m v L rk T I o) (hs : SameBe L L') (hy : L'[j]? = some y) (hpl : y.pl = false) : Ex c (L'.set j { y with wk := c.wks }) A := by
  refine ⟨fun i z hz hp' => ?_, fun z hz => ?_⟩
  · have : z.pl = true → ∃ z', L[i]? = some z' ∧ z'.pl = true := fun hp' => by
      rw [List.getElem?_set] at hz
      by_cases e : j = i
      · rw [if_pos e] at hz
        subst e
        rw [if_pos (List.getElem?_eq_some_iff.1 hy).1] at hz
        cases hz
        rw [show ({ y with wk := c.wks } : Nd).pl = y.pl from rfl, hpl] at hp'
        cases hp'
      · rw [if_neg e] at hz
        obtain ⟨z', b', hz', rfl⟩ := hs.back hz
        exact ⟨z', hz', hp'⟩
    obtain ⟨z', hz', hp2⟩ := this hp'
    exact h.pl i z' hz' hp2
  · rcases List.mem_or_eq_of_mem_set hz with hz | rfl
    · obtain ⟨i, hi⟩ := List.getElem?_of_mem hz
      obtain ⟨z', b', hz', rfl⟩ := hs.back hi
      exact h.wk z' (List.mem_of_getElem? hz')
    · exact Int.le_refl _
theorem WI.next {c : Cfg} {A : Abs} {base bi a b m : Nat} {lv : Int} {w0 wr w2 W2 w3 w4 : World} {t v v4 : Value} {L L' : List Nd} {rk : Nat → Nat} {T I : List Nat} {o o' : Option Nat} {x : Nat} {y : Nd} (h : WI c A base bi a lv b w0 t wr m v L rk (T ++ [x]) I o) (hB : c.B < base) (hbw : base ≤ w0.heap.size) (hA : A.Ok)
    (hs : SameBe L L') (hR : Rep rk L' A) (hk : Kp c wr W2) (hy : L'[A.r x]? = some y) (hpl : y.pl = false) (hwk : y.wk ≠ c.wks)
    (ho3 : o' = o ∨ ∃ g, o' = some g ∧ W2.heap.size ≤ g) (ib3 : InBox w3 base bi (if y.i.k = 1 then I ++ [A.r x] else I) o') (hbi : ∃ cs fr, w0.heap[bi]? = some (.cells cs 88 fr))
    (hkq : Kq c bi w0 w3) (hS3 : StL c v (L'.set (A.r x) { y with wk := c.wks }) w3) (hkM : ∀ z ∈ L'.set (A.r x) { y with wk := c.wks }, KI c.B w0 z.ks z.i.kids)
    (hr4 : IRow w0.heap.size w4 v4 (T ++ y.i.kids)) (hg4 : w3.grownBy w4 t.ownBlock) (ho4 : v4.ownBlock = t.ownBlock ∨ v4.ownBlock = some w3.heap.size) (hok : y.i.k = 1 → A.r x ≠ a) (hok5 : y.i.k = 5 → y.lv ≤ lv) :
    WI c A base bi a lv b w0 v4 w4 (m - 1) v (L'.set (A.r x) { y with wk := c.wks }) rk (T ++ y.i.kids) (if y.i.k = 1 then I ++ [A.r x] else I) o' := by
  have ht3 : ∀ g, t.ownBlock = some g → w0.heap.size ≤ g ∧ g < W2.heap.size ∧ ∃ cs, wr.heap[g]? = some (.cells cs 3 (0, 0)) := by
    intro g hg
    obtain ⟨h1, cs, h2⟩ := h.tr.blk g hg
    have := hb_lt h2
    exact ⟨h1, by have := hk.size; omega, cs, h2⟩
  have hbl : w0.heap.size ≤ W2.heap.size := Nat.le_trans h.kq.size hk.size
  have hb0 : c.b0 ≤ base := by have := hS3.hb; omega
  have hbel : Below c.b0 w3 w4 := ⟨hg4.os, hg4.tape, hg4.output, hg4.size, fun k hk2 => hg4.block k (by have := hkq.size; omega) (fun e => by have := (ht3 k e.symm).1; omega)⟩
  have hkq4 : Kq c bi w0 w4 := hkq.step hbel fun g z hg hz h1 h2 h3 => hb_grown hz hg4 (fun e => by have := (ht3 g e.symm).1; omega)
  have hbiw := h.ib
  obtain ⟨vb, ib1, ib2, ib4, ib5⟩ := ib3
  have hbilt : bi < w0.heap.size := by obtain ⟨cs, fr, h1⟩ := hbi; exact hb_lt h1
  have ho' : ∀ g, o' = some g → w0.heap.size ≤ g := by
    intro g hg
    rcases ho3 with e | ⟨g', e, hg'⟩
    · exact h.io g (by rw [← e]; exact hg)
    · rw [hg] at e; cases e; omega
  have hon : ∀ g, t.ownBlock = some g → o' ≠ some g := by
    intro g hg e2
    rcases ho3 with e | ⟨g', e, hg'⟩
    · exact h.ne g hg (by rw [← e]; exact e2)
    · rw [e2] at e; cases e; have := (ht3 g hg).2.1; omega
  have hkd : A.kd (A.r x) = y.i.k := by
    have h1 := hR.at hy
    exact Abs.kd_some (by rw [hA.idem]; exact h1)
  have hp := pot_set (k := c.wks) hy hwk
  have hps := pot_same (k := c.wks) hs
  have f1 := h.f1
  have f2 := h.f2
  have f3 := h.f3
  rw [List.length_append] at f2 f3
  have f4 : [x].length = 1 := rfl
  have hxI := h.df.tc x (by simp) _ (.here x)
  have hnp : ¬ Pln L' (A.r x) := by
    rintro ⟨y', hy', hp'⟩
    rw [hy] at hy'
    cases hy'
    rw [hpl] at hp'
    cases hp'
  refine ⟨hS3.frame hkM hkq4 hbi ?_ ?_, hR.mark hy _, fun i z hz hp' => ?_, fun z hz => ?_, hkM, hr4, fun g hg => ?_, ho', ⟨vb, hb_grown ib1 hg4 (fun e => by have := (ht3 bi e.symm).1; omega), ib2.keep fun g z hg hz => hb_grown hz hg4 (fun e => hon g e.symm (by rw [← ib4]; exact hg)), ib4, ib5⟩, ?_, fun z hz => ?_, fun z hz => ?_, hkq4, ?_, ?_, ?_⟩
  · exact hg4.block _ hS3.lt (fun e => by have := (ht3 c.B e.symm).1; omega)
  · intro g cs hg hcs
    refine hb_grown hcs hg4 fun e => ?_
    obtain ⟨h1, h2, cs', h3⟩ := ht3 g e.symm
    -- the walk's row is no type's row
    have h5 : w3.heap[g]? = some (.cells cs 90 (0, 0)) := hcs
    have h6 := hk.block g _ h3 (by omega) (fun cs fr e => by injection e with _ e2 _; exact absurd e2 (by decide))
    rcases hS3.row with ⟨_, r1⟩ | ⟨g', cap, cur, r1, r2, r3, _⟩
    · rw [r1] at hg; cases hg
    · rcases h.st.row with ⟨_, q1⟩ | ⟨g'', cap'', cur'', q1, q2, q3, _⟩
      · rw [q1] at hg; cases hg
      · rw [q1] at hg
        cases hg
        exact type_ne q3 h3 (by decide) rfl
  · have : z.pl = true → ∃ z', L[i]? = some z' ∧ z'.pl = true := fun hp' => by
      rw [List.getElem?_set] at hz
      by_cases e : A.r x = i
      · rw [if_pos e] at hz
        subst e
        rw [if_pos (List.getElem?_eq_some_iff.1 hy).1] at hz
        cases hz
        rw [show ({ y with wk := c.wks } : Nd).pl = y.pl from rfl, hpl] at hp'
        cases hp'
      · rw [if_neg e] at hz
        obtain ⟨z', b', hz', rfl⟩ := hs.back hz
        exact ⟨z', hz', hp'⟩
    obtain ⟨z', hz', hp2⟩ := this hp'
    exact h.pl i z' hz' hp2
  · rcases List.mem_or_eq_of_mem_set hz with hz | rfl
    · obtain ⟨i, hi⟩ := List.getElem?_of_mem hz
      obtain ⟨z', b', hz', rfl⟩ := hs.back hi
      exact h.wk z' (List.mem_of_getElem? hz')
    · exact Int.le_refl _
  · rcases ho4 with e | e
    · exact hon g (by rw [← e]; exact hg)
    · rw [hg] at e
      cases e
      intro e2
      obtain ⟨_, cs, hcs⟩ := ib2.blk _ (ib4.trans e2)
      have := hb_lt hcs
      omega
  · have h1 := (h.df.congr (vis_same hs) (pln_same hs)).visit hA (hR.at hy) hnp
    exact h1.congr (fun i => (vis_mark hy i).symm) (fun i => (pln_mark hy i).symm)
  · rcases (vis_mark hy z).1 hz with hz | rfl
    · have h1 := h.asd z ((vis_same hs z).2 hz)
      refine ⟨fun hk1 => ⟨(h1.1 hk1).1, ?_⟩, h1.2⟩
      split
      · simp [(h1.1 hk1).2]
      · exact (h1.1 hk1).2
    · rw [hkd]
      refine ⟨fun hk1 => ⟨hok hk1, by rw [if_pos hk1]; simp⟩, fun hk5 => ?_⟩
      rw [hR.lv _ _ hy]
      exact hok5 hk5
  · split at hz
    · rename_i hk1
      rcases List.mem_append.1 hz with hz | hz
      · exact h.ii z hz
      · cases List.mem_singleton.1 hz
        exact ⟨hxI, by rw [hkd]; exact hk1⟩
    · exact h.ii z hz
  · split
    · rw [List.length_append]
      have : [A.r x].length = 1 := rfl
      omega
    · omega
  · rw [List.length_append]; omega
  · rw [List.length_append]; omega
end Go.Proofs.YtncebhddcokkoaaDoor
