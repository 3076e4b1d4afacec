/- Texts in a row: Kk Km Kl. -/
import Derived.Test.YtncebhddcokkoaaDoorZM22
import Derived.BigQuiet
/- A walk's memory. -/
namespace Go.Proofs.YtncebhddcokkoaaDoor
open Go.RowKit
set_option linter.unusedSimpArgs false
set_option linter.unusedVariables false
/-- All that was there stays but the store's own, and a box. -/
structure Kq (c : Cfg) (bi : Nat) (w w' : World) : Prop where
  below : Below c.b0 w w'
  size : w.heap.size ≤ w'.heap.size
  block : ∀ (k : Nat) (x : Obj), w.heap[k]? = some x → k ≠ c.B → k ≠ bi → (∀ cs fr, x ≠ .cells cs 90 fr) → w'.heap[k]? = some x
theorem Kq.of_kp {c : Cfg} {bi : Nat} {w w' : World} (h : Kp c w w') : Kq c bi w w' := ⟨h.below, h.size, fun k x h1 h2 _ h3 => h.block k x h1 h2 h3⟩
theorem Kq.trans {c : Cfg} {bi : Nat} {w w1 w2 : World} (h : Kq c bi w w1) (k : Kq c bi w1 w2) : Kq c bi w w2 :=
  ⟨h.below.trans k.below, Nat.le_trans h.size k.size, fun g x h1 h2 h3 h4 => k.block g x (h.block g x h1 h2 h3 h4) h2 h3 h4⟩
/-- From what was there, where rows that are new change. -/
theorem Kq.step {c : Cfg} {bi : Nat} {w w1 w2 : World} (h : Kq c bi w w1) (hb : Below c.b0 w1 w2) (k : ∀ (g : Nat) (x : Obj), g < w.heap.size → w1.heap[g]? = some x → g ≠ c.B → g ≠ bi → (∀ cs fr, x ≠ .cells cs 90 fr) → w2.heap[g]? = some x) : Kq c bi w w2 :=
  ⟨h.below.trans hb, Nat.le_trans h.size hb.size, fun g x h1 h2 h3 h4 => k g x (hb_lt h1) (h.block g x h1 h2 h3 h4) h2 h3 h4⟩
theorem KI.q {c : Cfg} {bi : Nat} {w w' : World} {v : Value} {l : List Nat} (h : KI c.B w v l) (k : Kq c bi w w') (hbi : ∃ cs fr, w.heap[bi]? = some (.cells cs 88 fr)) : KI c.B w' v l := by
  obtain ⟨q, cc, h1, h2⟩ := h
  refine ⟨q, cc, h1, ?_⟩
  rcases h2 with h2 | ⟨g, o, cs, fr, e, hg, hB, hc⟩
  · exact .inl h2
  · refine .inr ⟨g, o, cs, fr, e, k.block g _ hg hB (fun e => ?_) (fun cs' fr' e2 => by injection e2 with _ e3 _; exact absurd e3 (by decide)), hB, hc⟩
    obtain ⟨cs', fr', h3⟩ := hbi
    rw [e, h3] at hg
    injection hg with hg
    injection hg with _ e3 _
    exact absurd e3 (by decide)
theorem StL.frame {c : Cfg} {bi : Nat} {v : Value} {L : List Nd} {w0 W W' : World} (h : StL c v L W) (hk : ∀ x ∈ L, KI c.B w0 x.ks x.i.kids) (hq : Kq c bi w0 W') (hbi : ∃ cs fr, w0.heap[bi]? = some (.cells cs 88 fr)) (hB : W'.heap[c.B]? = W.heap[c.B]?) (hr : ∀ g cs, v.ownBlock = some g → W.heap[g]? = some (.cells cs 90 (0, 0)) → W'.heap[g]? = some (.cells cs 90 (0, 0))) : StL c v L W' := by
  refine ⟨h.hb, h.ne, by rw [hB]; exact h.blk, ?_, fun x hx => (hk x hx).q hq hbi, h.few⟩
  rcases h.row with h1 | ⟨g, cap, cur, rfl, h2, h3, h4⟩
  · exact .inl h1
  · exact .inr ⟨g, cap, cur, rfl, h2, hr g cur rfl h3, h4⟩
/-- The last one of a row. -/
theorem IRow.pop {base : Nat} {w : World} {v : Value} {T : List Nat} {t : Nat} (h : IRow base w v (T ++ [t])) : ∃ g cap, v = .slice (some ⟨g, 0, none⟩) (T.length + 1) cap ∧ T.length + 1 ≤ cap ∧ cap ≤ maxLen ∧ base ≤ g ∧ w.cell? ⟨g, T.length, none⟩ = some (intV t) ∧ (∃ cs, w.heap[g]? = some (.cells cs 3 (0, 0))) ∧ IRow base w (.slice (some ⟨g, 0, none⟩) T.length cap) T := by
  obtain ⟨hl, h2⟩ := h
  rw [List.length_append] at h2
  rcases h2 with ⟨rfl, h0⟩ | ⟨g, cap, cur, rfl, h3, h4, h5, h6, h7, h8⟩
  · have h9 : T.length + 1 = 0 := h0
    omega
  · have h5' : T.length + 1 ≤ cap := h5
    rw [Nat.mul_one] at h8 h7
    rw [List.map_append] at h8
    refine ⟨g, cap, rfl, h5', h6, h3, ?_, ⟨cur, h4⟩, by simp, .inr ⟨g, cap, cur, rfl, h3, h4, by omega, h6, by omega, ?_⟩⟩
    · rw [hb_cell h4, ← Array.getElem?_toList]
      have e : (cur.toList.take (T.length + [t].length))[T.length]? = (T.map intV ++ [t].map intV)[T.length]? := by rw [h8]
      rw [List.getElem?_take, if_pos (by simp)] at e
      rw [e]
      simp
    · rw [Nat.mul_one]
      have e := congrArg (List.take T.length) h8
      rw [List.take_take] at e
      have e2 : min T.length (T.length + [t].length) = T.length := by simp
      rw [e2] at e
      rw [e]
      simp
/-- A walk's round. -/
structure WI (c : Cfg) (A : Abs) (base bi a : Nat) (lv : Int) (b : Nat) (w0 : World) (t : Value) (wr : World) (m : Nat) (v : Value) (L : List Nd) (rk : Nat → Nat) (T I : List Nat) (o : Option Nat) : Prop where
  st : StL c v L wr
  rep : Rep rk L A
  pl : ∀ i x, L[i]? = some x → x.pl = true → ∀ θ θ', A.Mod θ → A.Mod θ' → θ i = θ' i
  wk : ∀ x ∈ L, x.wk ≤ c.wks
  k0 : ∀ x ∈ L, KI c.B w0 x.ks x.i.kids
  tr : IRow w0.heap.size wr t T
  ne : ∀ g, t.ownBlock = some g → o ≠ some g
  io : ∀ g, o = some g → w0.heap.size ≤ g
  ib : InBox wr base bi I o
  df : Dfs A (Vis c.wks L) (Pln L) b T
  asd : ∀ z, Vis c.wks L z → (A.kd z = 1 → z ≠ a ∧ z ∈ I) ∧ (A.kd z = 5 → A.lv z ≤ lv)
  ii : ∀ z ∈ I, A.Reach b z ∧ A.kd z = 1
  kq : Kq c bi w0 wr
  f1 : I.length + pot c.wks L ≤ 100000
  f2 : T.length + pot c.wks L ≤ 200000
  f3 : T.length + pot c.wks L ≤ m
end Go.Proofs.YtncebhddcokkoaaDoor
/- A walk's round at a type that is met the first time. -/
namespace Go.Proofs.YtncebhddcokkoaaDoor
open Go.RowKit
set_option linter.unusedSimpArgs false
set_option linter.unusedVariables false
theorem irow_keep {base : Nat} {c : Cfg} {w w' : World} {v : Value} {l : List Nat} (h : IRow base w v l) (hk : Kp c w w') (hB : c.B < base) : IRow base w' v l := by
  refine h.keep fun g y hg hy => hk.block g y hy ?_ ?_
  · have := (h.blk g hg).1; omega
  · intro cs fr e
    obtain ⟨_, cs', h2⟩ := h.blk g hg
    rw [h2] at hy
    cases hy
    injection e with _ e2 _
    exact absurd e2 (by decide)
theorem inbox_keep {base bi : Nat} {c : Cfg} {w w' : World} {I : List Nat} {o : Option Nat} (h : InBox w base bi I o) (hk : Kp c w w') (hB : c.B < base) : InBox w' base bi I o := by
  obtain ⟨v, h1, h2, h3, h4⟩ := h
  exact ⟨v, hk.block bi _ h1 (by omega) (fun cs fr e => by injection e with _ e2 _; exact absurd e2 (by decide)), irow_keep h2 hk hB, h3, h4⟩
theorem InBox.own {base bi : Nat} {w : World} {I : List Nat} {o : Option Nat} (h : InBox w base bi I o) : ∀ g, o = some g → ∃ cs, w.heap[g]? = some (.cells cs 3 (0, 0)) := by
  obtain ⟨v, h1, h2, h3, h4⟩ := h
  intro g hg
  exact (h2.blk g (h3.trans hg)).2
theorem InBox.box {base bi : Nat} {w : World} {I : List Nat} {o : Option Nat} (h : InBox w base bi I o) : ∃ v, w.heap[bi]? = some (.cells #[v] 88 (0, 0)) := let ⟨v, h1, _⟩ := h; ⟨v, h1⟩
theorem type_ne {cs cs' : Array Value} {T T' : TypeId} {fr fr' : Nat × Nat} {w : World} {g g' : Nat} (h : w.heap[g]? = some (.cells cs T fr)) (h' : w.heap[g']? = some (.cells cs' T' fr')) (hT : T ≠ T') : g ≠ g' := by
  rintro rfl
  rw [h] at h'
  injection h' with h'
  injection h' with _ e _
  exact hT e
theorem WI.met {c : Cfg} {A : Abs} {base bi a b m : Nat} {lv : Int} {w0 wr w2 W2 w3 : World} {t v : Value} {L L' : List Nd} {rk : Nat → Nat} {T I : List Nat} {o o' : Option Nat} {x : Nat} {y : Nd} (h : WI c A base bi a lv b w0 t wr m v L rk (T ++ [x]) I o) (hB : c.B < base) (hbw : base ≤ w0.heap.size)
    (hs : SameBe L L') (hk : Kp c wr W2) (hy : L'[A.r x]? = some y) (hS : StL c v (L'.set (A.r x) { y with wk := c.wks }) W2)
    (hb3 : Below base W2 w3) (hfr : ∀ k z, W2.heap[k]? = some z → k ≠ bi → some k ≠ o → w3.heap[k]? = some z) (hbi : ∃ cs fr, w0.heap[bi]? = some (.cells cs 88 fr)) :
    Kq c bi w0 w3 ∧ StL c v (L'.set (A.r x) { y with wk := c.wks }) w3 ∧ (∀ z ∈ L'.set (A.r x) { y with wk := c.wks }, KI c.B w0 z.ks z.i.kids) ∧ ∀ t', IRow w0.heap.size wr t' T → t'.ownBlock = t.ownBlock → IRow w0.heap.size w3 t' T := by
  have hb0 : c.b0 ≤ base := by have := hS.hb; omega
  have hib := inbox_keep h.ib hk hB
  have hbl : w0.heap.size ≤ W2.heap.size := Nat.le_trans h.kq.size hk.size
  have hkq : Kq c bi w0 w3 := (h.kq.trans (Kq.of_kp hk)).step (hb3.mono hb0) fun g z hg hz h1 h2 h3 => hfr g z hz h2 (fun e => by have := h.io g e.symm; omega)
  have hk0 : ∀ z ∈ L', KI c.B w0 z.ks z.i.kids := by
    intro z hz
    obtain ⟨i, hi⟩ := List.getElem?_of_mem hz
    obtain ⟨y', b', hy', rfl⟩ := hs.back hi
    exact h.k0 y' (List.mem_of_getElem? hy')
  have hkM : ∀ z ∈ L'.set (A.r x) { y with wk := c.wks }, KI c.B w0 z.ks z.i.kids := by
    intro z hz
    rcases List.mem_or_eq_of_mem_set hz with hz | rfl
    · exact hk0 z hz
    · exact hk0 y (List.mem_of_getElem? hy)
  obtain ⟨vb, hvb⟩ := hib.box
  refine ⟨hkq, hS.frame hkM hkq hbi ?_ ?_, hkM, fun t' ht he => (irow_keep ht hk (by omega)).keep fun g z hg hz => hfr g z hz ?_ (fun e => h.ne g (by rw [← he]; exact hg) e.symm)⟩
  · have h1 := hS.blk
    rw [hfr c.B _ h1 (by have := hib; obtain ⟨_, _, _, _, h4⟩ := hib; omega) (fun e => by have := h.io c.B e.symm; omega), h1]
  · intro g cs hg hcs
    refine hfr g _ hcs (type_ne hcs hvb (by decide)) fun e => ?_
    obtain ⟨cs', h2⟩ := hib.own g e.symm
    exact type_ne hcs h2 (by decide) rfl
  · obtain ⟨_, cs, hcs⟩ := (irow_keep ht hk (by omega)).blk g hg
    exact type_ne hcs hvb (by decide)
theorem WI.ex {c : Cfg} {A : Abs} {base bi a b m : Nat} {lv : Int} {w0 wr : World} {t v : Value} {L L' : List Nd} {rk : Nat → Nat} {T I : List Nat} {o : Option Nat} {j : Nat} {y : Nd} (h : WI c A base bi a lv b w0 t wr m v L rk T I o) (hs : SameBe L L') (hy : L'[j]? = some y) (hpl : y.pl = false) : Ex c (L'.set j { y with wk := c.wks }) A := by
  refine ⟨fun i z hz hp' => ?_, fun z hz => ?_⟩
  · have : z.pl = true → ∃ z', L[i]? = some z' ∧ z'.pl = true := fun hp' => by
      rw [List.getElem?_set] at hz
      by_cases e : j = i
      · rw [if_pos e] at hz
        subst e
        rw [if_pos (List.getElem?_eq_some_iff.1 hy).1] at hz
        cases hz
        rw [show ({ y with wk := c.wks } : Nd).pl = y.pl from rfl, hpl] at hp'
        cases hp'
      · rw [if_neg e] at hz
        obtain ⟨z', b', hz', rfl⟩ := hs.back hz
        exact ⟨z', hz', hp'⟩
    obtain ⟨z', hz', hp2⟩ := this hp'
    exact h.pl i z' hz' hp2
  · rcases List.mem_or_eq_of_mem_set hz with hz | rfl
    · obtain ⟨i, hi⟩ := List.getElem?_of_mem hz
      obtain ⟨z', b', hz', rfl⟩ := hs.back hi
      exact h.wk z' (List.mem_of_getElem? hz')
    · exact Int.le_refl _
theorem WI.next {c : Cfg} {A : Abs} {base bi a b m : Nat} {lv : Int} {w0 wr w2 W2 w3 w4 : World} {t v v4 : Value} {L L' : List Nd} {rk : Nat → Nat} {T I : List Nat} {o o' : Option Nat} {x : Nat} {y : Nd} (h : WI c A base bi a lv b w0 t wr m v L rk (T ++ [x]) I o) (hB : c.B < base) (hbw : base ≤ w0.heap.size) (hA : A.Ok)
    (hs : SameBe L L') (hR : Rep rk L' A) (hk : Kp c wr W2) (hy : L'[A.r x]? = some y) (hpl : y.pl = false) (hwk : y.wk ≠ c.wks)
    (ho3 : o' = o ∨ ∃ g, o' = some g ∧ W2.heap.size ≤ g) (ib3 : InBox w3 base bi (if y.i.k = 1 then I ++ [A.r x] else I) o') (hbi : ∃ cs fr, w0.heap[bi]? = some (.cells cs 88 fr))
    (hkq : Kq c bi w0 w3) (hS3 : StL c v (L'.set (A.r x) { y with wk := c.wks }) w3) (hkM : ∀ z ∈ L'.set (A.r x) { y with wk := c.wks }, KI c.B w0 z.ks z.i.kids)
    (hr4 : IRow w0.heap.size w4 v4 (T ++ y.i.kids)) (hg4 : w3.grownBy w4 t.ownBlock) (ho4 : v4.ownBlock = t.ownBlock ∨ v4.ownBlock = some w3.heap.size) (hok : y.i.k = 1 → A.r x ≠ a) (hok5 : y.i.k = 5 → y.lv ≤ lv) :
    WI c A base bi a lv b w0 v4 w4 (m - 1) v (L'.set (A.r x) { y with wk := c.wks }) rk (T ++ y.i.kids) (if y.i.k = 1 then I ++ [A.r x] else I) o' := by
  have ht3 : ∀ g, t.ownBlock = some g → w0.heap.size ≤ g ∧ g < W2.heap.size ∧ ∃ cs, wr.heap[g]? = some (.cells cs 3 (0, 0)) := by
    intro g hg
    obtain ⟨h1, cs, h2⟩ := h.tr.blk g hg
    have := hb_lt h2
    exact ⟨h1, by have := hk.size; omega, cs, h2⟩
  have hbl : w0.heap.size ≤ W2.heap.size := Nat.le_trans h.kq.size hk.size
  have hb0 : c.b0 ≤ base := by have := hS3.hb; omega
  have hbel : Below c.b0 w3 w4 := ⟨hg4.os, hg4.tape, hg4.output, hg4.size, fun k hk2 => hg4.block k (by have := hkq.size; omega) (fun e => by have := (ht3 k e.symm).1; omega)⟩
  have hkq4 : Kq c bi w0 w4 := hkq.step hbel fun g z hg hz h1 h2 h3 => hb_grown hz hg4 (fun e => by have := (ht3 g e.symm).1; omega)
  have hbiw := h.ib
  obtain ⟨vb, ib1, ib2, ib4, ib5⟩ := ib3
  have hbilt : bi < w0.heap.size := by obtain ⟨cs, fr, h1⟩ := hbi; exact hb_lt h1
  have ho' : ∀ g, o' = some g → w0.heap.size ≤ g := by
    intro g hg
    rcases ho3 with e | ⟨g', e, hg'⟩
    · exact h.io g (by rw [← e]; exact hg)
    · rw [hg] at e; cases e; omega
  have hon : ∀ g, t.ownBlock = some g → o' ≠ some g := by
    intro g hg e2
    rcases ho3 with e | ⟨g', e, hg'⟩
    · exact h.ne g hg (by rw [← e]; exact e2)
    · rw [e2] at e; cases e; have := (ht3 g hg).2.1; omega
  have hkd : A.kd (A.r x) = y.i.k := by
    have h1 := hR.at hy
    exact Abs.kd_some (by rw [hA.idem]; exact h1)
  have hp := pot_set (k := c.wks) hy hwk
  have hps := pot_same (k := c.wks) hs
  have f1 := h.f1
  have f2 := h.f2
  have f3 := h.f3
  rw [List.length_append] at f2 f3
  have f4 : [x].length = 1 := rfl
  have hxI := h.df.tc x (by simp) _ (.here x)
  have hnp : ¬ Pln L' (A.r x) := by
    rintro ⟨y', hy', hp'⟩
    rw [hy] at hy'
    cases hy'
    rw [hpl] at hp'
    cases hp'
  refine ⟨hS3.frame hkM hkq4 hbi ?_ ?_, hR.mark hy _, fun i z hz hp' => ?_, fun z hz => ?_, hkM, hr4, fun g hg => ?_, ho', ⟨vb, hb_grown ib1 hg4 (fun e => by have := (ht3 bi e.symm).1; omega), ib2.keep fun g z hg hz => hb_grown hz hg4 (fun e => hon g e.symm (by rw [← ib4]; exact hg)), ib4, ib5⟩, ?_, fun z hz => ?_, fun z hz => ?_, hkq4, ?_, ?_, ?_⟩
  · exact hg4.block _ hS3.lt (fun e => by have := (ht3 c.B e.symm).1; omega)
  · intro g cs hg hcs
    refine hb_grown hcs hg4 fun e => ?_
    obtain ⟨h1, h2, cs', h3⟩ := ht3 g e.symm
    -- the walk's row is no type's row
    have h5 : w3.heap[g]? = some (.cells cs 90 (0, 0)) := hcs
    have h6 := hk.block g _ h3 (by omega) (fun cs fr e => by injection e with _ e2 _; exact absurd e2 (by decide))
    rcases hS3.row with ⟨_, r1⟩ | ⟨g', cap, cur, r1, r2, r3, _⟩
    · rw [r1] at hg; cases hg
    · rcases h.st.row with ⟨_, q1⟩ | ⟨g'', cap'', cur'', q1, q2, q3, _⟩
      · rw [q1] at hg; cases hg
      · rw [q1] at hg
        cases hg
        exact type_ne q3 h3 (by decide) rfl
  · have : z.pl = true → ∃ z', L[i]? = some z' ∧ z'.pl = true := fun hp' => by
      rw [List.getElem?_set] at hz
      by_cases e : A.r x = i
      · rw [if_pos e] at hz
        subst e
        rw [if_pos (List.getElem?_eq_some_iff.1 hy).1] at hz
        cases hz
        rw [show ({ y with wk := c.wks } : Nd).pl = y.pl from rfl, hpl] at hp'
        cases hp'
      · rw [if_neg e] at hz
        obtain ⟨z', b', hz', rfl⟩ := hs.back hz
        exact ⟨z', hz', hp'⟩
    obtain ⟨z', hz', hp2⟩ := this hp'
    exact h.pl i z' hz' hp2
  · rcases List.mem_or_eq_of_mem_set hz with hz | rfl
    · obtain ⟨i, hi⟩ := List.getElem?_of_mem hz
      obtain ⟨z', b', hz', rfl⟩ := hs.back hi
      exact h.wk z' (List.mem_of_getElem? hz')
    · exact Int.le_refl _
  · rcases ho4 with e | e
    · exact hon g (by rw [← e]; exact hg)
    · rw [hg] at e
      cases e
      intro e2
      obtain ⟨_, cs, hcs⟩ := ib2.blk _ (ib4.trans e2)
      have := hb_lt hcs
      omega
  · have h1 := (h.df.congr (vis_same hs) (pln_same hs)).visit hA (hR.at hy) hnp
    exact h1.congr (fun i => (vis_mark hy i).symm) (fun i => (pln_mark hy i).symm)
  · rcases (vis_mark hy z).1 hz with hz | rfl
    · have h1 := h.asd z ((vis_same hs z).2 hz)
      refine ⟨fun hk1 => ⟨(h1.1 hk1).1, ?_⟩, h1.2⟩
      split
      · simp [(h1.1 hk1).2]
      · exact (h1.1 hk1).2
    · rw [hkd]
      refine ⟨fun hk1 => ⟨hok hk1, by rw [if_pos hk1]; simp⟩, fun hk5 => ?_⟩
      rw [hR.lv _ _ hy]
      exact hok5 hk5
  · split at hz
    · rename_i hk1
      rcases List.mem_append.1 hz with hz | hz
      · exact h.ii z hz
      · cases List.mem_singleton.1 hz
        exact ⟨hxI, by rw [hkd]; exact hk1⟩
    · exact h.ii z hz
  · split
    · rw [List.length_append]
      have : [A.r x].length = 1 := rfl
      omega
    · omega
  · rw [List.length_append]; omega
  · rw [List.length_append]; omega
end Go.Proofs.YtncebhddcokkoaaDoor
/- A walk over a store's types, whole. -/
namespace Go.Proofs.YtncebhddcokkoaaDoor
open Go.RowKit
set_option linter.unusedSimpArgs false
set_option linter.unusedVariables false
theorem WI.pass {c : Cfg} {A : Abs} {base bi a b m : Nat} {lv : Int} {w0 wr w1 : World} {t t' v : Value} {L L' : List Nd} {rk : Nat → Nat} {T I : List Nat} {o : Option Nat} {x : Nat} (h : WI c A base bi a lv b w0 t wr m v L rk (T ++ [x]) I o) (hB : c.B < base) (hbw : base ≤ w0.heap.size)
    (hS : StL c v L' w1) (hR : Rep rk L' A) (hs : SameBe L L') (hk : Kp c wr w1) (hz : Pln L' (A.r x) ∨ Vis c.wks L' (A.r x)) (ht : IRow w0.heap.size wr t' T) (hne : t'.ownBlock = t.ownBlock) : WI c A base bi a lv b w0 t' w1 (m - 1) v L' rk T I o := by
  have f2 := h.f2
  have f3 := h.f3
  rw [List.length_append] at f2 f3
  have f4 : [x].length = 1 := rfl
  refine ⟨hS, hR, fun i y hy hp => ?_, fun y hy => ?_, fun y hy => ?_, irow_keep ht hk (by omega), fun g hg => h.ne g (by rw [← hne]; exact hg), h.io, inbox_keep h.ib hk hB, ?_, fun z hz2 => h.asd z ((vis_same hs z).2 hz2), h.ii, h.kq.trans (Kq.of_kp hk), by rw [pot_same hs]; exact h.f1, by rw [pot_same hs]; omega, by rw [pot_same hs]; omega⟩
  · obtain ⟨y', b', hy', rfl⟩ := hs.back hy
    exact h.pl i y' hy' hp
  · obtain ⟨i, hi⟩ := List.getElem?_of_mem hy
    obtain ⟨y', b', hy', rfl⟩ := hs.back hi
    exact h.wk y' (List.mem_of_getElem? hy')
  · obtain ⟨i, hi⟩ := List.getElem?_of_mem hy
    obtain ⟨y', b', hy', rfl⟩ := hs.back hi
    exact h.k0 y' (List.mem_of_getElem? hy')
  · exact (h.df.congr (vis_same hs) (pln_same hs)).pass hz
theorem WI.below {c : Cfg} {A : Abs} {base bi a b m : Nat} {lv : Int} {w0 wr w1 : World} {t v : Value} {L : List Nd} {rk : Nat → Nat} {T I : List Nat} {o : Option Nat} (h : WI c A base bi a lv b w0 t wr m v L rk T I o) (hB : c.B < base) (hbw : base ≤ w0.heap.size) (hb : Below wr.heap.size wr w1) : WI c A base bi a lv b w0 t w1 m v L rk T I o := by
  have hk : Kp c wr w1 := Kp.of_below (Nat.le_trans h.st.hb (Nat.le_of_lt h.st.lt)) hb
  exact ⟨h.st.below hb, h.rep, h.pl, h.wk, h.k0, irow_keep h.tr hk (by omega), h.ne, h.io, inbox_keep h.ib hk hB, h.df, h.asd, h.ii, h.kq.trans (Kq.of_kp hk), h.f1, h.f2, h.f3⟩
theorem mem_le_sum {a : Nat} : ∀ {l : List Nat}, a ∈ l → a ≤ l.sum
  | b :: l, h => by
    rw [List.sum_cons]
    rcases List.mem_cons.1 h with rfl | h
    · omega
    · have := mem_le_sum h
      omega
/-- What a walk leaves. -/
def WalkQ (c : Cfg) (A : Abs) (base bi a : Nat) (lv : Int) (b : Nat) (w : World) (e : Ending) (w' : World) : Prop :=
  ∃ r, e = .returned (.bool r) ∧ St { c with wks := c.wks + 1 } A w' ∧ Kq c bi w w' ∧
    (r = true → ∃ I o, InBox w' base bi I o ∧ (∀ g, o = some g → w.heap.size ≤ g) ∧ I.length ≤ 100000 ∧ (∀ z, A.Reach b z → A.kd z = 1 → z ≠ a ∧ z ∈ I) ∧ (∀ z, A.Reach b z → A.kd z = 5 → A.lv z ≤ lv) ∧ ∀ z ∈ I, A.Reach b z ∧ A.kd z = 1) ∧
    (r = false → (A.Reach b a ∧ A.kd a = 1) ∨ ∃ z, A.Reach b z ∧ A.kd z = 5 ∧ lv < A.lv z)
set_option maxRecDepth 100000 in
set_option maxHeartbeats 4000000 in
theorem walk_any (c : Cfg) (A : Abs) (w : World) (base bs bi ba bl a : Nat) (lv : Int) (b : Nat) (hA : A.Ok) (hF : A.Fin) (hL : A.Like) (h : St c A w) (hbl : b < A.l.length) (hw0 : 0 ≤ c.wks) (hw1 : c.wks < 4611686018427387904) (hB : c.B < base) (hbw : base ≤ w.heap.size) (htot : (A.l.map fun x => x.kids.length + 1).sum ≤ 100000)
    (hs : w.heap[bs]? = some (.cells #[.pointer (some ⟨c.B, 0, none⟩)] 51 (0, 0))) (ha : w.heap[ba]? = some (.cells #[intV a] 3 (0, 0))) (hl : w.heap[bl]? = some (.cells #[.int .i64 lv] 3 (0, 0))) (hbs : base ≤ bs) (hba : base ≤ ba) (hbll : base ≤ bl) (hI : w.heap[bi]? = some (.cells #[.slice none 0 0] 88 (0, 0))) (hbi : base ≤ bi) :
    Calls Tryd.prog 76 #[.pointer (some ⟨c.B, 0, none⟩), intV b, .func (.func 77) #[] #[.pointer (some ⟨bs, 0, none⟩), .pointer (some ⟨bi, 0, none⟩), .pointer (some ⟨ba, 0, none⟩), .pointer (some ⟨bl, 0, none⟩)]] w (WalkQ c A base bi a lv b w) := by
  obtain ⟨v, L, rk, h1, h2, h3⟩ := h
  obtain ⟨s0, s1, s2, s3, s4, _, hfz⟩ := h1.own5
  have hfz4 := hfz 4
  have hwr : IntKind.i64.wrap (c.wks + 1) = c.wks + 1 := IntWalk.i64_in _ (by omega)
  have HC := h1.setWks (c.wks + 1)
  have HC2 := Lib.hid HC
  have H1 := Lib.hid h1
  have H2 := Lib.hid h2
  have H3 := Lib.hid h3
  clear h1 h2 h3 HC s0 s1 s2 s3 hfz
  go_enter Tryd.func76, Tryd.ntmps76
  go_wp2
  obtain ⟨hS1, hK1⟩ := HC2.out
  have hbbb : c.b0 ≤ w.heap.size := by have := hS1.hb; have : c.b0 ≤ c.B := this; omega
  have hb2 := below_alloc (w.setCell ⟨c.B, 4, none⟩ (.int .i64 (c.wks + 1))) (.cells #[intV b] 3)
  have hz1 : (w.setCell ⟨c.B, 4, none⟩ (.int .i64 (c.wks + 1))).heap.size = w.heap.size := by simp [World.setCell]
  have hnew := hb_new (w.setCell ⟨c.B, 4, none⟩ (.int .i64 (c.wks + 1))) (.cells #[intV b] 3)
  rw [hz1] at hnew
  have hS2 := hS1.below hb2
  have hK2 : Kp { c with wks := c.wks + 1 } w ((w.setCell ⟨c.B, 4, none⟩ (.int .i64 (c.wks + 1))).alloc (.cells #[intV b] 3)) := by
    have k1 : Kp c w ((w.setCell ⟨c.B, 4, none⟩ (.int .i64 (c.wks + 1))).alloc (.cells #[intV b] 3)) := hK1.trans (Kp.of_below (by rw [hz1]; omega) hb2)
    exact ⟨k1.below, k1.size, k1.block⟩
  have hsz2 : ((w.setCell ⟨c.B, 4, none⟩ (.int .i64 (c.wks + 1))).alloc (.cells #[intV b] 3)).heap.size = w.heap.size + 1 := by rw [World.size_alloc, hz1]
  have HI0 : InBox ((w.setCell ⟨c.B, 4, none⟩ (.int .i64 (c.wks + 1))).alloc (.cells #[intV b] 3)) base bi [] none := ⟨.slice none 0 0, hK2.block bi _ hI (by show bi ≠ c.B; omega) (fun cs fr e => by injection e with _ e2 _; exact absurd e2 (by decide)), World.ownsRow_nil _ _ _ _, rfl, hbi⟩
  generalize (w.setCell ⟨c.B, 4, none⟩ (.int .i64 (c.wks + 1))).alloc (.cells #[intV b] 3) = W1 at *
  have hT0 : IRow w.heap.size W1 (.slice (some ⟨w.heap.size, 0, none⟩) 1 1) [b] := ⟨rfl, .inr ⟨w.heap.size, 1, #[intV b], rfl, Nat.le_refl _, hnew, Nat.le_refl _, by decide, rfl, rfl⟩⟩
  have hpl : pot (c.wks + 1) L ≤ 99999 + 1 := by
    have h5 := pot_le (c.wks + 1) L
    have e : (A.l.map fun x => x.kids.length + 1) = (L.map fun x => x.i.kids.length + 1) := by rw [H2.out.l, List.map_map]; rfl
    rw [e] at htot
    omega
  have hstart : ∃ m v L rk T I o, WI { c with wks := c.wks + 1 } A base bi a lv b w (.slice (some ⟨w.heap.size, 0, none⟩) 1 1) W1 m v L rk T I o := by
    refine ⟨1 + pot (c.wks + 1) L, v, L, rk, [b], [], none, hS2, H2.out, H3.out.pl, fun x hx => ?_, H1.out.kid, hT0, fun g _ e => (by cases e), fun g e => (by cases e), HI0, Dfs.start hbl ?_, ?_, fun z hz => (by cases hz), Kq.of_kp hK2, ?_, ?_, Nat.le_refl _⟩
    · have := H3.out.wk x hx
      show x.wk ≤ c.wks + 1
      omega
    · rintro i ⟨x, hx, e⟩
      have := H3.out.wk x (List.mem_of_getElem? hx)
      have e : x.wk = c.wks + 1 := e
      omega
    · rintro z ⟨x, hx, e⟩
      have := H3.out.wk x (List.mem_of_getElem? hx)
      have e : x.wk = c.wks + 1 := e
      omega
    · show 0 + pot (c.wks + 1) L ≤ 100000
      omega
    · show 1 + pot (c.wks + 1) L ≤ 200000
      omega
  have HST := Lib.hid hstart
  have hHs := Lib.hid hs
  have hHa := Lib.hid ha
  have hHl := Lib.hid hl
  have hHi := Lib.hid hI
  clear hstart hpl hT0 HI0 hK2 hS2 hS1 hK1 hb2 hz1 hnew HC2 H1 H2 H3 hs ha hl hI s4 hfz4 hwr hsz2
  have hwr : IntKind.i64.wrap (c.wks + 1) = c.wks + 1 := IntWalk.i64_in _ (by omega)
  clear hw0 hw1 hwr
  generalize hc' : ({ c with wks := c.wks + 1 } : Cfg) = c' at *
  have hcB : c'.B = c.B := by rw [← hc']
  rw [← hcB]
  rw [← hcB] at hB
  have hHs2 : RowKit.Hid (w.heap[bs]? = some (.cells #[.pointer (some ⟨c'.B, 0, none⟩)] 51 (0, 0))) := Lib.hid (by rw [hcB]; exact hHs.out)
  have HCC := Lib.hid hc'
  clear hc' hcB
  go_loopw [7] (fun t wr => ∃ m v L rk T I o, WI c' A base bi a lv b w t wr m v L rk T I o) (fun t wr => least fun m => ∃ v L rk T I o, WI c' A base bi a lv b w t wr m v L rk T I o)
  case atStart => exact HST.out
  case round =>
    have hle := least_spec (P := fun m => ∃ v L rk T I o, WI c' A base bi a lv b w u7 wr m v L rk T I o) hrel
    have hless : ∀ t' wr' m', m' < (least fun m => ∃ v L rk T I o, WI c' A base bi a lv b w u7 wr m v L rk T I o) → (∃ v L rk T I o, WI c' A base bi a lv b w t' wr' m' v L rk T I o) → (∃ m v L rk T I o, WI c' A base bi a lv b w t' wr' m v L rk T I o) ∧ (least fun m => ∃ v L rk T I o, WI c' A base bi a lv b w t' wr' m v L rk T I o) < (least fun m => ∃ v L rk T I o, WI c' A base bi a lv b w u7 wr m v L rk T I o) := fun t' wr' m' h1 h2 => ⟨⟨m', h2⟩, Nat.lt_of_le_of_lt (least_le h2) h1⟩
    obtain ⟨m0, hm0⟩ : ∃ m0, m0 = least fun m => ∃ v L rk T I o, WI c' A base bi a lv b w u7 wr m v L rk T I o := ⟨_, rfl⟩
    rw [← hm0] at hle
    have HM := Lib.hid hm0
    clear hm0
    have HLE := Lib.hid hless
    clear hless hrel
    obtain ⟨v, L, rk, T, I, o, hW⟩ := hle
    have HW := Lib.hid hW
    rcases List.eq_nil_or_concat T with rfl | ⟨T', x, rfl⟩
    · obtain ⟨q, cap, rfl, _, _⟩ := hW.tr.shape
      have HDF := Lib.hid hW.df
      clear hW
      go_wp2
      go_ret
      have hW := HW.out
      refine ⟨true, rfl, ?_, ?_, fun _ => ⟨I, o, hW.ib, hW.io, by have := hW.f1; omega, fun z hz hk => ?_, fun z hz hk => ?_, hW.ii⟩, fun h => by cases h⟩
      · rw [HCC.out]
        exact ⟨v, L, rk, hW.st, hW.rep, ⟨hW.pl, hW.wk⟩⟩
      · have h := hW.kq
        rw [← HCC.out] at h
        exact ⟨h.below, h.size, h.block⟩
      · exact (hW.asd z (HDF.out.all hA hF hL hbl (fun i hp => by obtain ⟨y, hy, hpl⟩ := hp; exact ⟨by rw [hW.rep.len]; exact (List.getElem?_eq_some_iff.1 hy).1, hW.pl i y hy hpl⟩) hz (.inl hk))).1 hk
      · exact (hW.asd z (HDF.out.all hA hF hL hbl (fun i hp => by obtain ⟨y, hy, hpl⟩ := hp; exact ⟨by rw [hW.rep.len]; exact (List.getElem?_eq_some_iff.1 hy).1, hW.pl i y hy hpl⟩) hz (.inr hk))).2 hk
    · rw [List.concat_eq_append] at HW hW
      obtain ⟨gt, capt, rfl, hct1, hct2, hgt, t0, ⟨cst, hgtb⟩, hpop⟩ := hW.tr.pop
      have hxl : x < L.length := by rw [← hW.rep.len]; exact hW.df.lt x (by simp)
      have HFD := Lib.hid (find_any c' rk v L A wr x hW.st hW.rep hxl)
      have HPOP := Lib.hid hpop
      clear hW hpop hgtb
      have hct3 : capt ≤ 9223372036854775807 := by unfold maxLen at hct2; omega
      go_wp2_with (go_at_call 55; (with_reducible refine HFD.out.mono ?_); rintro e w1 ⟨rfl, L', k1, k2, k3, k4, _⟩; (have hzl : A.r x < L'.length := (by rw [← k2.len]; exact hA.lt x (by rw [k2.len, k3.1]; exact hxl))); (have hy : L'[A.r x]? = some (L'[A.r x]'hzl) := List.getElem?_eq_getElem _); (generalize L'[A.r x]'hzl = y at hy); (obtain ⟨g, cap, rfl, hgB, hg0, hc1, hc2, s0, s1, s2, s3, s4, y0, y1, y2, y3, y4, y5, y6, y7, y8, hfz⟩ := k1.at hy); have hlt1 : ((A.r x : Nat) : Int) < (L'.length : Int) := (by omega); have K1 := Lib.hid k1; have K2 := Lib.hid k2; have K3 := Lib.hid k3; have K4 := Lib.hid k4; have HY := Lib.hid hy; clear k1 k2 k3 k4 hy s1 s2 s3 y0 y1 y2 y4 y5 y6)
      have hm1 : m0 - 1 < m0 := by have := HW.out.f3; rw [List.length_append] at this; have : [x].length = 1 := rfl; omega
      by_cases hpl : y.pl = true
      · rw [hpl] at y7
        have HN := Lib.hid (HW.out.pass hB hbw K1.out K2.out K3.out K4.out (.inl ⟨y, HY.out, hpl⟩) HPOP.out rfl)
        go_quiet (fail)
        all_goals go_wp2
        all_goals exact HLE.out _ _ (m0 - 1) (by rw [← HM.out]; exact hm1) ⟨_, L', rk, T', I, o, HN.out.below hB hbw (below_drewN (Below.refl _ _) _)⟩
      · have hpf : y.pl = false := by simpa using hpl
        rw [hpf] at y7
        by_cases hwk : y.wk = c'.wks
        · rw [hwk] at y8
          have HN := Lib.hid (HW.out.pass hB hbw K1.out K2.out K3.out K4.out (.inr ⟨y, HY.out, hwk⟩) HPOP.out rfl)
          go_quiet (fail)
          all_goals go_wp2
          all_goals exact HLE.out _ _ (m0 - 1) (by rw [← HM.out]; exact hm1) ⟨_, L', rk, T', I, o, HN.out.below hB hbw (below_drewN (Below.refl _ _) _)⟩
        · have e0 : (y.wk == c'.wks) = false := by simpa using hwk
          have hfz8 := hfz (A.r x * 9 + 8)
          have HE0 := Lib.hid hpf
          have HE1 := Lib.hid hwk
          go_quiet (fail)
          all_goals
            have k1 := K1.out.below (below_drewN (Below.refl w1.heap.size w1) nq)
            have k4 : Kp c' wr (w1.drewN nq) := K4.out.trans (Kp.of_below (Nat.le_trans K1.out.hb (Nat.le_of_lt K1.out.lt)) (below_drewN (Below.refl w1.heap.size w1) nq))
            have u0 : (w1.drewN nq).cell? ⟨c'.B, 0, none⟩ = some (.slice (some ⟨g, 0, none⟩) L'.length cap) := s0
            have u4 : (w1.drewN nq).cell? ⟨c'.B, 4, none⟩ = some (.int .i64 c'.wks) := s4
            have u8' : (w1.drewN nq).cell? ⟨g, A.r x * 9 + 8, none⟩ = some (.int .i64 y.wk) := y8
            have uf : (w1.drewN nq).frozen? ⟨g, A.r x * 9 + 8, none⟩ = false := hfz8
            generalize w1.drewN nq = w2 at *
            obtain ⟨q1, q2⟩ := StL.put (y := { y with wk := c'.wks }) k1 HY.out (f := 8) (u := .int .i64 c'.wks) (by omega) (fun q => by
              match q with
              | 0 => rfl
              | 1 => rfl
              | 2 => rfl
              | 3 => rfl
              | 4 => rfl
              | 5 => rfl
              | 6 => rfl
              | 7 => rfl
              | 8 => rfl
              | q + 9 => rfl) rfl rfl
            have k5 := k4.trans q2
            have Q1 := Lib.hid q1
            have K5 := Lib.hid k5
            have hW := HW.out
            have hqq := hW.kq.trans (Kq.of_kp k5)
            have hbs2 : bs ≠ bi := type_ne hHs.out hHi.out (by decide)
            have hba2 : ba ≠ bi := type_ne hHa.out hHi.out (by decide)
            have hbl2 : bl ≠ bi := type_ne hHl.out hHi.out (by decide)
            have n90 : ∀ (cs : Array Value) (T : TypeId), T ≠ 90 → ∀ cs' fr', Obj.cells cs T (0, 0) ≠ .cells cs' 90 fr' := fun cs T hT cs' fr' e => by injection e with _ e2 _; exact hT e2
            have hask := (ask_any c' _ _ _ base bs bi ba bl I o a lv (A.r x) ⟨y.i, y.ks, y.lv, y.cl, y.be, y.pl, c'.wks⟩ q1 (by rw [List.getElem?_set, if_pos rfl, if_pos hzl]) (inbox_keep hW.ib k5 hB) (Nat.le_trans hbw (Nat.le_trans hqq.size (Nat.le_refl _)))
              (hqq.block bs _ hHs2.out (by omega) hbs2 (n90 _ _ (by decide))) (hqq.block ba _ hHa.out (by omega) hba2 (n90 _ _ (by decide))) (hqq.block bl _ hHl.out (by omega) hbl2 (n90 _ _ (by decide))) (fun e => by have h1 := hW.io ba e.symm; have h2 := hb_lt hHa.out; omega) (by have := hW.f1; omega))
            dsimp only at hask
            obtain ⟨r, hr⟩ : ∃ r, r = (if y.i.k = 1 then decide (A.r x ≠ a) else if y.i.k = 5 then decide (y.lv ≤ lv) else true) := ⟨_, rfl⟩
            rw [← hr] at hask
            have HASK := Lib.hid hask
            have HRR := Lib.hid hr
            have hB2 : Kq c bi w (w2.setCell ⟨g, A.r x * 9 + 8, none⟩ (.int .i64 c'.wks)) → True := fun _ => trivial
            clear hask hr q1 q2 k1 k4 k5 hqq hW n90 hB2 s0 s4 y7 y8 y3 hfz hfz8
            cases r with
            | false =>
              go_wp2_with (go_at_call 77; (with_reducible refine HASK.out.mono ?_); rintro e w3 ⟨rfl, hb3, o', ib3, ho3, hfr⟩)
              go_ret
              obtain ⟨hkq, hS3, hkM, hrow⟩ := HW.out.met (w2 := w2) (o' := o') hB hbw K3.out K5.out HY.out Q1.out hb3 hfr ⟨_, _, hHi.out⟩
              have hkd : A.kd (A.r x) = y.i.k := Abs.kd_some (by rw [hA.idem]; exact K2.out.at HY.out)
              have hxI := HW.out.df.tc x (by simp) _ (.here x)
              refine ⟨false, rfl, ?_, ?_, (fun h => by cases h), fun _ => ?_⟩
              · rw [HCC.out]
                exact ⟨_, _, rk, hS3, K2.out.mark HY.out _, HW.out.ex K3.out HY.out HE0.out⟩
              · rw [← HCC.out] at hkq
                exact ⟨hkq.below, hkq.size, hkq.block⟩
              · have hr := HRR.out
                by_cases h1 : y.i.k = 1
                · rw [if_pos h1] at hr
                  have h2 : A.r x = a := by simpa using hr
                  left
                  rw [← h2]
                  exact ⟨hxI, hkd.trans h1⟩
                · rw [if_neg h1] at hr
                  by_cases h5 : y.i.k = 5
                  · rw [if_pos h5] at hr
                    have h2 : ¬ y.lv ≤ lv := by simpa using hr
                    right
                    refine ⟨A.r x, hxI, hkd.trans h5, ?_⟩
                    rw [K2.out.lv _ _ HY.out]
                    omega
                  · rw [if_neg h5] at hr
                    cases hr
            | true =>
              have hMz : (L'.set (A.r x) { y with wk := c'.wks })[A.r x]? = some { y with wk := c'.wks } := by rw [List.getElem?_set, if_pos rfl, if_pos hzl]
              have HMZ := Lib.hid hMz
              clear hMz
              go_wp2_with (first
                | (go_at_call 77; (with_reducible refine HASK.out.mono ?_); rintro e w3 ⟨rfl, hb3, o', ib3, ho3, hfr⟩; (obtain ⟨hkq, hS3, hkM, hrow⟩ := HW.out.met (w2 := w2) (o' := o') hB hbw K3.out K5.out HY.out Q1.out hb3 hfr ⟨_, _, hHi.out⟩); (obtain ⟨g', cap', eg, _, _, _, _, _, _, _, _, _, _, _, _, z3, _⟩ := hS3.at HMZ.out); (obtain ⟨kq, kc, hks, hkk⟩ := hS3.kid _ (List.mem_of_getElem? HMZ.out)); (injection eg with eg1 eg2 eg3); (injection eg1 with eg1); (injection eg1 with eg1); subst eg1; (have hks : y.ks = .slice kq y.i.kids.length kc := hks); (have z3 : w3.cell? ⟨g, A.r x * 9 + 3, none⟩ = some (.slice kq y.i.kids.length kc) := (by rw [← hks]; exact z3)); have HKQ := Lib.hid hkq; have HS3 := Lib.hid hS3; have HKM := Lib.hid hkM; have HT3 := Lib.hid (hrow _ HPOP.out rfl); have HIB := Lib.hid ib3; have HO3 := Lib.hid ho3; have HKK := Lib.hid hkk; clear hkq hS3 hkM hrow ib3 ho3 hkk hfr hb3 eg2 eg3 hks)
                | (at_builtin; refine (fun h : True → _ => h trivial) ?_))
              intro _
              have hok : y.i.k = 1 → A.r x ≠ a := fun h1 => by
                have hr := HRR.out
                rw [if_pos h1] at hr
                simpa using hr
              have hok5 : y.i.k = 5 → y.lv ≤ lv := fun h5 => by
                have hr := HRR.out
                rw [if_neg (by omega), if_pos h5] at hr
                simpa using hr
              have hcb := HS3.out.lt
              have hc0 := HS3.out.hb
              have FIN : RowKit.Hid (∀ v4 w4, IRow w.heap.size w4 v4 (T' ++ y.i.kids) → w3.grownBy w4 (some gt) → (v4.ownBlock = some gt ∨ v4.ownBlock = some w3.heap.size) → ∃ v L rk T I o, WI c' A base bi a lv b w v4 w4 (m0 - 1) v L rk T I o) := Lib.hid fun v4 w4 h1 h2 h3 => ⟨_, _, rk, _, _, o', HW.out.next (w2 := w2) (w3 := w3) hB hbw hA K3.out K2.out K5.out HY.out HE0.out HE1.out HO3.out HIB.out ⟨_, _, hHi.out⟩ HKQ.out HS3.out HKM.out h1 h2 h3 hok hok5⟩
              have hlast : ∀ v4 w4, (∃ v L rk T I o, WI c' A base bi a lv b w v4 w4 (m0 - 1) v L rk T I o) → _ := fun v4 w4 h => HLE.out v4 w4 (m0 - 1) (by rw [← HM.out]; exact hm1) h
              have HLAST := Lib.hid hlast
              clear hlast
              by_cases hkn : y.i.kids = []
              · have e : y.i.kids.length = 0 := by rw [hkn]; rfl
                have hrun : (Builtin.append_ #[88, 88] 88 #[.slice (some ⟨gt, 0, none⟩) T'.length capt, .slice kq y.i.kids.length kc]).run Tryd.prog w3 = .ok (.slice (some ⟨gt, 0, none⟩) T'.length capt) w3 := by rw [e]; exact run_app_nil w3 _ _ _ (by omega) _ _
                have hT4 : IRow w.heap.size w3 (.slice (some ⟨gt, 0, none⟩) T'.length capt) (T' ++ y.i.kids) := by rw [hkn, List.append_nil]; exact HT3.out
                have hF := FIN.out _ w3 hT4 ⟨rfl, rfl, rfl, Nat.le_refl _, fun _ _ _ => rfl⟩ (.inl rfl)
                have HF := Lib.hid hF
                refine wpList_app rfl _ _ rfl rfl rfl rfl hrun ?_
                clear hrun hT4 hF z3
                go_wp2
                exact HLAST.out _ _ HF.out
              · rcases HKK.out with h0 | ⟨gk, ok, csk, frk, rfl, hgk, _, hck⟩
                · exact absurd h0 hkn
                · have hf2 := HW.out.f2
                  obtain ⟨v4, w4, hrun, hr4, hg4, ho4⟩ := HT3.out.app (m := y.i.kids) (g := gk) (o := ok) (cc := kc) HKQ.out.size (fun _ j u hu => by rw [hb_cell hgk]; exact hck j u hu) (by
                    have h1 := K2.out.at HY.out
                    have h2 : y.i.kids.length + 1 ≤ (A.l.map fun x => x.kids.length + 1).sum := mem_le_sum (List.mem_map.2 ⟨y.i, List.mem_of_getElem? h1, rfl⟩)
                    rw [List.length_append] at hf2
                    omega)
                  obtain ⟨q4, c4, e4, _, _⟩ := hr4.shape
                  subst e4
                  have hF := FIN.out _ w4 hr4 hg4 ho4
                  rw [List.length_append] at hF
                  have HF := Lib.hid hF
                  refine wpList_app rfl _ _ rfl rfl rfl rfl hrun ?_
                  clear hrun hr4 hg4 ho4 hF z3
                  go_wp2
                  exact HLAST.out _ _ HF.out
end Go.Proofs.YtncebhddcokkoaaDoor
