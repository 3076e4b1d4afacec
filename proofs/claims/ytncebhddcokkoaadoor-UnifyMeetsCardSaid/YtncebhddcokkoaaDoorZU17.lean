/- Texts in a row: Kg Kh Ki. -/
import Derived.Test.YtncebhddcokkoaaDoorZU16
/- A store and what it says: find, alike, merge. -/
namespace Go.Proofs.YtncebhddcokkoaaDoor
open Go.RowKit
set_option linter.unusedSimpArgs false
set_option linter.unusedVariables false
/-- What is marked as plain is one tree alone; no walk is to come. -/
structure Ex (c : Cfg) (L : List Nd) (A : Abs) : Prop where
  pl : ∀ i x, L[i]? = some x → x.pl = true → ∀ θ θ', A.Mod θ → A.Mod θ' → θ i = θ' i
  wk : ∀ x ∈ L, x.wk ≤ c.wks
theorem SameBe.back {L M : List Nd} (h : SameBe L M) {i : Nat} {y : Nd} (hy : M[i]? = some y) : ∃ x b, L[i]? = some x ∧ y = { x with be := b } := by
  have hi := (List.getElem?_eq_some_iff.1 hy).1
  have hx : L[i]? = some (L[i]'(by have := h.1; omega)) := List.getElem?_eq_getElem _
  obtain ⟨b, e⟩ := h.2 i _ y hx hy
  exact ⟨_, b, hx, e⟩
theorem Ex.same {c : Cfg} {L M : List Nd} {A : Abs} (h : Ex c L A) (hs : SameBe L M) : Ex c M A := by
  refine ⟨fun i y hy hp => ?_, fun y hy => ?_⟩
  · obtain ⟨x, b, hx, rfl⟩ := hs.back hy
    exact h.pl i x hx hp
  · obtain ⟨i, hi⟩ := List.getElem?_of_mem hy
    obtain ⟨x, b, hx, rfl⟩ := hs.back hi
    exact h.wk x (List.mem_of_getElem? hx)
/-- A store that says this. -/
def St (c : Cfg) (A : Abs) (w : World) : Prop := ∃ v L rk, StL c v L w ∧ Rep rk L A ∧ Ex c L A
theorem Rep.len {rk : Nat → Nat} {L : List Nd} {A : Abs} (h : Rep rk L A) : A.l.length = L.length := by rw [h.l, List.length_map]
theorem Rep.at {rk : Nat → Nat} {L : List Nd} {A : Abs} (h : Rep rk L A) {i : Nat} {x : Nd} (hx : L[i]? = some x) : A.l[i]? = some x.i := by rw [h.l, List.getElem?_map, hx]; rfl
theorem Rep.back {rk : Nat → Nat} {L : List Nd} {A : Abs} (h : Rep rk L A) {i : Nat} {y : Inf} (hy : A.l[i]? = some y) : ∃ x, L[i]? = some x ∧ x.i = y := by
  rw [h.l, List.getElem?_map] at hy
  cases hx : L[i]? with
  | none => rw [hx] at hy; cases hy
  | some x => rw [hx] at hy; exact ⟨x, rfl, by simpa using hy⟩
theorem find_st {c : Cfg} {A : Abs} {w : World} (h : St c A w) {i : Nat} (hi : i < A.l.length) :
    Calls Tryd.prog 55 #[.pointer (some ⟨c.B, 0, none⟩), .int .i64 i] w fun e w' => e = .returned (.int .i64 (A.r i : Nat)) ∧ St c A w' ∧ Kp c w w' := by
  obtain ⟨v, L, rk, h1, h2, h3⟩ := h
  refine (find_any c rk v L A w i h1 h2 (by rw [← h2.len]; exact hi)).mono ?_
  rintro e w' ⟨rfl, L', k1, k2, k3, k4, _⟩
  exact ⟨rfl, ⟨v, L', rk, k1, k2, h3.same k3⟩, k4⟩
theorem alike_st {c : Cfg} {A : Abs} {w : World} (h : St c A w) {i j : Nat} {x y : Inf} (hx : A.l[i]? = some x) (hy : A.l[j]? = some y) :
    Calls Tryd.prog 57 #[.pointer (some ⟨c.B, 0, none⟩), .int .i64 i, .int .i64 j] w fun e w' => (∃ b, e = .returned (.bool b) ∧ (b = true ↔ Abs.Alike x y)) ∧ Below w.heap.size w w' := by
  obtain ⟨v, L, rk, h1, h2, h3⟩ := h
  obtain ⟨nx, hnx, rfl⟩ := h2.back hx
  obtain ⟨ny, hny, rfl⟩ := h2.back hy
  exact alike_any c v L w i j nx ny h1 hnx hny
theorem St.below {c : Cfg} {A : Abs} {w w' : World} (h : St c A w) (hb : Below w.heap.size w w') : St c A w' := by
  obtain ⟨v, L, rk, h1, h2, h3⟩ := h
  exact ⟨v, L, rk, h1.below hb, h2, h3⟩
theorem St.lt {c : Cfg} {A : Abs} {w : World} (h : St c A w) : c.B < w.heap.size ∧ c.b0 ≤ c.B := by
  obtain ⟨v, L, rk, h1, h2, h3⟩ := h
  exact ⟨h1.lt, h1.hb⟩
/-- One root becomes another one. -/
theorem Rep.bind {rk : Nat → Nat} {L : List Nd} {A : Abs} (h : Rep rk L A) {a b : Nat} {x : Nd} (hx : L[a]? = some x) (ha : A.r a = a) (hb : A.r b = b) (hbl : b < L.length) (hab : a ≠ b) :
    Rep (fun i => if A.r i = a then rk i + rk b + 1 else rk i) (L.set a { x with be := (b : Int) }) (A.bind a b A.lv) := by
  have key : ∀ i z, (L.set a { x with be := (b : Int) })[i]? = some z → (i = a ∧ z = { x with be := (b : Int) }) ∨ (i ≠ a ∧ L[i]? = some z) := by
    intro i z hz
    rw [List.getElem?_set] at hz
    by_cases e : a = i
    · rw [if_pos e] at hz
      subst e
      rw [if_pos (List.getElem?_eq_some_iff.1 hx).1] at hz
      cases hz
      exact .inl ⟨rfl, rfl⟩
    · rw [if_neg e] at hz
      exact .inr ⟨fun e2 => e e2.symm, hz⟩
  refine ⟨?_, fun i z hz => ?_, fun i z hz => ?_⟩
  · show A.l = _
    rw [h.l]
    apply List.ext_getElem?
    intro i
    rw [List.getElem?_map, List.getElem?_map, List.getElem?_set]
    by_cases e : a = i
    · rw [if_pos e]
      subst e
      rw [if_pos (List.getElem?_eq_some_iff.1 hx).1, hx]; rfl
    · rw [if_neg e]
  · rcases key i z hz with ⟨rfl, rfl⟩ | ⟨_, hz⟩
    · exact h.lv i x hx
    · exact h.lv i z hz
  · rw [List.length_set]
    show (z.be < 0 ∧ (if A.r i = a then b else A.r i) = i) ∨ ∃ j : Nat, z.be = (j : Int) ∧ j < L.length ∧ (if A.r j = a then b else A.r j) = (if A.r i = a then b else A.r i) ∧ (if A.r j = a then rk j + rk b + 1 else rk j) < (if A.r i = a then rk i + rk b + 1 else rk i)
    rcases key i z hz with ⟨rfl, rfl⟩ | ⟨hne, hz⟩
    · right
      refine ⟨b, rfl, hbl, ?_, ?_⟩
      · rw [hb, ha, if_pos rfl, if_neg (fun e => hab e.symm)]
      · rw [hb, ha, if_pos rfl, if_neg (fun e => hab e.symm)]; omega
    · rcases h.be i z hz with ⟨h1, h2⟩ | ⟨j, h1, h2, h3, h4⟩
      · left
        refine ⟨h1, ?_⟩
        rw [h2, if_neg hne]
      · right
        refine ⟨j, h1, h2, by rw [h3], ?_⟩
        rw [h3]
        split <;> omega
theorem Rep.lt {rk : Nat → Nat} {L : List Nd} {A : Abs} (h : Rep rk L A) (hA : A.Ok) {i : Nat} (hi : i < A.l.length) : ∃ x, L[A.r i]? = some x := by
  have := hA.lt i hi
  rw [h.len] at this
  exact ⟨_, List.getElem?_eq_getElem this⟩
set_option maxRecDepth 100000 in
set_option maxHeartbeats 1000000 in
theorem merge_st {c : Cfg} {A : Abs} {w : World} (h : St c A w) (hA : A.Ok) {i j : Nat} (hi : i < A.l.length) (hj : j < A.l.length) :
    Calls Tryd.prog 54 #[.pointer (some ⟨c.B, 0, none⟩), .int .i64 i, .int .i64 j] w fun e w' => e = .returned (.tuple #[]) ∧ St c (if A.r i = A.r j then A else A.bind (A.r i) (A.r j) A.lv) w' ∧ Kp c w w' := by
  have HF := Lib.hid fun W (hW : St c A W) => find_st hW hi
  have HG := Lib.hid fun W (hW : St c A W) => find_st hW hj
  have HS := Lib.hid h
  clear h
  by_cases hij : A.r i = A.r j
  · rw [if_pos hij]
    have e0 : (((A.r i : Nat) : Int) != ((A.r j : Nat) : Int)) = false := by simp [hij]
    have HIJ := Lib.hid hij
    clear hij
    go_enter Tryd.func54, Tryd.ntmps54
    go_wp2_with (first
      | (go_at_call 55; (with_reducible refine (HF.out _ HS.out).mono ?_); rintro e w1 ⟨rfl, h1, k1⟩; have HS1 := Lib.hid h1; have HK1 := Lib.hid k1; clear h1 k1)
      | (go_at_call 55; (with_reducible refine (HG.out _ HS1.out).mono ?_); rintro e w2 ⟨rfl, h2, k2⟩; have HS2 := Lib.hid h2; have HK2 := Lib.hid (HK1.out.trans k2); clear h2 k2))
    all_goals
      go_end0
      exact ⟨rfl, HS2.out, HK2.out⟩
  · rw [if_neg hij]
    have hne : ((A.r i : Nat) : Int) ≠ ((A.r j : Nat) : Int) := by omega
    have HO := Lib.hid hA
    go_enter Tryd.func54, Tryd.ntmps54
    go_wp2_with (first
      | (go_at_call 55; (with_reducible refine (HF.out _ HS.out).mono ?_); rintro e w1 ⟨rfl, h1, k1⟩; have HS1 := Lib.hid h1; have HK1 := Lib.hid k1; clear h1 k1)
      | (go_at_call 55; (with_reducible refine (HG.out _ HS1.out).mono ?_); rintro e w2 ⟨rfl, h2, k2⟩; have HK2 := Lib.hid (HK1.out.trans k2); (obtain ⟨v, L, rk, p1, p2, p3⟩ := h2); (obtain ⟨x, hx⟩ := p2.lt HO.out hi); (obtain ⟨g, cap, rfl, hgB, hg0, hc1, hc2, s0, s1, s2, s3, s4, x0, x1, x2, x3, x4, x5, x6, x7, x8, hfz⟩ := p1.at hx); have hfz6 := hfz (A.r i * 9 + 6); have hlt1 : ((A.r i : Nat) : Int) < (L.length : Int) := (by have := (List.getElem?_eq_some_iff.1 hx).1; omega); have P1 := Lib.hid p1; have P2 := Lib.hid p2; have P3 := Lib.hid p3; have HX := Lib.hid hx; clear k2 p1 p2 p3 hx s1 s2 s3 s4 x0 x1 x2 x3 x4 x5 x7 x8 hfz))
    all_goals
      go_end0
      obtain ⟨q1, q2⟩ := StL.put (y := { x with be := ((A.r j : Nat) : Int) }) P1.out HX.out (f := 6) (u := .int .i64 ((A.r j : Nat) : Int)) (by omega) (fun q => by
        match q with
        | 0 => rfl
        | 1 => rfl
        | 2 => rfl
        | 3 => rfl
        | 4 => rfl
        | 5 => rfl
        | 6 => rfl
        | 7 => rfl
        | 8 => rfl
        | q + 9 => rfl) rfl rfl
      have hjl : A.r j < L.length := by have := hA.lt j hj; rw [P2.out.len] at this; exact this
      have hil : A.r i < A.l.length := hA.lt i hi
      refine ⟨rfl, ⟨_, _, _, q1, P2.out.bind HX.out (hA.idem i) (hA.idem j) hjl hij, ?_⟩, HK2.out.trans q2⟩
      have hx2 := P3.out.same (SameBe.set HX.out ((A.r j : Nat) : Int))
      exact ⟨fun a z hz hp θ θ' h1 h2 => hx2.pl a z hz hp θ θ' ((Abs.bind_mod hA (hA.idem i) (hA.idem j) hil (hA.lt j hj) θ).1 h1).1 ((Abs.bind_mod hA (hA.idem i) (hA.idem j) hil (hA.lt j hj) θ').1 h2).1, hx2.wk⟩
end Go.Proofs.YtncebhddcokkoaaDoor
/- What a walk asks where a variable becomes a type. -/
namespace Go.Proofs.YtncebhddcokkoaaDoor
open Go.RowKit
set_option linter.unusedSimpArgs false
set_option linter.unusedVariables false
theorem info3 : ∃ i z, Tryd.prog.info? 3 = some i ∧ i.zero = some z ∧ i.size = 1 ∧ i.bytes = 8 ∧ z.cells.size = 1 := by
  have h : (Tryd.prog.info? 3).map (fun i => (i.zero, i.size, i.bytes)) = some (some (.int .i64 0), 1, 8) := by kernel_rfl
  obtain ⟨i, hi, e⟩ := Option.map_eq_some_iff.1 h
  injection e with e1 e2
  injection e2 with e2 e3
  exact ⟨i, _, hi, e1, e2, e3, rfl⟩
abbrev intV (y : Nat) : Value := .int .i64 (y : Nat)
/-- A row of numbers of one's own. -/
def IRow (base : Nat) (w : World) (v : Value) (l : List Nat) : Prop := w.ownsRow base 3 1 v l.length (l.map intV)
theorem IRow.shape {base : Nat} {w : World} {v : Value} {l : List Nat} (h : IRow base w v l) : ∃ q c, v = .slice q l.length c ∧ c ≤ maxLen ∧ l.length ≤ c := by
  rcases h.2 with ⟨rfl, h0⟩ | ⟨g, cap, cur, rfl, _, _, h1, h2, _⟩
  · exact ⟨none, 0, by rw [h0], by decide, by omega⟩
  · exact ⟨_, _, rfl, h2, h1⟩
theorem IRow.blk {base : Nat} {w : World} {v : Value} {l : List Nat} (h : IRow base w v l) : ∀ g, v.ownBlock = some g → base ≤ g ∧ ∃ cs, w.heap[g]? = some (.cells cs 3 (0, 0)) := by
  intro g hg
  rcases h.2 with ⟨rfl, h0⟩ | ⟨g', cap, cur, rfl, h3, h4, h1, h2, _⟩
  · cases hg
  · injection hg with hg
    subst hg
    exact ⟨h3, cur, h4⟩
theorem IRow.keep {base : Nat} {w w' : World} {v : Value} {l : List Nat} (h : IRow base w v l) (hk : ∀ g x, v.ownBlock = some g → w.heap[g]? = some x → w'.heap[g]? = some x) : IRow base w' v l := own_kept h hk
/-- A number more. -/
theorem IRow.app {base : Nat} {w : World} {v : Value} {l m : List Nat} (h : IRow base w v l) (hbase : base ≤ w.heap.size) {g o cc : Nat} (hm : m ≠ [] → ∀ j y, m[j]? = some y → w.cell? ⟨g, o + j, none⟩ = some (intV y)) (h1 : l.length + m.length ≤ 1000000) :
    ∃ v' w', (Builtin.append_ #[88, 88] 88 #[v, .slice (some ⟨g, o, none⟩) m.length cc]).run Tryd.prog w = .ok v' w' ∧ IRow base w' v' (l ++ m) ∧ w.grownBy w' v.ownBlock ∧ (v'.ownBlock = v.ownBlock ∨ v'.ownBlock = some w.heap.size) := by
  obtain ⟨i, z, hi, hz, hs, hby, hzc⟩ := info3
  obtain ⟨v', w', r1, r2, r3, _, r5⟩ := run_append_own_at (P := Tryd.prog) (w := w) base 88 88 3 i z 1 8 (by kernel_rfl) hi hz hs hby hzc (by decide) v l.length (l.map intV) h ⟨g, o, none⟩ m.length cc (m.map intV) (by simp)
    (fun j u hu => by
      rw [List.getElem?_map] at hu
      cases hy : m[j]? with
      | none => rw [hy] at hu; cases hu
      | some y =>
        rw [hy] at hu
        have e : (⟨g, o, none⟩ : Addr).add j = ⟨g, o + j, none⟩ := Addr.add_lit ..
        rw [e, hm (by rintro rfl; simp at hy) j y hy]
        simpa using hu)
    (fun u hu => by
      obtain ⟨y, _, rfl⟩ := List.mem_map.1 hu
      rfl)
    (by unfold maxLen; omega) (by omega) hbase
  refine ⟨v', w', r1, ?_, r3, r5⟩
  show w'.ownsRow base 3 1 v' (l ++ m).length ((l ++ m).map intV)
  rw [List.length_append, List.map_append]
  exact r2
theorem wpList_app {w w' : World} {ops : Array Oper} {rest : List Oper} {o : Oper} {a : Act} {Q : Exit → Act → World → Prop} {T : TypeId} (hg : o.guard = none) (s x : Operand)
    (ho : o.op = .call { callee := .builtin .append, args := #[s, x], argTypes := #[T, T] }) (hty : o.type = T) {v vx v' : Value} (hs : a.eval s = v) (hx : a.eval x = vx)
    (hrun : (Builtin.append_ #[T, T] T #[v, vx]).run Tryd.prog w = .ok v' w') (h : wpList Tryd.prog ops Q rest (a.put o.dst v') w') : wpList Tryd.prog ops Q (o :: rest) a w := by
  have hw : Region.wanted o (yielded ops a.tmps) = true := by simp [Region.wanted, hg]
  unfold wpList
  rw [if_pos hw]
  refine .inl ?_
  unfold Oper.wp execOp
  simp only [ho, hty, resolve, invoke, builtin, Sem.run_bind, Sem.run_pure, Result.andThen_ok, List.map_toArray, List.map_cons, List.map_nil, hs, hx, hrun]
  exact h
/-- Where a walk's list lies. -/
def InBox (W : World) (base bi : Nat) (I : List Nat) (o : Option Nat) : Prop := ∃ v, W.heap[bi]? = some (.cells #[v] 88 (0, 0)) ∧ IRow base W v I ∧ v.ownBlock = o ∧ base ≤ bi
set_option maxRecDepth 100000 in
set_option maxHeartbeats 1000000 in
theorem ask_any (c : Cfg) (v : Value) (L : List Nd) (W : World) (base bs bi ba bl : Nat) (I : List Nat) (o : Option Nat) (a : Nat) (lv : Int) (i : Nat) (x : Nd) (h : StL c v L W) (hx : L[i]? = some x) (hI : InBox W base bi I o) (hbase : base ≤ W.heap.size)
    (hs : W.heap[bs]? = some (.cells #[.pointer (some ⟨c.B, 0, none⟩)] 51 (0, 0))) (ha : W.heap[ba]? = some (.cells #[intV a] 3 (0, 0))) (hl : W.heap[bl]? = some (.cells #[.int .i64 lv] 3 (0, 0))) (hai : some ba ≠ o) (hIl : I.length ≤ 200000) :
    Calls Tryd.prog 77 #[intV i, .pointer (some ⟨bs, 0, none⟩), .pointer (some ⟨bi, 0, none⟩), .pointer (some ⟨ba, 0, none⟩), .pointer (some ⟨bl, 0, none⟩)] W fun e W' =>
      e = .returned (.bool (if x.i.k = 1 then decide (i ≠ a) else if x.i.k = 5 then decide (x.lv ≤ lv) else true)) ∧ Below base W W' ∧
      ∃ o', InBox W' base bi (if x.i.k = 1 then I ++ [i] else I) o' ∧ (o' = o ∨ ∃ g, o' = some g ∧ W.heap.size ≤ g) ∧ ∀ k y, W.heap[k]? = some y → k ≠ bi → some k ≠ o → W'.heap[k]? = some y := by
  have hil := (List.getElem?_eq_some_iff.1 hx).1
  obtain ⟨g, cap, rfl, hgB, hg0, hc1, hc2, s0, s1, s2, s3, s4, x0, x1, x2, x3, x4, x5, x6, x7, x8, hfz⟩ := h.at hx
  have hlt1 : (i : Int) < (L.length : Int) := by omega
  have b0 := hb_at hs 0 rfl
  have a0 := hb_at ha 0 rfl
  have l0 := hb_at hl 0 rfl
  obtain ⟨vi, hvi, hrow, hvo, hbb⟩ := hI
  have i0 := hb_at hvi 0 rfl
  have if0 := hb_free hvi 0
  have HI := Lib.hid hvi
  have HR := Lib.hid hrow
  have HA := Lib.hid ha
  clear h hx s1 s2 s3 s4 x1 x2 x3 x5 x6 x7 x8 hfz hs ha hl hvi hrow
  by_cases h1 : x.i.k = 1
  · rw [if_pos h1, if_pos h1]
    rw [h1] at x0
    go_enter Tryd.func77, Tryd.ntmps77
    go_wp2_with ((at_builtin; refine (fun h : True → _ => h trivial) ?_))
    intro _
    have hBa := below_alloc W (.cells #[intV i] 3)
    have hne : ∀ g, vi.ownBlock = some g → g ≠ bi := fun g hg e => by
      obtain ⟨_, cs, hcs⟩ := HR.out.blk g hg
      rw [e, HI.out] at hcs
      cases hcs
    have hnab : ba ≠ bi := fun e => by
      have h2 := HA.out
      rw [e, HI.out] at h2
      cases h2
    obtain ⟨v', w', hrun, hr', hgr, hob⟩ := (HR.out.keep (w' := W.alloc (.cells #[intV i] 3)) (fun g y _ hy => hb_below hy hBa (hb_lt hy))).app (m := [i]) (g := W.heap.size) (o := 0) (cc := 1) (Nat.le_trans hbase hBa.size)
      (fun _ j y hy => by
        match j, hy with
        | 0, hy =>
          obtain rfl : i = y := by simpa using hy
          exact hb_at (hb_new W _) 0 rfl
        | j + 1, hy => simp at hy) (by simp; omega)
    obtain ⟨q', c', e', _, _⟩ := hr'.shape
    rw [List.length_append] at e'
    have e' : v' = .slice q' (I.length + 1) c' := e'
    subst e'
    have hI2 : w'.heap[bi]? = some (.cells #[vi] 88 (0, 0)) := hb_grown (hb_below HI.out hBa (hb_lt HI.out)) hgr (fun e => hne bi e.symm rfl)
    have hA2 : w'.heap[ba]? = some (.cells #[intV a] 3 (0, 0)) := hb_grown (hb_below HA.out hBa (hb_lt HA.out)) hgr (by rw [hvo]; exact hai)
    refine wpList_app rfl _ _ rfl rfl rfl rfl hrun ?_
    have j0 := hb_at hI2 0 rfl
    have jf := hb_free hI2 0
    have k0 := hb_at hA2 0 rfl
    have hnab2 : ¬ bi = ba := fun e => hnab e.symm
    have HJ := Lib.hid (hb_set_same hI2 0 (.slice q' (I.length + 1) c'))
    have HQ := Lib.hid hr'
    have HG := Lib.hid hgr
    have HB := Lib.hid hob
    have HN := Lib.hid hne
    clear hI2 hA2 hr' hgr hob hrun hne a0 i0 if0 b0 l0
    go_wp2
    go_ret
    have hbl2 : Below base W (w'.setCell ⟨bi, 0, none⟩ (.slice q' (I.length + 1) c')) := by
      have h1 : Below base W (W.alloc (.cells #[intV i] 3)) := (below_alloc W _).mono hbase
      have h2 : Below base (W.alloc (.cells #[intV i] 3)) w' := ⟨HG.out.os, HG.out.tape, HG.out.output, HG.out.size, fun k hk => HG.out.block k (by have := h1.size; omega) (fun e => by have := (HR.out.blk k e.symm).1; omega)⟩
      exact (h1.trans h2).setCell hbb _
    have hdec : (((i : Nat) : Int) != ((a : Nat) : Int)) = decide (i ≠ a) := by
      by_cases e : i = a
      · subst e; simp
      · have e2 : (i : Int) ≠ (a : Int) := by omega
        simp [e, e2]
    refine ⟨ret_bool hdec, hbl2, _, ⟨_, HJ.out, HQ.out.keep fun g y hg hy => hb_set_other hy _ ?_, rfl, hbb⟩, ?_, fun k y hy hk ho => hb_set_other (hb_grown (hb_below hy (below_alloc W _) (hb_lt hy)) HG.out (by rw [hvo]; exact ho)) _ hk⟩
    · rintro rfl
      obtain ⟨_, cs, hcs⟩ := HQ.out.blk _ hg
      have h2 := HJ.out
      rcases HB.out with e | e
      · rw [e] at hg; exact HN.out _ hg rfl
      · rw [hg] at e
        have e2 := Option.some.inj e
        have := hb_lt HI.out
        rw [World.size_alloc] at e2
        omega
    · rcases HB.out with e | e
      · exact .inl (e.trans hvo)
      · exact .inr ⟨_, e, by simp⟩
  · by_cases h5 : x.i.k = 5
    · rw [if_neg h1, if_pos h5, if_neg h1]
      rw [h5] at x0
      go_enter Tryd.func77, Tryd.ntmps77
      go_wp2
      go_region
      all_goals go_wp2
      all_goals go_ret
      all_goals exact ⟨rfl, by first | exact (Below.refl _ _).drew, o, ⟨vi, HI.out, HR.out, hvo, hbb⟩, .inl rfl, fun k y hy _ _ => hy⟩
    · rw [if_neg h1, if_neg h5, if_neg h1]
      have e1 : (x.i.k == 1) = false := by simpa using h1
      have e5 : (x.i.k == 5) = false := by simpa using h5
      go_enter Tryd.func77, Tryd.ntmps77
      go_wp2
      go_ret
      exact ⟨rfl, Below.refl _ _, o, ⟨vi, HI.out, HR.out, hvo, hbb⟩, .inl rfl, fun k y hy _ _ => hy⟩
end Go.Proofs.YtncebhddcokkoaaDoor
/- A walk over a store's types: its mathematics. -/
namespace Go.Proofs.YtncebhddcokkoaaDoor
open Go.RowKit
set_option linter.unusedSimpArgs false
set_option linter.unusedVariables false
theorem least_ex {P : Nat → Prop} : ∀ m : Nat, P m → ∃ n, P n ∧ ∀ k, P k → n ≤ k := by
  intro m
  induction m using Nat.strongRecOn with
  | ind m ih =>
    intro hm
    by_cases h : ∃ k, k < m ∧ P k
    · obtain ⟨k, hk, hp⟩ := h
      exact ih k hk hp
    · exact ⟨m, hm, fun k hk => Nat.le_of_not_lt fun hlt => h ⟨k, hlt, hk⟩⟩
open Classical in
/-- The least number of which something holds. -/
noncomputable def least (P : Nat → Prop) : Nat := if h : ∃ n, P n ∧ ∀ k, P k → n ≤ k then h.choose else 0
theorem least_spec {P : Nat → Prop} (h : ∃ m, P m) : P (least P) := by
  obtain ⟨m, hm⟩ := h
  have h2 := least_ex m hm
  unfold least
  rw [dif_pos h2]
  exact h2.choose_spec.1
theorem least_le {P : Nat → Prop} {m : Nat} (h : P m) : least P ≤ m := by
  have h2 := least_ex m h
  unfold least
  rw [dif_pos h2]
  exact h2.choose_spec.2 m h
theorem reach_root {A : Abs} (hA : A.Ok) {i z : Nat} (h : A.Reach i z) : A.r z = z := by
  induction h with
  | here i => exact hA.idem i
  | kid _ _ _ ih => exact ih
def Vis (k : Int) (L : List Nd) (i : Nat) : Prop := ∃ x, L[i]? = some x ∧ x.wk = k
def Pln (L : List Nd) (i : Nat) : Prop := ∃ x, L[i]? = some x ∧ x.pl = true
theorem vis_same {k : Int} {L M : List Nd} (h : SameBe L M) (i : Nat) : Vis k L i ↔ Vis k M i := by
  constructor
  · rintro ⟨x, hx, e⟩
    have hi := (List.getElem?_eq_some_iff.1 hx).1
    have hy : M[i]? = some (M[i]'(by have := h.1; omega)) := List.getElem?_eq_getElem _
    obtain ⟨b, e2⟩ := h.2 i x _ hx hy
    exact ⟨_, hy, by rw [e2]; exact e⟩
  · rintro ⟨y, hy, e⟩
    obtain ⟨x, b, hx, rfl⟩ := h.back hy
    exact ⟨x, hx, e⟩
theorem pln_same {L M : List Nd} (h : SameBe L M) (i : Nat) : Pln L i ↔ Pln M i := by
  constructor
  · rintro ⟨x, hx, e⟩
    have hi := (List.getElem?_eq_some_iff.1 hx).1
    have hy : M[i]? = some (M[i]'(by have := h.1; omega)) := List.getElem?_eq_getElem _
    obtain ⟨b, e2⟩ := h.2 i x _ hx hy
    exact ⟨_, hy, by rw [e2]; exact e⟩
  · rintro ⟨y, hy, e⟩
    obtain ⟨x, b, hx, rfl⟩ := h.back hy
    exact ⟨x, hx, e⟩
/-- A walk from b, what is still to do being T. -/
structure Dfs (A : Abs) (vis pln : Nat → Prop) (b : Nat) (T : List Nat) : Prop where
  lt : ∀ t ∈ T, t < A.l.length
  rt : ∀ i, vis i → A.r i = i ∧ ¬ pln i
  rc : ∀ i, vis i → A.Reach b i
  tc : ∀ t ∈ T, ∀ z, A.Reach t z → A.Reach b z
  cl : ∀ i x, vis i → A.l[i]? = some x → ∀ y ∈ x.kids, vis (A.r y) ∨ y ∈ T ∨ pln (A.r y)
  st : vis (A.r b) ∨ b ∈ T ∨ pln (A.r b)
theorem Dfs.congr {A : Abs} {v p v' p' : Nat → Prop} {b : Nat} {T : List Nat} (h : Dfs A v p b T) (hv : ∀ i, v i ↔ v' i) (hp : ∀ i, p i ↔ p' i) : Dfs A v' p' b T := by
  have e1 : v = v' := funext fun i => propext (hv i)
  have e2 : p = p' := funext fun i => propext (hp i)
  subst e1 e2
  exact h
theorem Dfs.start {A : Abs} {v p : Nat → Prop} {b : Nat} (hb : b < A.l.length) (hv : ∀ i, ¬ v i) : Dfs A v p b [b] :=
  ⟨fun t ht => by cases List.mem_singleton.1 ht; exact hb, fun i hi => absurd hi (hv i), fun i hi => absurd hi (hv i), fun t ht z hz => by cases List.mem_singleton.1 ht; exact hz, fun i x hi => absurd hi (hv i), .inr (.inl (by simp))⟩
/-- One that is plain, or was met. -/
theorem Dfs.pass {A : Abs} {v p : Nat → Prop} {b t : Nat} {T : List Nat} (h : Dfs A v p b (T ++ [t])) (hz : p (A.r t) ∨ v (A.r t)) : Dfs A v p b T := by
  have key : ∀ y, y ∈ T ++ [t] → v (A.r y) ∨ y ∈ T ∨ p (A.r y) := by
    intro y hy
    rcases List.mem_append.1 hy with hy | hy
    · exact .inr (.inl hy)
    · cases List.mem_singleton.1 hy
      rcases hz with hz | hz
      · exact .inr (.inr hz)
      · exact .inl hz
  refine ⟨fun x hx => h.lt x (by simp [hx]), h.rt, h.rc, fun x hx => h.tc x (by simp [hx]), fun i x hi hx y hy => ?_, ?_⟩
  · rcases h.cl i x hi hx y hy with h1 | h1 | h1
    · exact .inl h1
    · exact key y h1
    · exact .inr (.inr h1)
  · rcases h.st with h1 | h1 | h1
    · exact .inl h1
    · exact key b h1
    · exact .inr (.inr h1)
/-- One that is met the first time. -/
theorem Dfs.visit {A : Abs} {v p : Nat → Prop} {b t : Nat} {T : List Nat} {x : Inf} (hA : A.Ok) (h : Dfs A v p b (T ++ [t])) (hx : A.l[A.r t]? = some x) (hp : ¬ p (A.r t)) : Dfs A (fun i => v i ∨ i = A.r t) p b (T ++ x.kids) := by
  have ht := h.lt t (by simp)
  have hzl := (List.getElem?_eq_some_iff.1 hx).1
  have htr := h.tc t (by simp)
  have key : ∀ y, y ∈ T ++ [t] → (v (A.r y) ∨ A.r y = A.r t) ∨ y ∈ T ++ x.kids ∨ p (A.r y) := by
    intro y hy
    rcases List.mem_append.1 hy with hy | hy
    · exact .inr (.inl (by simp [hy]))
    · cases List.mem_singleton.1 hy
      exact .inl (.inr rfl)
  refine ⟨fun y hy => ?_, fun i hi => ?_, fun i hi => ?_, fun y hy z hz => ?_, fun i u hi hu y hy => ?_, ?_⟩
  · rcases List.mem_append.1 hy with hy | hy
    · exact h.lt y (by simp [hy])
    · have := hA.kid _ x hx y hy; omega
  · rcases hi with hi | rfl
    · exact h.rt i hi
    · exact ⟨hA.idem t, hp⟩
  · rcases hi with hi | rfl
    · exact h.rc i hi
    · exact htr _ (.here t)
  · rcases List.mem_append.1 hy with hy | hy
    · exact h.tc y (by simp [hy]) z hz
    · exact htr z (.kid hx hy hz)
  · rcases hi with hi | rfl
    · rcases h.cl i u hi hu y hy with h1 | h1 | h1
      · exact .inl (.inl h1)
      · exact key y h1
      · exact .inr (.inr h1)
    · rw [hx] at hu
      cases hu
      exact .inr (.inl (by simp [hy]))
  · rcases h.st with h1 | h1 | h1
    · exact .inl (.inl h1)
    · exact key b h1
    · exact .inr (.inr h1)
/-- Below what is one tree alone there are no variables. -/
theorem plain_none {A : Abs} (hA : A.Ok) (hF : A.Fin) (hL : A.Like) {i z : Nat} (hi : i < A.l.length) (hp : ∀ θ θ', A.Mod θ → A.Mod θ' → θ i = θ' i) (hr : A.Reach i z) (hz : A.kd z = 1 ∨ A.kd z = 5) (hzr : A.r z = z) : False := by
  have hzl : z < A.l.length := by
    unfold Abs.kd at hz
    rw [hzr] at hz
    cases e : A.l[z]? with
    | none => simp [e] at hz
    | some x => exact (List.getElem?_eq_some_iff.1 e).1
  obtain ⟨x, hx⟩ := Abs.inf_of hA hzl
  have hk : x.k = 1 ∨ x.k = 5 := by
    unfold Abs.kd at hz
    rw [hx] at hz
    exact hz
  -- a tree that is greater than any of those
  have big : ∀ n : Nat, ∃ t : Tm, n < SizeOf.sizeOf t := by
    intro n
    induction n with
    | zero => exact ⟨.mk 0 ⟨#[]⟩ ⟨#[]⟩ 0 [], by simp only [Tm.mk.sizeOf_spec]; omega⟩
    | succ n ih =>
      obtain ⟨t, ht⟩ := ih
      refine ⟨.mk 0 ⟨#[]⟩ ⟨#[]⟩ 0 [t], ?_⟩
      simp only [Tm.mk.sizeOf_spec, List.cons.sizeOf_spec]
      omega
  have m0 := Abs.mod_val hA hF hL (fun _ => Tm.mk 0 ⟨#[]⟩ ⟨#[]⟩ 0 [])
  obtain ⟨t, ht⟩ := big (SizeOf.sizeOf (A.val (fun _ => Tm.mk 0 ⟨#[]⟩ ⟨#[]⟩ 0 []) i))
  have m1 := Abs.mod_val hA hF hL (fun _ => t)
  have e := hp _ _ m0 m1
  have hv : A.val (fun _ => t) z = t := Abs.val_leaf hx hk
  rcases hr.mod hA m1 hi with h | h
  · rw [e, h, hv] at ht; omega
  · have := h.lt
    rw [hv, ← e] at this
    omega
/-- At the end all variables, and rigid types, are met. -/
theorem Dfs.all {A : Abs} {v p : Nat → Prop} {b : Nat} (hA : A.Ok) (hF : A.Fin) (hL : A.Like) (h : Dfs A v p b []) (hb : b < A.l.length) (hp : ∀ i, p i → i < A.l.length ∧ ∀ θ θ', A.Mod θ → A.Mod θ' → θ i = θ' i) {z : Nat} (hr : A.Reach b z) (hz : A.kd z = 1 ∨ A.kd z = 5) : v z := by
  have key : ∀ {i z : Nat}, A.Reach i z → (A.kd z = 1 ∨ A.kd z = 5) → i < A.l.length → (v (A.r i) ∨ p (A.r i)) → v z := by
    intro i z hr
    induction hr with
    | here i =>
      intro hz hi h1
      rcases h1 with h1 | h1
      · exact h1
      · obtain ⟨h2, h3⟩ := hp _ h1
        have h4 := Abs.Reach.here (A := A) (A.r i)
        rw [hA.idem] at h4
        exact (plain_none hA hF hL h2 h3 h4 hz (hA.idem i)).elim
    | @kid i y z x hx hy h2 ih =>
      intro hz hi h1
      have hyl : y < A.l.length := by
        have := hA.kid _ x hx y hy
        have := hA.lt i hi
        omega
      rcases h1 with h1 | h1
      · rcases h.cl _ x h1 hx y hy with h3 | h3 | h3
        · exact ih hz hyl (.inl h3)
        · cases h3
        · exact ih hz hyl (.inr h3)
      · obtain ⟨h3, h4⟩ := hp _ h1
        have hx' : A.l[A.r (A.r i)]? = some x := by rw [hA.idem]; exact hx
        have hzr := reach_root hA h2
        exact (plain_none hA hF hL h3 h4 (.kid hx' hy h2) hz hzr).elim
  refine key hr hz hb ?_
  rcases h.st with h1 | h1 | h1
  · exact .inl h1
  · cases h1
  · exact .inr h1
end Go.Proofs.YtncebhddcokkoaaDoor
