/- Texts in a row: Mo Qi Qj. -/
import Derived.Test.YtncebhddcokkoaaDoorZU34
import Derived.Test.YtncebhddcokkoaaDoorZU20
import Derived.Test.YtncebhddcokkoaaDoorZU21
import Derived.Test.YtncebhddcokkoaaDoorZU29
/- UnifyHolds, walked. -/
namespace Go.Proofs.YtncebhddcokkoaaDoor
open Go.RowKit Go.Maps
set_option linter.unusedSimpArgs false
set_option linter.unusedVariables false
theorem sm_cnt : ∀ (D : Nat) (t : Tm), cnt2 t ≤ 100000 → Sm D t := by
  intro D
  induction D with
  | zero => intro t _; trivial
  | succ D ih =>
    intro t h
    obtain ⟨k, p, n, N, l⟩ := t
    rw [cnt2_eq] at h
    have key : ∀ (m : List Tm), m.length ≤ (m.map cnt2).sum ∧ ∀ x ∈ m, cnt2 x ≤ (m.map cnt2).sum := by
      intro m
      induction m with
      | nil => exact ⟨Nat.le_refl _, fun x hx => by cases hx⟩
      | cons y m ihm =>
        have := cnt2_pos y
        refine ⟨by simp; omega, fun x hx => ?_⟩
        simp only [List.map_cons, List.sum_cons]
        rcases List.mem_cons.1 hx with rfl | hx
        · omega
        · have := ihm.2 x hx; omega
    exact ⟨by have := (key l).1; omega, fun x hx => ih x (by have := (key l).2 x hx; omega)⟩
theorem eqAt_dp {w : World} {d : Nat} {v : Value} {E : List (Tm × Tm)} (h : EqAt w d v E) : ∀ x ∈ E, Dp d x.1 ∧ Dp d x.2 := by
  intro x hx
  obtain ⟨q, c, _, h⟩ := h
  obtain ⟨i, hi⟩ := List.getElem?_of_mem hx
  obtain ⟨g, o, k, p, n, N, s, k', p', n', N', s', _, ⟨_, h1⟩, _, h2⟩ := h i x hi
  exact ⟨h1.dp, h2.dp⟩
end Go.Proofs.YtncebhddcokkoaaDoor
/- The document's solver: New. -/
namespace Go.Proofs.YtncebhddcokkoaaDoor
open Go.RowKit
set_option linter.unusedSimpArgs false
set_option linter.unusedVariables false
theorem Typ.nz {t : Tm} (h : Typ t) : NZ t := by
  induction h with
  | var s => exact .mk (by decide) fun x hx => by cases hx
  | con hk h ih => exact .mk (by rcases hk with rfl | rfl | rfl <;> decide) ih
theorem IsT.lt {w : World} {d : Nat} : ∀ {v : Value} {t : Tm}, IsT w d v t → IsX (fun b => b < w.heap.size) w d v t := by
  induction d with
  | zero => intro v t h; cases h
  | succ d ih =>
    intro v t h
    obtain ⟨k, p, n, N, kids⟩ := t
    obtain ⟨q, c, h1, h2, h3, h4, h5⟩ := h
    refine ⟨q, c, h1, h2, h3, h4, fun i y hy => ?_⟩
    obtain ⟨b, o, k', p', n', N', s', e, ha, ht⟩ := h5 i y hy
    exact ⟨b, o, k', p', n', N', s', e, ha.lt, ha, ih ht⟩
theorem SRow.set76 {w : World} {v : Value} {l : List ByteArray} (h : SRow w v l) {B : Nat} {q q' : Option Addr} {n c n' c' : Nat} (hb : w.heap[B]? = some (.cells #[.slice q n c, .slice q' n' c'] 76 (0, 0))) (i0 : Nat) (u : Value) : SRow (w.setCell ⟨B, i0, none⟩ u) v l := by
  obtain ⟨qs, cs, e, h2⟩ := h
  refine ⟨qs, cs, e, fun i s hs => ?_⟩
  obtain ⟨g, e2, hc⟩ := h2 i s hs
  refine ⟨g, e2, ?_⟩
  have hne : g ≠ B := by
    rintro rfl
    rw [hb_cell hb] at hc
    match i, hc with
    | 0, hc => cases hc
    | 1, hc => cases hc
    | i + 2, hc => simp at hc
  have hl := block_lt_of_cell hc
  unfold World.cell? at hc ⊢
  rw [Below.heap_setCell w _ u g (fun e => hne e)]
  exact hc
theorem zeros_flat (m : Nat) : byA m 0 = (flatC (List.replicate m ((0, ⟨#[]⟩, ⟨#[]⟩, 0, .slice none 0 0) : T5))).toArray := by
  apply Array.ext_getElem?
  intro k
  by_cases hk : k < m * 5
  · have e : k = k / 5 * 5 + k % 5 := by omega
    have hi : k / 5 < m := by omega
    have hr : k % 5 < 5 := by omega
    rw [e, byA_at m 0 (k / 5) (k % 5) hi hr]
    have h1 : (List.replicate m ((0, ⟨#[]⟩, ⟨#[]⟩, 0, .slice none 0 0) : T5))[k / 5]? = some (0, ⟨#[]⟩, ⟨#[]⟩, 0, .slice none 0 0) := by rw [List.getElem?_replicate, if_pos hi]
    have h2 := flatC_row h1 (k % 5)
    generalize k % 5 = r at hr h2 ⊢
    have h3 : r = 0 ∨ r = 1 ∨ r = 2 ∨ r = 3 ∨ r = 4 := by omega
    rw [List.getElem?_toArray]
    rcases h3 with rfl | rfl | rfl | rfl | rfl
    · rw [h2 _ rfl]; simp [cellJ]
    · rw [h2 _ rfl]; simp [cellJ]
    · rw [h2 _ rfl]; simp [cellJ]
    · rw [h2 _ rfl]; simp [cellJ]
    · rw [h2 _ rfl]; simp [cellJ]
  · rw [Array.getElem?_eq_none (by simp [byA]; omega), Array.getElem?_eq_none (by simp [flatC_length]; omega)]
theorem tot_take (d : Nat) (E : List (Tm × Tm)) (j : Nat) : tot d (E.take j) ≤ tot d E := by
  have : tot d E = tot d (E.take j) + tot d (E.drop j) := by rw [← tot_app, List.take_append_drop]
  omega
theorem nms_len (d : Nat) (E : List (Tm × Tm)) : (nmsE d E).length ≤ tot d E := by
  have h := varsL_length d (varsT_length d) (two E) []
  show ((two E).foldl (varsT d) []).length ≤ (two E).foldl (fun n t => n + tszN d t) 0
  simpa using h
/-- What New answers. -/
def RNewQ (d : Nat) (E : List (Tm × Tm)) (w : World) (e : Ending) (w' : World) : Prop :=
  ∃ (B g : Nat) (r : Bool), e = .returned (.tuple #[.pointer (some ⟨B, 0, none⟩), .bool r]) ∧ Below w.heap.size w w' ∧ (r = false → ¬ ∃ τ, SolE E τ) ∧
    (r = true → ∃ S nv cg, RSt w.heap.size B g d (nmsE d E) S nv cg w' ∧ S.Inv (nmsE d E) (ixO (nmsE d E)) ∧ S.Nz ∧ ∀ σ, S.Sol σ ↔ SolE E σ)
set_option maxRecDepth 100000 in
set_option maxHeartbeats 4000000 in
theorem rnew_any (w : World) (d : Nat) (v : Value) (E : List (Tm × Tm)) (hE : EqAt w d v E) (hT : ∀ x ∈ E, Typ x.1 ∧ Typ x.2) (htot : tot d E ≤ 1000) (hel : E.length ≤ 1000) : Calls Tryd.prog 42 #[v] w (RNewQ d E w) := by
  have HDP := Lib.hid (eqAt_dp hE)
  obtain ⟨qe, ce, rfl, hq⟩ := hE
  have HE : RowKit.Hid (EqAt w d (.slice qe E.length ce) E) := Lib.hid ⟨qe, ce, rfl, hq⟩
  have HT := Lib.hid hT
  have HTOT := Lib.hid htot
  clear hq hT
  have HNL := Lib.hid (Nat.le_trans (nms_len d E) htot)
  go_enter Tryd.func42, Tryd.ntmps42
  go_upto_region 2 with (fail)
  have HB1 := Lib.hid (below_alloc w (.cells #[.slice none 0 0, .slice none 0 0] 76))
  have HX1 := Lib.hid (hb_new w (.cells #[.slice none 0 0, .slice none 0 0] 76))
  generalize w.alloc (.cells #[.slice none 0 0, .slice none 0 0] 76) = W1 at *
  go_wp2
  go_loopw [5] (fun t wr => ∃ (j : Nat) (nv : Value), j ≤ E.length ∧ t = .int .i64 j ∧ wr.heap[w.heap.size]? = some (.cells #[nv, .slice none 0 0] 76 (0, 0)) ∧ SRow wr nv (nmsE d (E.take j)) ∧ Below w.heap.size w wr) (fun t _ => E.length - (intOf t).toNat)
  case atStart => exact ⟨0, _, Nat.zero_le _, rfl, HX1.out, ⟨none, 0, rfl, fun i s h => by simp [nmsE, two] at h⟩, HB1.out⟩
  case round =>
    obtain ⟨j, nv, hj, rfl, hbx, hsr, hbel⟩ := hrel
    have hsr9 := hsr
    obtain ⟨qn, cn, rfl, _⟩ := hsr9
    have HBX := Lib.hid hbx
    have HSR := Lib.hid hsr
    have HBEL := Lib.hid hbel
    clear hsr
    have z0 := hb_at hbx 0 rfl
    by_cases hlt : j < E.length
    · have hlt2 : (j : Int) < (E.length : Int) := by omega
      have hx := List.getElem?_eq_getElem hlt
      generalize (E[j]'hlt) = x at hx
      obtain ⟨qe', ce', eqe, hqe⟩ := HE.out
      injection eqe with eq1 eq2 eq3; clear eq2
      subst eq1 eq3
      obtain ⟨ge, oe, k, p, n, I, s, k', p', n', I', s', rfl, ⟨ta, hi1⟩, tb, hi2⟩ := hqe j x hx
      obtain ⟨q, ln, cc, rfl⟩ := hi1.spell
      obtain ⟨q', ln', cc', rfl⟩ := hi2.spell
      have htk : E.take (j + 1) = E.take j ++ [x] := by rw [List.take_add_one, hx]; rfl
      have HNX : RowKit.Hid (nmsE d (E.take (j + 1)) = varsT d (varsT d (nmsE d (E.take j)) x.1) x.2) := Lib.hid (by rw [htk, nmsE_snoc])
      have hl1 : (nmsE d (E.take j)).length + tszN d x.1 + tszN d x.2 ≤ 1000 := by
        have h1 := nms_len d (E.take j)
        have h2 := tot_take d E (j + 1)
        rw [htk, tot_app, tot_one] at h2
        have := HTOT.out
        omega
      have HLN1 : RowKit.Hid ((nmsE d (E.take j)).length + tszN d x.1 ≤ 100000) := Lib.hid (by omega)
      have HLN2 : RowKit.Hid ((varsT d (nmsE d (E.take j)) x.1).length + tszN d x.2 ≤ 100000) := Lib.hid (by have := varsT_length d (nmsE d (E.take j)) x.1; omega)
      generalize nmsE d (E.take j) = NJ at *
      have HT1 := Lib.hid (hi1.below hbel)
      have HT2 := Lib.hid (hi2.below hbel)
      obtain ⟨s0, s1, s2, s3, s4⟩ := ta.below hbel ta.lt
      obtain ⟨t0, t1, t2, t3, t4⟩ := tb.below hbel tb.lt
      clear hx ta tb hi1 hi2 hqe hbx hbel htk hl1
      go_upto_region 5 with (fail)
      refine Inr.region (by kernel_rfl) 17 [some 15, some 16, some 17, some 18, some 19, some 20, some 21, some 22, some 23, some 24, some 25, some 26, some 27, some 28, some 29, some 30, some 31, some 32, some 33, none] [[], [], [1], [2], [3], [], [], [5, 6], [7], [8], [4, 9], [], [], [11, 12], [13], [14], [10, 15, 10]] (by kernel_rfl) (by kernel_rfl) (by kernel_rfl) (by kernel_rfl) [Inr.MP.is (.pointer (some ⟨w.heap.size, 0, none⟩)), Inr.MP.is (.pointer (some ⟨w.heap.size, 0, none⟩)), Inr.MP.is (.pointer (some ⟨w.heap.size, 0, none⟩)), Inr.MP.is (.pointer (some ⟨w.heap.size, 0, none⟩)), Inr.MP.is (.slice qn NJ.length cn), Inr.MP.is (.slice (some ⟨ge, oe, none⟩) E.length ce), Inr.MP.is (.int .i64 j), Inr.MP.is (.pointer (some ⟨ge, oe + j * 10, none⟩)), Inr.MP.is (.pointer (some ⟨ge, oe + j * 10, none⟩)), Inr.MP.is (tv k p n I (.slice q ln cc)), Inr.MP.vrow (varsT d NJ x.1), Inr.MP.is (.slice (some ⟨ge, oe, none⟩) E.length ce), Inr.MP.is (.int .i64 j), Inr.MP.is (.pointer (some ⟨ge, oe + j * 10, none⟩)), Inr.MP.is (.pointer (some ⟨ge, oe + j * 10 + 5, none⟩)), Inr.MP.is (tv k' p' n' I' (.slice q' ln' cc')), Inr.MP.vrow (varsT d (varsT d NJ x.1) x.2)] [] (by intro x hx; cases hx) ⟨?_, ?_, ?_, ?_, ?_, ?_, ?_, ?_, ?_, ?_, ?_, ?_, ?_, ?_, ?_, ?_, ?_, trivial⟩ (fun vs wq hbq hv htie => ?_)
      · intro vs w' hb hv K hK
        clear hv
        have hK2 := hK.out
        clear hK
        simp only [Inr.putD, Inr.dst, List.foldl_cons, List.foldl_nil, List.getD_cons_zero, List.getD_cons_succ, Act.put, List.setIfInBounds_toArray, List.set_cons_zero, List.set_cons_succ] at hK2 ⊢
        have hK := Lib.hid hK2
        clear hK2
        simp only [Region.wanted, Inr.yieldedD, Inr.dst, List.getD_cons_zero, List.getD_cons_succ]
        go_simp
        refine hK.out _ _ (Eq.refl _) (Below.refl _ _) (Inr.noTies _ _ _ _ _)
      · intro vs w' hb hv K hK
        clear hv
        have hK2 := hK.out
        clear hK
        simp only [Inr.putD, Inr.dst, List.foldl_cons, List.foldl_nil, List.getD_cons_zero, List.getD_cons_succ, Act.put, List.setIfInBounds_toArray, List.set_cons_zero, List.set_cons_succ] at hK2 ⊢
        have hK := Lib.hid hK2
        clear hK2
        simp only [Region.wanted, Inr.yieldedD, Inr.dst, List.getD_cons_zero, List.getD_cons_succ]
        go_simp
        refine hK.out _ _ (Eq.refl _) (Below.refl _ _) (Inr.noTies _ _ _ _ _)
      · intro vs w' hb hv K hK
        have h1 : (Inr.MP.is (.pointer (some ⟨w.heap.size, 0, none⟩))).p (vs 1) w' := hv 1 (by simp)
        clear hv
        have hK2 := hK.out
        clear hK
        simp only [Inr.putD, Inr.dst, List.foldl_cons, List.foldl_nil, List.getD_cons_zero, List.getD_cons_succ, Act.put, List.setIfInBounds_toArray, List.set_cons_zero, List.set_cons_succ] at hK2 ⊢
        have hK := Lib.hid hK2
        clear hK2
        generalize vs 1 = y1 at *
        have h1 : y1 = _ := h1
        subst h1
        simp only [Region.wanted, Inr.yieldedD, Inr.dst, List.getD_cons_zero, List.getD_cons_succ]
        go_simp
        refine hK.out _ _ (Eq.refl _) (Below.refl _ _) (Inr.noTies _ _ _ _ _)
      · intro vs w' hb hv K hK
        have h2 : (Inr.MP.is (.pointer (some ⟨w.heap.size, 0, none⟩))).p (vs 2) w' := hv 2 (by simp)
        clear hv
        have hK2 := hK.out
        clear hK
        simp only [Inr.putD, Inr.dst, List.foldl_cons, List.foldl_nil, List.getD_cons_zero, List.getD_cons_succ, Act.put, List.setIfInBounds_toArray, List.set_cons_zero, List.set_cons_succ] at hK2 ⊢
        have hK := Lib.hid hK2
        clear hK2
        generalize vs 2 = y2 at *
        have h2 : y2 = _ := h2
        subst h2
        simp only [Region.wanted, Inr.yieldedD, Inr.dst, List.getD_cons_zero, List.getD_cons_succ]
        go_simp
        refine hK.out _ _ (Eq.refl _) (Below.refl _ _) (Inr.noTies _ _ _ _ _)
      · intro vs w' hb hv K hK
        have h3 : (Inr.MP.is (.pointer (some ⟨w.heap.size, 0, none⟩))).p (vs 3) w' := hv 3 (by simp)
        clear hv
        have hK2 := hK.out
        clear hK
        simp only [Inr.putD, Inr.dst, List.foldl_cons, List.foldl_nil, List.getD_cons_zero, List.getD_cons_succ, Act.put, List.setIfInBounds_toArray, List.set_cons_zero, List.set_cons_succ] at hK2 ⊢
        have hK := Lib.hid hK2
        clear hK2
        generalize vs 3 = y3 at *
        have h3 : y3 = _ := h3
        subst h3
        have c0 := keep_cell hb z0
        simp only [Region.wanted, Inr.yieldedD, Inr.dst, List.getD_cons_zero, List.getD_cons_succ]
        go_simp
        refine hK.out _ _ (Eq.refl _) (Below.refl _ _) (Inr.noTies _ _ _ _ _)
      · intro vs w' hb hv K hK
        clear hv
        have hK2 := hK.out
        clear hK
        simp only [Inr.putD, Inr.dst, List.foldl_cons, List.foldl_nil, List.getD_cons_zero, List.getD_cons_succ, Act.put, List.setIfInBounds_toArray, List.set_cons_zero, List.set_cons_succ] at hK2 ⊢
        have hK := Lib.hid hK2
        clear hK2
        simp only [Region.wanted, Inr.yieldedD, Inr.dst, List.getD_cons_zero, List.getD_cons_succ]
        go_simp
        refine hK.out _ _ (Eq.refl _) (Below.refl _ _) (Inr.noTies _ _ _ _ _)
      · intro vs w' hb hv K hK
        clear hv
        have hK2 := hK.out
        clear hK
        simp only [Inr.putD, Inr.dst, List.foldl_cons, List.foldl_nil, List.getD_cons_zero, List.getD_cons_succ, Act.put, List.setIfInBounds_toArray, List.set_cons_zero, List.set_cons_succ] at hK2 ⊢
        have hK := Lib.hid hK2
        clear hK2
        simp only [Region.wanted, Inr.yieldedD, Inr.dst, List.getD_cons_zero, List.getD_cons_succ]
        go_simp
        refine hK.out _ _ (Eq.refl _) (Below.refl _ _) (Inr.noTies _ _ _ _ _)
      · intro vs w' hb hv K hK
        have h5 : (Inr.MP.is (.slice (some ⟨ge, oe, none⟩) E.length ce)).p (vs 5) w' := hv 5 (by simp)
        have h6 : (Inr.MP.is (.int .i64 j)).p (vs 6) w' := hv 6 (by simp)
        clear hv
        have hK2 := hK.out
        clear hK
        simp only [Inr.putD, Inr.dst, List.foldl_cons, List.foldl_nil, List.getD_cons_zero, List.getD_cons_succ, Act.put, List.setIfInBounds_toArray, List.set_cons_zero, List.set_cons_succ] at hK2 ⊢
        have hK := Lib.hid hK2
        clear hK2
        generalize vs 5 = y5 at *
        generalize vs 6 = y6 at *
        have h5 : y5 = _ := h5
        subst h5
        have h6 : y6 = _ := h6
        subst h6
        simp only [Region.wanted, Inr.yieldedD, Inr.dst, List.getD_cons_zero, List.getD_cons_succ]
        go_simp
        refine hK.out _ _ (Eq.refl _) (Below.refl _ _) (Inr.noTies _ _ _ _ _)
      · intro vs w' hb hv K hK
        have h7 : (Inr.MP.is (.pointer (some ⟨ge, oe + j * 10, none⟩))).p (vs 7) w' := hv 7 (by simp)
        clear hv
        have hK2 := hK.out
        clear hK
        simp only [Inr.putD, Inr.dst, List.foldl_cons, List.foldl_nil, List.getD_cons_zero, List.getD_cons_succ, Act.put, List.setIfInBounds_toArray, List.set_cons_zero, List.set_cons_succ] at hK2 ⊢
        have hK := Lib.hid hK2
        clear hK2
        generalize vs 7 = y7 at *
        have h7 : y7 = _ := h7
        subst h7
        simp only [Region.wanted, Inr.yieldedD, Inr.dst, List.getD_cons_zero, List.getD_cons_succ]
        go_simp
        refine hK.out _ _ (Eq.refl _) (Below.refl _ _) (Inr.noTies _ _ _ _ _)
      · intro vs w' hb hv K hK
        have h8 : (Inr.MP.is (.pointer (some ⟨ge, oe + j * 10, none⟩))).p (vs 8) w' := hv 8 (by simp)
        clear hv
        have hK2 := hK.out
        clear hK
        simp only [Inr.putD, Inr.dst, List.foldl_cons, List.foldl_nil, List.getD_cons_zero, List.getD_cons_succ, Act.put, List.setIfInBounds_toArray, List.set_cons_zero, List.set_cons_succ] at hK2 ⊢
        have hK := Lib.hid hK2
        clear hK2
        generalize vs 8 = y8 at *
        have h8 : y8 = _ := h8
        subst h8
        have c0 := keep_cell hb s0
        have c1 := keep_cell hb s1
        have c2 := keep_cell hb s2
        have c3 := keep_cell hb s3
        have c4 := keep_cell hb s4
        simp only [Region.wanted, Inr.yieldedD, Inr.dst, List.getD_cons_zero, List.getD_cons_succ]
        go_simp
        refine hK.out _ _ (Eq.refl _) (Below.refl _ _) (Inr.noTies _ _ _ _ _)
      · intro vs w' hb hv K hK
        have h4 : (Inr.MP.is (.slice qn NJ.length cn)).p (vs 4) w' := hv 4 (by simp)
        have h9 : (Inr.MP.is (tv k p n I (.slice q ln cc))).p (vs 9) w' := hv 9 (by simp)
        clear hv
        have hK2 := hK.out
        clear hK
        simp only [Inr.putD, Inr.dst, List.foldl_cons, List.foldl_nil, List.getD_cons_zero, List.getD_cons_succ, Act.put, List.setIfInBounds_toArray, List.set_cons_zero, List.set_cons_succ] at hK2 ⊢
        have hK := Lib.hid hK2
        clear hK2
        generalize vs 4 = y4 at *
        generalize vs 9 = y9 at *
        have h4 : y4 = _ := h4
        subst h4
        have h9 : y9 = _ := h9
        subst h9
        have hc := rvars_any d _ _ NJ x.1 w' (HT1.out.below hb) (HSR.out.below hb) HLN1.out
        have HC := Lib.hid hc
        clear hc
        simp only [Region.wanted, Inr.yieldedD, Inr.dst, List.getD_cons_zero, List.getD_cons_succ]
        go_simp
        ((with_reducible refine HC.out.mono ?_); rintro e5 w5 ⟨v5, rfl, hx5, hb5⟩)
        go_wp2_with fail
        refine hK.out _ _ hx5 hb5 (Inr.noTies _ _ _ _ _)
      · intro vs w' hb hv K hK
        clear hv
        have hK2 := hK.out
        clear hK
        simp only [Inr.putD, Inr.dst, List.foldl_cons, List.foldl_nil, List.getD_cons_zero, List.getD_cons_succ, Act.put, List.setIfInBounds_toArray, List.set_cons_zero, List.set_cons_succ] at hK2 ⊢
        have hK := Lib.hid hK2
        clear hK2
        simp only [Region.wanted, Inr.yieldedD, Inr.dst, List.getD_cons_zero, List.getD_cons_succ]
        go_simp
        refine hK.out _ _ (Eq.refl _) (Below.refl _ _) (Inr.noTies _ _ _ _ _)
      · intro vs w' hb hv K hK
        clear hv
        have hK2 := hK.out
        clear hK
        simp only [Inr.putD, Inr.dst, List.foldl_cons, List.foldl_nil, List.getD_cons_zero, List.getD_cons_succ, Act.put, List.setIfInBounds_toArray, List.set_cons_zero, List.set_cons_succ] at hK2 ⊢
        have hK := Lib.hid hK2
        clear hK2
        simp only [Region.wanted, Inr.yieldedD, Inr.dst, List.getD_cons_zero, List.getD_cons_succ]
        go_simp
        refine hK.out _ _ (Eq.refl _) (Below.refl _ _) (Inr.noTies _ _ _ _ _)
      · intro vs w' hb hv K hK
        have h11 : (Inr.MP.is (.slice (some ⟨ge, oe, none⟩) E.length ce)).p (vs 11) w' := hv 11 (by simp)
        have h12 : (Inr.MP.is (.int .i64 j)).p (vs 12) w' := hv 12 (by simp)
        clear hv
        have hK2 := hK.out
        clear hK
        simp only [Inr.putD, Inr.dst, List.foldl_cons, List.foldl_nil, List.getD_cons_zero, List.getD_cons_succ, Act.put, List.setIfInBounds_toArray, List.set_cons_zero, List.set_cons_succ] at hK2 ⊢
        have hK := Lib.hid hK2
        clear hK2
        generalize vs 11 = y11 at *
        generalize vs 12 = y12 at *
        have h11 : y11 = _ := h11
        subst h11
        have h12 : y12 = _ := h12
        subst h12
        simp only [Region.wanted, Inr.yieldedD, Inr.dst, List.getD_cons_zero, List.getD_cons_succ]
        go_simp
        refine hK.out _ _ (Eq.refl _) (Below.refl _ _) (Inr.noTies _ _ _ _ _)
      · intro vs w' hb hv K hK
        have h13 : (Inr.MP.is (.pointer (some ⟨ge, oe + j * 10, none⟩))).p (vs 13) w' := hv 13 (by simp)
        clear hv
        have hK2 := hK.out
        clear hK
        simp only [Inr.putD, Inr.dst, List.foldl_cons, List.foldl_nil, List.getD_cons_zero, List.getD_cons_succ, Act.put, List.setIfInBounds_toArray, List.set_cons_zero, List.set_cons_succ] at hK2 ⊢
        have hK := Lib.hid hK2
        clear hK2
        generalize vs 13 = y13 at *
        have h13 : y13 = _ := h13
        subst h13
        simp only [Region.wanted, Inr.yieldedD, Inr.dst, List.getD_cons_zero, List.getD_cons_succ]
        go_simp
        refine hK.out _ _ (Eq.refl _) (Below.refl _ _) (Inr.noTies _ _ _ _ _)
      · intro vs w' hb hv K hK
        have h14 : (Inr.MP.is (.pointer (some ⟨ge, oe + j * 10 + 5, none⟩))).p (vs 14) w' := hv 14 (by simp)
        clear hv
        have hK2 := hK.out
        clear hK
        simp only [Inr.putD, Inr.dst, List.foldl_cons, List.foldl_nil, List.getD_cons_zero, List.getD_cons_succ, Act.put, List.setIfInBounds_toArray, List.set_cons_zero, List.set_cons_succ] at hK2 ⊢
        have hK := Lib.hid hK2
        clear hK2
        generalize vs 14 = y14 at *
        have h14 : y14 = _ := h14
        subst h14
        have c0 := keep_cell hb t0
        have c1 := keep_cell hb t1
        have c2 := keep_cell hb t2
        have c3 := keep_cell hb t3
        have c4 := keep_cell hb t4
        simp only [Region.wanted, Inr.yieldedD, Inr.dst, List.getD_cons_zero, List.getD_cons_succ]
        go_simp
        refine hK.out _ _ (Eq.refl _) (Below.refl _ _) (Inr.noTies _ _ _ _ _)
      · intro vs w' hb hv K hK
        have h10 : (Inr.MP.vrow (varsT d NJ x.1)).p (vs 10) w' := hv 10 (by simp)
        have h15 : (Inr.MP.is (tv k' p' n' I' (.slice q' ln' cc'))).p (vs 15) w' := hv 15 (by simp)
        clear hv
        have hK2 := hK.out
        clear hK
        simp only [Inr.putD, Inr.dst, List.foldl_cons, List.foldl_nil, List.getD_cons_zero, List.getD_cons_succ, Act.put, List.setIfInBounds_toArray, List.set_cons_zero, List.set_cons_succ] at hK2 ⊢
        have hK := Lib.hid hK2
        clear hK2
        generalize vs 10 = y10 at *
        generalize vs 15 = y15 at *
        have h15 : y15 = _ := h15
        subst h15
        have h10 : SRow w' y10 (varsT d NJ x.1) := h10
        have hc := rvars_any d _ _ (varsT d NJ x.1) x.2 w' (HT2.out.below hb) h10 HLN2.out
        have HC := Lib.hid hc
        clear hc
        simp only [Region.wanted, Inr.yieldedD, Inr.dst, List.getD_cons_zero, List.getD_cons_succ]
        go_simp
        ((with_reducible refine HC.out.mono ?_); rintro e5 w5 ⟨v5, rfl, hx5, hb5⟩)
        go_wp2_with fail
        refine hK.out _ _ hx5 hb5 (Inr.noTies _ _ _ _ _)
      · have h16 : SRow wq (vs 16) (varsT d (varsT d NJ x.1) x.2) := hv 16 (by omega)
        have h0 : vs 0 = .pointer (some ⟨w.heap.size, 0, none⟩) := hv 0 (by omega)
        clear hv htie
        simp only [List.range, List.range.loop, Inr.putD, Inr.dst, List.foldl_cons, List.foldl_nil, List.getD_cons_zero, List.getD_cons_succ, Act.put, List.setIfInBounds_toArray, List.set_cons_zero, List.set_cons_succ]
        simp only [List.drop_succ_cons, List.drop_zero]
        generalize vs 0 = y0 at *
        generalize vs 1 = y1 at *
        generalize vs 2 = y2 at *
        generalize vs 3 = y3 at *
        generalize vs 4 = y4 at *
        generalize vs 5 = y5 at *
        generalize vs 6 = y6 at *
        generalize vs 7 = y7 at *
        generalize vs 8 = y8 at *
        generalize vs 9 = y9 at *
        generalize vs 10 = y10 at *
        generalize vs 11 = y11 at *
        generalize vs 12 = y12 at *
        generalize vs 13 = y13 at *
        generalize vs 14 = y14 at *
        generalize vs 15 = y15 at *
        generalize vs 16 = y16 at *
        subst h0
        have hSH := h16
        obtain ⟨q9, c9, rfl, _⟩ := hSH
        have HBQ := Lib.hid hbq
        have hbx9 := hb_below HBX.out hbq (hb_lt HBX.out)
        have HBX9 := Lib.hid hbx9
        have H16 := Lib.hid h16
        have f0 := hb_free hbx9 0
        have f1 := hb_free hbx9 1
        have e0 := hb_at hbx9 0 rfl
        have e1 := hb_at hbx9 1 rfl
        clear hbq hbx9 h16
        go_wp2
        have G3 := hb_set_same HBX9.out 0 (.slice q9 (varsT d (varsT d NJ x.1) x.2).length c9)
        exact ⟨⟨j + 1, _, by omega, by go_num, G3, by rw [HNX.out]; exact H16.out.set76 HBX9.out 0 _, (HBEL.out.trans (HBQ.out.mono HBEL.out.size)).setCell (Nat.le_refl _) _⟩, by simp [intOf]; omega⟩
    · obtain rfl : j = E.length := by omega
      have hsr := HSR.out
      rw [List.take_length] at hsr
      have hmk := makeM (nmsE d E).length (by have := HNL.out; omega) wr
      have hlen : (nmsE d (E.take E.length)).length = (nmsE d E).length := by rw [List.take_length]
      rw [hlen] at z0 hbx
      have HSR := Lib.hid hsr
      have HBX := Lib.hid hbx
      have f1 := hb_free hbx 1
      have e1 := hb_at hbx 1 rfl
      have hBlt := hb_lt hbx
      clear hsr hlen hbel hbx
      go_upto_region 7 with (fail)
      have hs5 : (wr.setCell ⟨w.heap.size, 1, none⟩ (.slice (some ⟨wr.heap.size, 0, none⟩) (nmsE d E).length (nmsE d E).length)).heap.size = wr.heap.size := by simp [World.setCell]
      have hbx5 := hb_set_same HBX.out 1 (.slice (some ⟨wr.heap.size, 0, none⟩) (nmsE d E).length (nmsE d E).length)
      have hsr5 := HSR.out.set76 HBX.out 1 (.slice (some ⟨wr.heap.size, 0, none⟩) (nmsE d E).length (nmsE d E).length)
      have hb5 : Below w.heap.size w (wr.setCell ⟨w.heap.size, 1, none⟩ (.slice (some ⟨wr.heap.size, 0, none⟩) (nmsE d E).length (nmsE d E).length)) := HBEL.out.setCell (Nat.le_refl _) _
      clear HSR HBX HBEL hmk e1 f1 z0
      generalize wr.setCell ⟨w.heap.size, 1, none⟩ (.slice (some ⟨wr.heap.size, 0, none⟩) (nmsE d E).length (nmsE d E).length) = W5 at *
      rw [← hs5] at hbx5 hBlt
      have hbn := hb_new W5 (.cells (byA (nmsE d E).length 0) 36)
      have hba := below_alloc W5 (.cells (byA (nmsE d E).length 0) 36)
      have hst : RSt w.heap.size w.heap.size W5.heap.size d (nmsE d E) (fun _ => none) (.slice qn (nmsE d E).length cn) (nmsE d E).length (W5.alloc (.cells (byA (nmsE d E).length 0) 36)) := by
        refine ⟨Nat.le_refl _, by omega, by omega, by have := HNL.out; omega, ?_, hb_below hbx5 hba hBlt, List.replicate (nmsE d E).length ((0, ⟨#[]⟩, ⟨#[]⟩, 0, .slice none 0 0) : T5), List.length_replicate, ?_, fun n hn => ⟨((0, ⟨#[]⟩, ⟨#[]⟩, 0, .slice none 0 0) : T5), by rw [List.getElem?_replicate, if_pos (ixO_lt hn)], .inl ⟨rfl, rfl⟩⟩⟩
        · obtain ⟨qs, cs, e, h2⟩ := hsr5
          refine ⟨qs, cs, e, fun i s hs => ?_⟩
          obtain ⟨gn, e4, hc⟩ := h2 i s hs
          exact ⟨gn, 0, e4, Nat.ne_of_lt (block_lt_of_cell hc), by rw [Nat.zero_add]; exact keep_cell hba hc⟩
        · rw [← zeros_flat]
          exact hbn
      have HST := Lib.hid hst
      have HB6 := Lib.hid (hb5.trans (hba.mono (by omega)))
      rw [hs5] at HST
      clear hbn hba hst hb5 hsr5 hbx5
      generalize W5.alloc (.cells (byA (nmsE d E).length 0) 36) = W6 at *
      clear hs5
      generalize hgg : wr.heap.size = g at *
      have HGG := Lib.hid hgg
      clear hgg
      go_wp2
      go_loopw [6] (fun t wr => ∃ (j : Nat) (S1 : RS), j ≤ E.length ∧ t = .int .i64 j ∧ RSt w.heap.size w.heap.size g d (nmsE d E) S1 (.slice qn (nmsE d E).length cn) (nmsE d E).length wr ∧ S1.Inv (nmsE d E) (ixO (nmsE d E)) ∧ S1.Nz ∧ (∀ σ, S1.Sol σ ↔ SolE (E.take j) σ) ∧ Below w.heap.size w wr) (fun t _ => E.length - (intOf t).toNat)
      case atStart => exact ⟨0, _, Nat.zero_le _, rfl, HST.out, RS.inv_none _ _, fun n t h => (by cases h), fun σ => ⟨fun _ e he => (by cases he), fun _ => RS.sol_none σ⟩, HB6.out⟩
      case round =>
        obtain ⟨j, S1, hj, rfl, hr1, hinv, hn1, hsol, hbel⟩ := hrel
        have HR1 := Lib.hid hr1
        have HINV := Lib.hid hinv
        have HN1 := Lib.hid hn1
        have HSOL := Lib.hid hsol
        have HBL2 := Lib.hid hbel
        have HBW := Lib.hid hr1.b0
        clear hn1 hsol
        by_cases hlt : j < E.length
        · have hlt2 : (j : Int) < (E.length : Int) := by omega
          have hx := List.getElem?_eq_getElem hlt
          generalize (E[j]'hlt) = x at hx
          obtain ⟨qe', ce', eqe, hqe⟩ := HE.out
          injection eqe with eq1 eq2 eq3; clear eq2
          subst eq1 eq3
          obtain ⟨ge, oe, k, p, n, I, s, k', p', n', I', s', rfl, ⟨ta, hi1⟩, tb, hi2⟩ := hqe j x hx
          obtain ⟨q, ln, cc, rfl⟩ := hi1.spell
          obtain ⟨q', ln', cc', rfl⟩ := hi2.spell
          have HXJ := Lib.hid hx
          have HM := List.mem_of_getElem? hx
          have HT1 := Lib.hid (hi1.lt.below hbel)
          have HT2 := Lib.hid (hi2.lt.below hbel)
          have hty := HT.out x HM
          have hdp := HDP.out x HM
          have hw1 : Wt (nmsE d E) x.1 := ⟨hty.1.tyy, fun m hm => mem_nmsE.2 ⟨x, HM, .inl (oc_hasV hdp.1 hm)⟩⟩
          have hw2 : Wt (nmsE d E) x.2 := ⟨hty.2.tyy, fun m hm => mem_nmsE.2 ⟨x, HM, .inr (oc_hasV hdp.2 hm)⟩⟩
          obtain ⟨u1, hf1⟩ := hinv.all hw1.1
          obtain ⟨u2, hf2⟩ := hinv.all hw2.1
          have HW1 := Lib.hid hw1
          have HW2 := Lib.hid hw2
          have HZ1 := Lib.hid hty.1.nz
          have HZ2 := Lib.hid hty.2.nz
          have HF1 := Lib.hid hf1
          have HF2 := Lib.hid hf2
          have HGE := Lib.hid ta.lt
          have HGB := Lib.hid hr1.hg
          obtain ⟨s0, s1, s2, s3, s4⟩ := ta.below hbel ta.lt
          obtain ⟨t0, t1, t2, t3, t4⟩ := tb.below hbel tb.lt
          clear hx ta tb hi1 hi2 hqe hbel HM hty hdp hw1 hw2 hf1 hf2 hr1 hinv
          go_upto_region 10 with (fail)
          refine wp_region_held_drew (S := (fun w' => RowKit.Hid (Gk w.heap.size g wr w') ∧ w'.cell? ⟨ge, oe + j * 10, none⟩ = some (.int .i64 k) ∧ w'.cell? ⟨ge, oe + j * 10 + 1, none⟩ = some (.string p) ∧ w'.cell? ⟨ge, oe + j * 10 + 2, none⟩ = some (.string n) ∧ w'.cell? ⟨ge, oe + j * 10 + 3, none⟩ = some (.int .i64 I) ∧ w'.cell? ⟨ge, oe + j * 10 + 4, none⟩ = some (.slice q ln cc) ∧ w'.cell? ⟨ge, oe + j * 10 + 5, none⟩ = some (.int .i64 k') ∧ w'.cell? ⟨ge, oe + j * 10 + 6, none⟩ = some (.string p') ∧ w'.cell? ⟨ge, oe + j * 10 + 7, none⟩ = some (.string n') ∧ w'.cell? ⟨ge, oe + j * 10 + 8, none⟩ = some (.int .i64 I') ∧ w'.cell? ⟨ge, oe + j * 10 + 9, none⟩ = some (.slice q' ln' cc'))) (by kernel_rfl) (by exact ⟨Lib.hid (Gk.of_below HBW.out (below_drewN (Below.refl _ _) 1)), s0, s1, s2, s3, s4, t0, t1, t2, t3, t4⟩) (fun hHeld => ?_)
          refine wpAnyH_take (i := 0) (oi := ⟨some 49, _, _, _, _, _⟩) (v := ?_) rfl (by kernel_rfl) (by kernel_rfl) (by kernel_rfl) (fun _ _ _ h => h) (Or.inl ⟨by rfl, ?_⟩) (by assumption) ?_
          rotate_left
          focus (intro w hSw; (try dsimp only at hSw); go_simp; first | done | with_reducible rfl)
          try simp only [Act.put, List.setIfInBounds_toArray, List.set_cons_zero, List.set_cons_succ]
          refine wpAnyH_take (i := 1) (oi := ⟨some 50, _, _, _, _, _⟩) (v := ?_) rfl (by kernel_rfl) (by kernel_rfl) (by kernel_rfl) (fun _ _ _ h => h) (Or.inl ⟨by rfl, ?_⟩) (by assumption) ?_
          rotate_left
          focus (intro w hSw; (try dsimp only at hSw); go_simp; first | done | with_reducible rfl)
          try simp only [Act.put, List.setIfInBounds_toArray, List.set_cons_zero, List.set_cons_succ]
          refine wpAnyH_take (i := 2) (oi := ⟨some 51, _, _, _, _, _⟩) (v := ?_) rfl (by kernel_rfl) (by kernel_rfl) (by kernel_rfl) (fun _ _ _ h => h) (Or.inl ⟨by rfl, ?_⟩) (by assumption) ?_
          rotate_left
          focus (intro w hSw; (try dsimp only at hSw); go_simp; first | done | with_reducible rfl)
          try simp only [Act.put, List.setIfInBounds_toArray, List.set_cons_zero, List.set_cons_succ]
          refine wpAnyH_take (i := 3) (oi := ⟨some 52, _, _, _, _, _⟩) (v := ?_) rfl (by kernel_rfl) (by kernel_rfl) (by kernel_rfl) (fun _ _ _ h => h) (Or.inl ⟨by rfl, ?_⟩) (by assumption) ?_
          rotate_left
          focus (intro w hSw; (try dsimp only at hSw); go_simp; first | done | with_reducible rfl)
          try simp only [Act.put, List.setIfInBounds_toArray, List.set_cons_zero, List.set_cons_succ]
          refine wpAnyH_take (i := 4) (oi := ⟨some 53, _, _, _, _, _⟩) (v := ?_) rfl (by kernel_rfl) (by kernel_rfl) (by kernel_rfl) (fun _ _ _ h => h) (Or.inl ⟨by rfl, ?_⟩) (by assumption) ?_
          rotate_left
          focus (intro w hSw; (try dsimp only at hSw); go_simp; first | done | with_reducible rfl)
          try simp only [Act.put, List.setIfInBounds_toArray, List.set_cons_zero, List.set_cons_succ]
          refine wpAnyH_take (i := 5) (oi := ⟨some 54, _, _, _, _, _⟩) (v := ?_) rfl (by kernel_rfl) (by kernel_rfl) (by kernel_rfl) (fun _ _ _ h => h) (Or.inl ⟨by rfl, ?_⟩) (by assumption) ?_
          rotate_left
          focus (intro w hSw; (try dsimp only at hSw); go_simp; first | done | with_reducible rfl)
          try simp only [Act.put, List.setIfInBounds_toArray, List.set_cons_zero, List.set_cons_succ]
          refine wpAnyH_take (i := 6) (oi := ⟨some 55, _, _, _, _, _⟩) (v := ?_) rfl (by kernel_rfl) (by kernel_rfl) (by kernel_rfl) (fun _ _ _ h => h) (Or.inl ⟨by rfl, ?_⟩) (by assumption) ?_
          rotate_left
          focus (intro w hSw; (try dsimp only at hSw); go_simp; first | done | with_reducible rfl)
          try simp only [Act.put, List.setIfInBounds_toArray, List.set_cons_zero, List.set_cons_succ]
          refine wpAnyH_take (i := 7) (oi := ⟨some 56, _, _, _, _, _⟩) (v := ?_) rfl (by kernel_rfl) (by kernel_rfl) (by kernel_rfl) (fun _ _ _ h => h) (Or.inl ⟨by rfl, ?_⟩) (by assumption) ?_
          rotate_left
          focus (intro w hSw; (try dsimp only at hSw); go_simp; first | done | with_reducible rfl)
          try simp only [Act.put, List.setIfInBounds_toArray, List.set_cons_zero, List.set_cons_succ]
          refine wpAnyH_take (i := 8) (oi := ⟨some 57, _, _, _, _, _⟩) (v := ?_) rfl (by kernel_rfl) (by kernel_rfl) (by kernel_rfl) (fun _ _ _ h => h) (Or.inl ⟨by rfl, ?_⟩) (by assumption) ?_
          rotate_left
          focus (intro w hSw; (try dsimp only at hSw); go_simp; first | done | with_reducible rfl)
          try simp only [Act.put, List.setIfInBounds_toArray, List.set_cons_zero, List.set_cons_succ]
          refine wpAnyH_take (i := 9) (oi := ⟨some 58, _, _, _, _, _⟩) (v := ?_) rfl (by kernel_rfl) (by kernel_rfl) (by kernel_rfl) (fun _ _ _ h => h) (Or.inl ⟨by rfl, ?_⟩) (by assumption) ?_
          rotate_left
          focus (intro w hSw; (try dsimp only at hSw); go_simp; first | done | with_reducible rfl)
          try simp only [Act.put, List.setIfInBounds_toArray, List.set_cons_zero, List.set_cons_succ]
          refine wpAnyH_take (i := 10) (oi := ⟨some 59, _, _, _, _, _⟩) (v := ?_) rfl (by kernel_rfl) (by kernel_rfl) (by kernel_rfl) (fun _ _ _ h => h) (Or.inl ⟨by rfl, ?_⟩) (by assumption) ?_
          rotate_left
          focus (intro w hSw; (try dsimp only at hSw); go_simp; first | done | with_reducible rfl)
          try simp only [Act.put, List.setIfInBounds_toArray, List.set_cons_zero, List.set_cons_succ]
          refine wpAnyH_ready (rs := [11]) (by kernel_rfl) (by simp) ?_
          refine AllReadyH.cons (o := ⟨some 60, _, _, _, _, _⟩) rfl (fun K hK => ?_) AllReadyH.nil
          go_simp
          have hc := uni_any (S1.nv (nmsE d E)) _ wr.drew S1 _ _ x.1 x.2 _ _ (HR1.out.below (below_drewN (Below.refl _ _) 1)) HINV.out (HT1.out.below (below_drewN (Below.refl _ _) 1)) (HT2.out.below (below_drewN (Below.refl _ _) 1)) HW1.out HW2.out HZ1.out HZ2.out HN1.out HF1.out HF2.out (Nat.le_refl _) (fun _ => Nat.le_refl _); (with_reducible refine hc.mono ?_); rintro e v1 ⟨r, S2, rfl, hur, hrs, hb, hz2⟩; have HUR2 := Lib.hid hur; have HRS2 := Lib.hid hrs; have HZZ := Lib.hid hz2; clear hc hur hrs hz2
          go_wp2_with fail
          refine hK.out _ _ (by exact ⟨Lib.hid (hHeld.1.out.trans hb), hb.cell hHeld.2.1 (by have := HGE.out; have := HGB.out; omega), hb.cell hHeld.2.2.1 (by have := HGE.out; have := HGB.out; omega), hb.cell hHeld.2.2.2.1 (by have := HGE.out; have := HGB.out; omega), hb.cell hHeld.2.2.2.2.1 (by have := HGE.out; have := HGB.out; omega), hb.cell hHeld.2.2.2.2.2.1 (by have := HGE.out; have := HGB.out; omega), hb.cell hHeld.2.2.2.2.2.2.1 (by have := HGE.out; have := HGB.out; omega), hb.cell hHeld.2.2.2.2.2.2.2.1 (by have := HGE.out; have := HGB.out; omega), hb.cell hHeld.2.2.2.2.2.2.2.2.1 (by have := HGE.out; have := HGB.out; omega), hb.cell hHeld.2.2.2.2.2.2.2.2.2.1 (by have := HGE.out; have := HGB.out; omega), hb.cell hHeld.2.2.2.2.2.2.2.2.2.2 (by have := HGE.out; have := HGB.out; omega)⟩) (fun hNew => ?_)
          clear hK K
          clear hHeld hb; have hHeld := hNew; clear hNew
          try simp only [Act.put, List.setIfInBounds_toArray, List.set_cons_zero, List.set_cons_succ]
          refine wpAnyH_take (i := 12) (oi := ⟨some 61, _, _, _, _, _⟩) (v := ?_) rfl (by kernel_rfl) (by kernel_rfl) (by kernel_rfl) (fun _ _ _ h => h) (Or.inl ⟨by rfl, ?_⟩) (by assumption) ?_
          rotate_left
          focus (intro w hSw; (try dsimp only at hSw); go_simp; first | done | with_reducible rfl)
          try simp only [Act.put, List.setIfInBounds_toArray, List.set_cons_zero, List.set_cons_succ]
          refine wpAnyH_done (by kernel_rfl) ?_ _
          have HG9 := Lib.hid hHeld.1.out
          clear hHeld
          have hB9 := HBL2.out.trans HG9.out.below
          have HB9 := Lib.hid hB9
          clear hB9
          rcases Bool.eq_false_or_eq_true r with hrt | hrt
          · subst hrt
            have hnt : (!true) = false := rfl
            go_wp2
            refine ⟨⟨j + 1, S2, by omega, by go_num, HRS2.out rfl, HUR2.out.inv, HZZ.out HN1.out, fun σ => ?_, HB9.out⟩, by simp [intOf]; omega⟩
            rw [HUR2.out.yes rfl, HSOL.out, RS.solE_next HXJ.out]
          · subst hrt
            have hnt : (!false) = true := rfl
            go_wp2
            go_ret2
            refine ⟨_, 0, _, rfl, HB9.out, fun _ => ?_, (fun h => by cases h)⟩
            rintro ⟨τ, hτ⟩
            have h1 : SolE (E.take (j + 1)) τ := fun e he => hτ e (List.mem_of_mem_take he)
            obtain ⟨h2, h3⟩ := (RS.solE_next HXJ.out τ).1 h1
            exact HUR2.out.no rfl τ ((HSOL.out τ).2 h2) h3
        · obtain rfl : j = E.length := by omega
          clear hbel hr1 hinv
          go_wp2
          go_ret2
          refine ⟨_, g, _, rfl, HBL2.out, (fun h => by cases h), fun _ => ⟨S1, _, _, HR1.out, HINV.out, HN1.out, fun σ => ?_⟩⟩
          rw [HSOL.out, List.take_length]
end Go.Proofs.YtncebhddcokkoaaDoor
/- The document's solver: Solve. -/
namespace Go.Proofs.YtncebhddcokkoaaDoor
open Go.RowKit
set_option linter.unusedSimpArgs false
set_option linter.unusedVariables false
theorem MadeV.app {base : Nat} {w wq : World} {d : Nat} {sv : Value} {L : List NT} {nm : ByteArray} {x : Tm} {g : Nat} {k N : Int} {p n : ByteArray} {q : Option Addr} {ln c : Nat} (h : MadeV base w d sv L) (hbase : base ≤ w.heap.size) (hb : Below w.heap.size w wq) (hnm : nm.size ≤ maxLen)
    (hx : IsX (fun b => w.heap.size ≤ b) wq d (tv k p n N (.slice q ln c)) x) (hg : wq.heap[g]? = some (.cells #[.string nm, .int .i64 k, .string p, .string n, .int .i64 N, .slice q ln c] 38 (0, 0))) (hL : L.length ≤ 100000) :
    ∃ v' w', (Builtin.append_ #[25, 25] 25 #[sv, .slice (some ⟨g, 0, none⟩) 1 1]).run Tryd.prog wq = .ok v' w' ∧ MadeV base w' d v' (L ++ [(nm, x)]) ∧ Below base wq w' := by
  obtain ⟨l, hl, ho, hd⟩ := h
  have hlt := ho.lt
  have hsz := hb.size
  obtain ⟨i, z, hi, hz, hs, hby, hzc⟩ := info38
  obtain ⟨v', w', r1, r2, r3, _, r5⟩ := run_append_own_at (P := Tryd.prog) (w := wq) base 25 25 38 i z 6 88 (by kernel_rfl) hi hz hs hby hzc (by decide) sv l.length (flatV l) (own_below ho hb) ⟨g, 0, none⟩ 1 1
    [.string nm, .int .i64 k, .string p, .string n, .int .i64 N, .slice q ln c] rfl
    (fun j u hu => by
      rw [add_zero_none, hb_cell hg]
      match j, hu with
      | 0, hu => exact hu
      | 1, hu => exact hu
      | 2, hu => exact hu
      | 3, hu => exact hu
      | 4, hu => exact hu
      | 5, hu => exact hu
      | j + 6, hu => simp at hu)
    (fun u hu => by
      simp only [List.mem_cons, List.not_mem_nil, or_false] at hu
      rcases hu with rfl | rfl | rfl | rfl | rfl | rfl <;> rfl)
    (by unfold maxLen; omega) (by omega) (by omega)
  exact ⟨v', w', r1, MadeV.next hl ho hd hb hnm (hx.move fun b hX hl2 => ⟨fun e => by have := hlt b e.symm; omega, rfl⟩) (fun _ _ => rfl) (Nat.le_refl _) r2 r3 r5, (Below.refl _ wq).grown r3 (by omega) (fun j hj => (hlt j hj).1)⟩
/-- What the document's Solve answers. -/
def RSolveQ (d : Nat) (E : List (Tm × Tm)) (w : World) (e : Ending) (w' : World) : Prop :=
  Below w.heap.size w w' ∧ ((e = .returned (.tuple #[.slice none 0 0, .int .i64 15]) ∧ ¬ ∃ τ, SolE E τ) ∨
    ∃ σ, Best E (nmsE d E) σ ∧ ((∃ v, e = .returned (.tuple #[v, .int .i64 0]) ∧ (∀ n ∈ nmsE d E, cnt2 (σ n) ≤ 1000) ∧ VAt w' 1002 v ((nmsE d E).map fun n => (n, σ n))) ∨ (e = .returned (.tuple #[.slice none 0 0, .int .i64 9]) ∧ ∃ n ∈ nmsE d E, 1000 < cnt2 (σ n))))
theorem IsX.leaf {X : Nat → Prop} {w : World} {d : Nat} {n : ByteArray} (hn : n.size ≤ maxLen) (hd : 1 ≤ d) : IsX X w d (tv 1 ⟨#[]⟩ n 0 (.slice none 0 0)) (vN n) := by
  obtain ⟨d, rfl⟩ : ∃ m, d = m + 1 := ⟨d - 1, by omega⟩
  exact ⟨none, 0, rfl, Nat.zero_le _, hn, Nat.zero_le _, fun i x hx => by simp at hx⟩
theorem EqAt.nmSize {w : World} {d : Nat} {v : Value} {E : List (Tm × Tm)} (hE : EqAt w d v E) : ∀ n ∈ nmsE d E, n.size ≤ maxLen := by
  have key : ∀ (d : Nat) (v : Value) (t : Tm) (n : ByteArray), IsT w d v t → hasV d t n → n.size ≤ maxLen := by
    intro d
    induction d with
    | zero => intro v t n h; cases h
    | succ d ih =>
      intro v t n h hv
      obtain ⟨k, p, m, N, l⟩ := t
      obtain ⟨q, c, _, _, hm, _, hk⟩ := h
      rcases hv with ⟨_, rfl⟩ | ⟨x, hx, hv⟩
      · exact hm
      · obtain ⟨i, hi⟩ := List.getElem?_of_mem hx
        obtain ⟨_, _, _, _, _, _, _, _, _, ht⟩ := hk i x hi
        exact ih _ x n ht hv
  intro n hn
  obtain ⟨x, hx, hv⟩ := mem_nmsE.1 hn
  obtain ⟨q, c, _, h⟩ := hE
  obtain ⟨i, hi⟩ := List.getElem?_of_mem hx
  obtain ⟨g, o, k, p, n', N, s, k', p', n2, N', s', _, ⟨_, h1⟩, _, h2⟩ := h i x hi
  rcases hv with hv | hv
  · exact key _ _ _ _ h1 hv
  · exact key _ _ _ _ h2 hv
set_option maxRecDepth 100000 in
set_option maxHeartbeats 4000000 in
theorem rsolve_any (w : World) (d : Nat) (v : Value) (E : List (Tm × Tm)) (hE : EqAt w d v E) (hT : ∀ x ∈ E, Typ x.1 ∧ Typ x.2) (htot : tot d E ≤ 1000) (hel : E.length ≤ 1000) (hd1 : 1 ≤ d) : Calls Tryd.prog 13 #[v] w (RSolveQ d E w) := by
  have HN := Lib.hid (rnew_any w d v E hE hT htot hel)
  have HSIZE := Lib.hid hE.nmSize
  have HNL := Lib.hid (Nat.le_trans (nms_len d E) htot)
  obtain ⟨qe, ce, rfl, _⟩ := hE
  clear hT
  go_enter Tryd.func13, Tryd.ntmps13
  go_upto_region 2 with (go_at_call 42; (with_reducible refine HN.out.mono ?_); rintro e w1 ⟨B, g, r, rfl, hb, hno, hyes⟩; have HB := Lib.hid hb; have HNO := Lib.hid hno; have HYES := Lib.hid hyes; clear hb hno hyes)
  rcases Bool.eq_false_or_eq_true r with hrt | hrt
  rotate_left
  · subst hrt
    have hnt : (!false) = true := rfl
    go_wp2
    go_ret2
    exact ⟨HB.out, .inl ⟨rfl, HNO.out (by first | rfl | trivial)⟩⟩
  · subst hrt
    have hnt : (!true) = false := rfl
    obtain ⟨S, nv, cg, hR, hI, hz, hsol⟩ := HYES.out rfl
    obtain ⟨σ, hσ⟩ := RS.self_ex hI
    have HBEST := Lib.hid (RS.best hI hsol hσ)
    have HR := Lib.hid hR
    have HI := Lib.hid hI
    have HSG := Lib.hid hσ
    obtain ⟨qn, cn, rfl, hnmr⟩ := hR.nm
    have HNMR := Lib.hid hnmr
    clear hI hz hsol hσ hnmr hR HN HNO HYES
    generalize hNS : nmsE d E = NS at *
    have HNS := Lib.hid hNS
    clear hNS
    have hnl9 := HNL.out
    go_wp2
    go_loopw [6, 7] (fun t6 t7 wr => ∃ (j : Nat) (sv : Value) (done : List ByteArray), j ≤ NS.length ∧ t7 = .int .i64 j ∧ t6 = sv ∧ done.length = j ∧ MadeV w1.heap.size wr 1002 sv ((NS.take j).map fun n => (n, σ n)) ∧ Below w1.heap.size w1 wr ∧ ∀ n ∈ NS.take j, cnt2 (σ n) ≤ 1000) (fun _ t7 _ => NS.length - (intOf t7).toNat)
    case atStart => exact ⟨0, _, [], Nat.zero_le _, rfl, rfl, rfl, MadeV.nil _ _ _, Below.refl _ _, fun n hn => by simp at hn⟩
    case round =>
      obtain ⟨j, sv, done, hj, rfl, rfl, hdl, hmd, hbel, hall⟩ := hrel
      clear hdl
      have hdl : ((NS.take j).map fun n => (n, σ n)).length = j := by rw [List.length_map, List.length_take]; omega
      obtain ⟨qs, cs, hsv⟩ := hmd.shape
      rw [hdl] at hsv
      subst hsv
      have HMD := Lib.hid hmd
      have HDL := Lib.hid hdl
      have HBEL := Lib.hid hbel
      have HALL := Lib.hid hall
      have hRw := HR.out.below hbel
      have HRW := Lib.hid hRw
      have b0 := hb_at hRw.blk 0 rfl
      clear hmd hdl hall hRw
      by_cases hlt : j < NS.length
      · have hlt2 : (j : Int) < (NS.length : Int) := by omega
        have hx := List.getElem?_eq_getElem hlt
        have HTK : RowKit.Hid (NS.take (j + 1) = NS.take j ++ [NS[j]]) := Lib.hid (List.take_succ_eq_append_getElem hlt)
        generalize hnm : NS[j] = nm at *
        clear hnm
        obtain ⟨gn, on, rfl, _, hcn⟩ := HNMR.out j nm hx
        have n0 := keep_cell hbel hcn
        have hmem := List.mem_of_getElem? hx
        have hsn := HSIZE.out nm hmem
        have hfu := HSG.out nm
        have HSN := Lib.hid hsn
        have HMEM := Lib.hid hmem
        have hc : Calls Tryd.prog 43 #[.pointer (some ⟨B, 0, none⟩), tv 1 ⟨#[]⟩ nm 0 (.slice none 0 0), .int .i64 1000] wr (FullQ 1000 (σ nm) wr) := (fullD_any HI.out 1000 wr (tv 1 ⟨#[]⟩ nm 0 (.slice none 0 0)) (vN nm) (σ nm) (by decide) HRW.out (IsX.leaf hsn hd1) ⟨.var nm, fun m hm => by
          rcases hm.inv rfl with ⟨_, e⟩ | ⟨hk, _⟩
          · subst e; exact hmem
          · exact absurd rfl hk⟩ hfu)
        have HC := Lib.hid hc
        clear hc
        clear hx hcn hmem hsn hfu hbel
        go_upto_region 9 with (go_at_call 43; (with_reducible refine HC.out.mono ?_); rintro e w6 ⟨k6, p6, m6, N6, q6, l6, c6, x6, r6, rfl, hx6, hc6, hb6⟩; have HX6 := Lib.hid hx6; have HC6 := Lib.hid hc6; have HB6 := Lib.hid hb6; clear hx6 hc6 hb6)
        have hb7 := HB6.out.trans ((below_alloc w6 (.cells #[.int .i64 k6, .string p6, .string m6, .int .i64 N6, .slice q6 l6 c6] 36)).mono HB6.out.size)
        have hn7 := hb_new w6 (.cells #[.int .i64 k6, .string p6, .string m6, .int .i64 N6, .slice q6 l6 c6] 36)
        have HX7 := Lib.hid (HX6.out.below (below_alloc w6 (.cells #[.int .i64 k6, .string p6, .string m6, .int .i64 N6, .slice q6 l6 c6] 36)))
        have HB7 := Lib.hid hb7
        obtain ⟨t0, t1, t2, t3, t4⟩ := box_cells hn7
        clear hb7 hn7
        generalize w6.alloc (.cells #[.int .i64 k6, .string p6, .string m6, .int .i64 N6, .slice q6 l6 c6] 36) = W7 at *
        generalize w6.heap.size = T at *
        rcases HC6.out with ⟨hcn, hx6, hr6⟩ | ⟨hcn, hr6⟩
        · have hlt6 : decide (r6 < 0) = false := by simp; omega
          have HX6 := Lib.hid hx6
          have HCN := Lib.hid hcn
          have b0 := keep_cell HB7.out b0
          have n0 := keep_cell HB7.out n0
          clear hcn hx6 hr6
          go_upto_region 11 with (fail)
          refine Inr.region (by kernel_rfl) 11 [some 41, some 42, some 43, some 44, some 45, some 46, some 47, some 48, some 49, some 50, some 51, some 52, some 6] [[], [], [1], [2], [3], [], [4, 5], [6], [], [7, 8], [9]] (by kernel_rfl) (by kernel_rfl) (by kernel_rfl) (by kernel_rfl) [Inr.MP.is (.slice qs j cs), Inr.MP.is (.pointer (some ⟨B, 0, none⟩)), Inr.MP.is (.pointer (some ⟨B, 0, none⟩)), Inr.MP.is (.pointer (some ⟨B, 0, none⟩)), Inr.MP.is (.slice (some ⟨gn, on, none⟩) NS.length cn), Inr.MP.is (.int .i64 j), Inr.MP.is (.pointer (some ⟨gn, on + j, none⟩)), Inr.MP.is (.string nm), Inr.MP.is (tv k6 p6 m6 N6 (.slice q6 l6 c6)), Inr.MP.is (.agg #[.string nm, .int .i64 k6, .string p6, .string m6, .int .i64 N6, .slice q6 l6 c6]), Inr.MP.oneV #[.string nm, .int .i64 k6, .string p6, .string m6, .int .i64 N6, .slice q6 l6 c6]] [] (by intro x hx; cases hx) ⟨?_, ?_, ?_, ?_, ?_, ?_, ?_, ?_, ?_, ?_, ?_, trivial⟩ (fun vs wq hbq hv htie => ?_)
          · intro vs w' hb hv K hK
            clear hv
            have hK2 := hK.out
            clear hK
            simp only [Inr.putD, Inr.dst, List.foldl_cons, List.foldl_nil, List.getD_cons_zero, List.getD_cons_succ, Act.put, List.setIfInBounds_toArray, List.set_cons_zero, List.set_cons_succ] at hK2 ⊢
            have hK := Lib.hid hK2
            clear hK2
            simp only [Region.wanted, Inr.yieldedD, Inr.dst, List.getD_cons_zero, List.getD_cons_succ]
            go_simp
            refine hK.out _ _ (Eq.refl _) (Below.refl _ _) (Inr.noTies _ _ _ _ _)
          · intro vs w' hb hv K hK
            clear hv
            have hK2 := hK.out
            clear hK
            simp only [Inr.putD, Inr.dst, List.foldl_cons, List.foldl_nil, List.getD_cons_zero, List.getD_cons_succ, Act.put, List.setIfInBounds_toArray, List.set_cons_zero, List.set_cons_succ] at hK2 ⊢
            have hK := Lib.hid hK2
            clear hK2
            simp only [Region.wanted, Inr.yieldedD, Inr.dst, List.getD_cons_zero, List.getD_cons_succ]
            go_simp
            refine hK.out _ _ (Eq.refl _) (Below.refl _ _) (Inr.noTies _ _ _ _ _)
          · intro vs w' hb hv K hK
            have h1 : (Inr.MP.is (.pointer (some ⟨B, 0, none⟩))).p (vs 1) w' := hv 1 (by simp)
            clear hv
            have hK2 := hK.out
            clear hK
            simp only [Inr.putD, Inr.dst, List.foldl_cons, List.foldl_nil, List.getD_cons_zero, List.getD_cons_succ, Act.put, List.setIfInBounds_toArray, List.set_cons_zero, List.set_cons_succ] at hK2 ⊢
            have hK := Lib.hid hK2
            clear hK2
            generalize vs 1 = y1 at *
            have h1 : y1 = _ := h1
            subst h1
            simp only [Region.wanted, Inr.yieldedD, Inr.dst, List.getD_cons_zero, List.getD_cons_succ]
            go_simp
            refine hK.out _ _ (Eq.refl _) (Below.refl _ _) (Inr.noTies _ _ _ _ _)
          · intro vs w' hb hv K hK
            have h2 : (Inr.MP.is (.pointer (some ⟨B, 0, none⟩))).p (vs 2) w' := hv 2 (by simp)
            clear hv
            have hK2 := hK.out
            clear hK
            simp only [Inr.putD, Inr.dst, List.foldl_cons, List.foldl_nil, List.getD_cons_zero, List.getD_cons_succ, Act.put, List.setIfInBounds_toArray, List.set_cons_zero, List.set_cons_succ] at hK2 ⊢
            have hK := Lib.hid hK2
            clear hK2
            generalize vs 2 = y2 at *
            have h2 : y2 = _ := h2
            subst h2
            simp only [Region.wanted, Inr.yieldedD, Inr.dst, List.getD_cons_zero, List.getD_cons_succ]
            go_simp
            refine hK.out _ _ (Eq.refl _) (Below.refl _ _) (Inr.noTies _ _ _ _ _)
          · intro vs w' hb hv K hK
            have h3 : (Inr.MP.is (.pointer (some ⟨B, 0, none⟩))).p (vs 3) w' := hv 3 (by simp)
            clear hv
            have hK2 := hK.out
            clear hK
            simp only [Inr.putD, Inr.dst, List.foldl_cons, List.foldl_nil, List.getD_cons_zero, List.getD_cons_succ, Act.put, List.setIfInBounds_toArray, List.set_cons_zero, List.set_cons_succ] at hK2 ⊢
            have hK := Lib.hid hK2
            clear hK2
            generalize vs 3 = y3 at *
            have h3 : y3 = _ := h3
            subst h3
            have c0 := keep_cell hb b0
            simp only [Region.wanted, Inr.yieldedD, Inr.dst, List.getD_cons_zero, List.getD_cons_succ]
            go_simp
            refine hK.out _ _ (Eq.refl _) (Below.refl _ _) (Inr.noTies _ _ _ _ _)
          · intro vs w' hb hv K hK
            clear hv
            have hK2 := hK.out
            clear hK
            simp only [Inr.putD, Inr.dst, List.foldl_cons, List.foldl_nil, List.getD_cons_zero, List.getD_cons_succ, Act.put, List.setIfInBounds_toArray, List.set_cons_zero, List.set_cons_succ] at hK2 ⊢
            have hK := Lib.hid hK2
            clear hK2
            simp only [Region.wanted, Inr.yieldedD, Inr.dst, List.getD_cons_zero, List.getD_cons_succ]
            go_simp
            refine hK.out _ _ (Eq.refl _) (Below.refl _ _) (Inr.noTies _ _ _ _ _)
          · intro vs w' hb hv K hK
            have h4 : (Inr.MP.is (.slice (some ⟨gn, on, none⟩) NS.length cn)).p (vs 4) w' := hv 4 (by simp)
            have h5 : (Inr.MP.is (.int .i64 j)).p (vs 5) w' := hv 5 (by simp)
            clear hv
            have hK2 := hK.out
            clear hK
            simp only [Inr.putD, Inr.dst, List.foldl_cons, List.foldl_nil, List.getD_cons_zero, List.getD_cons_succ, Act.put, List.setIfInBounds_toArray, List.set_cons_zero, List.set_cons_succ] at hK2 ⊢
            have hK := Lib.hid hK2
            clear hK2
            generalize vs 4 = y4 at *
            generalize vs 5 = y5 at *
            have h4 : y4 = _ := h4
            subst h4
            have h5 : y5 = _ := h5
            subst h5
            simp only [Region.wanted, Inr.yieldedD, Inr.dst, List.getD_cons_zero, List.getD_cons_succ]
            go_simp
            refine hK.out _ _ (Eq.refl _) (Below.refl _ _) (Inr.noTies _ _ _ _ _)
          · intro vs w' hb hv K hK
            have h6 : (Inr.MP.is (.pointer (some ⟨gn, on + j, none⟩))).p (vs 6) w' := hv 6 (by simp)
            clear hv
            have hK2 := hK.out
            clear hK
            simp only [Inr.putD, Inr.dst, List.foldl_cons, List.foldl_nil, List.getD_cons_zero, List.getD_cons_succ, Act.put, List.setIfInBounds_toArray, List.set_cons_zero, List.set_cons_succ] at hK2 ⊢
            have hK := Lib.hid hK2
            clear hK2
            generalize vs 6 = y6 at *
            have h6 : y6 = _ := h6
            subst h6
            have c0 := keep_cell hb n0
            simp only [Region.wanted, Inr.yieldedD, Inr.dst, List.getD_cons_zero, List.getD_cons_succ]
            go_simp
            refine hK.out _ _ (Eq.refl _) (Below.refl _ _) (Inr.noTies _ _ _ _ _)
          · intro vs w' hb hv K hK
            clear hv
            have hK2 := hK.out
            clear hK
            simp only [Inr.putD, Inr.dst, List.foldl_cons, List.foldl_nil, List.getD_cons_zero, List.getD_cons_succ, Act.put, List.setIfInBounds_toArray, List.set_cons_zero, List.set_cons_succ] at hK2 ⊢
            have hK := Lib.hid hK2
            clear hK2
            have c0 := keep_cell hb t0
            have c1 := keep_cell hb t1
            have c2 := keep_cell hb t2
            have c3 := keep_cell hb t3
            have c4 := keep_cell hb t4
            simp only [Region.wanted, Inr.yieldedD, Inr.dst, List.getD_cons_zero, List.getD_cons_succ]
            go_simp
            refine hK.out _ _ (Eq.refl _) (Below.refl _ _) (Inr.noTies _ _ _ _ _)
          · intro vs w' hb hv K hK
            have h7 : (Inr.MP.is (.string nm)).p (vs 7) w' := hv 7 (by simp)
            have h8 : (Inr.MP.is (tv k6 p6 m6 N6 (.slice q6 l6 c6))).p (vs 8) w' := hv 8 (by simp)
            clear hv
            have hK2 := hK.out
            clear hK
            simp only [Inr.putD, Inr.dst, List.foldl_cons, List.foldl_nil, List.getD_cons_zero, List.getD_cons_succ, Act.put, List.setIfInBounds_toArray, List.set_cons_zero, List.set_cons_succ] at hK2 ⊢
            have hK := Lib.hid hK2
            clear hK2
            generalize vs 7 = y7 at *
            generalize vs 8 = y8 at *
            have h7 : y7 = _ := h7
            subst h7
            have h8 : y8 = _ := h8
            subst h8
            simp only [Region.wanted, Inr.yieldedD, Inr.dst, List.getD_cons_zero, List.getD_cons_succ]
            go_simp
            refine hK.out _ _ (Eq.refl _) (Below.refl _ _) (Inr.noTies _ _ _ _ _)
          · intro vs w' hb hv K hK
            have h9 : (Inr.MP.is (.agg #[.string nm, .int .i64 k6, .string p6, .string m6, .int .i64 N6, .slice q6 l6 c6])).p (vs 9) w' := hv 9 (by simp)
            clear hv
            have hK2 := hK.out
            clear hK
            simp only [Inr.putD, Inr.dst, List.foldl_cons, List.foldl_nil, List.getD_cons_zero, List.getD_cons_succ, Act.put, List.setIfInBounds_toArray, List.set_cons_zero, List.set_cons_succ] at hK2 ⊢
            have hK := Lib.hid hK2
            clear hK2
            generalize vs 9 = y9 at *
            have h9 : y9 = _ := h9
            subst h9
            simp only [Region.wanted, Inr.yieldedD, Inr.dst, List.getD_cons_zero, List.getD_cons_succ]
            go_simp
            refine hK.out _ _ ⟨_, rfl, hb_new _ _⟩ (below_alloc _ _) (Inr.noTies _ _ _ _ _)
          · have h10 : ∃ g, vs 10 = .slice (some ⟨g, 0, none⟩) 1 1 ∧ wq.heap[g]? = some (.cells #[.string nm, .int .i64 k6, .string p6, .string m6, .int .i64 N6, .slice q6 l6 c6] 38 (0, 0)) := hv 10 (by omega)
            have h0 : vs 0 = .slice qs j cs := hv 0 (by omega)
            clear hv htie
            simp only [List.range, List.range.loop, Inr.putD, Inr.dst, List.foldl_cons, List.foldl_nil, List.getD_cons_zero, List.getD_cons_succ, Act.put, List.setIfInBounds_toArray, List.set_cons_zero, List.set_cons_succ]
            simp only [List.drop_succ_cons, List.drop_zero]
            generalize vs 0 = y0 at *
            generalize vs 1 = y1 at *
            generalize vs 2 = y2 at *
            generalize vs 3 = y3 at *
            generalize vs 4 = y4 at *
            generalize vs 5 = y5 at *
            generalize vs 6 = y6 at *
            generalize vs 7 = y7 at *
            generalize vs 8 = y8 at *
            generalize vs 9 = y9 at *
            generalize vs 10 = y10 at *
            subst h0
            obtain ⟨g9, rfl, hg9⟩ := h10
            have hbb := HB7.out.trans (hbq.mono HB7.out.size)
            obtain ⟨v9, w9, hrun, hmd9, hb9⟩ := HMD.out.app (nm := nm) (x := x6) HBEL.out.size hbb HSN.out ((HX7.out.below hbq).more (by omega)) hg9 (by rw [HDL.out]; omega)
            refine wpList_append_at rfl (.tmp 41) (.tmp 51) rfl rfl rfl rfl hrun ?_
            have HB9 := Lib.hid ((hbb.mono HBEL.out.size).trans hb9)
            have HMD9 := Lib.hid hmd9
            clear hrun hmd9 hb9 hg9 hbb hbq
            go_wp2
            refine ⟨⟨j + 1, v9, NS.take (j + 1), by omega, by go_num, rfl, by rw [List.length_take]; omega, ?_, HBEL.out.trans HB9.out, ?_⟩, by simp [intOf]; omega⟩
            · have e : (NS.take (j + 1)).map (fun n => (n, σ n)) = (NS.take j).map (fun n => (n, σ n)) ++ [(nm, x6)] := by
                rw [HTK.out, List.map_append, HX6.out]
                rfl
              rw [e]
              exact HMD9.out
            · intro n hn
              rw [HTK.out] at hn
              rcases List.mem_append.1 hn with hn | hn
              · exact HALL.out n hn
              · cases List.mem_singleton.1 hn; exact HCN.out
        · have hlt6 : decide (r6 < 0) = true := by simp; omega
          have HCN := Lib.hid hcn
          clear hcn hr6
          go_wp2
          go_ret2
          refine ⟨HB.out.trans ((HBEL.out.trans (HB7.out.mono HBEL.out.size)).mono HB.out.size), .inr ⟨σ, by rw [HNS.out]; exact HBEST.out, .inr ⟨rfl, nm, by rw [HNS.out]; exact HMEM.out, HCN.out⟩⟩⟩
      · obtain rfl : j = NS.length := by omega
        clear hbel
        go_wp2
        go_ret2
        have hmd := HMD.out
        have hall := HALL.out
        rw [List.take_length] at hmd hall
        refine ⟨HB.out.trans (HBEL.out.mono HB.out.size), .inr ⟨σ, by rw [HNS.out]; exact HBEST.out, .inl ⟨_, rfl, by rw [HNS.out]; exact hall, by rw [HNS.out]; exact hmd.all (by rw [List.length_map]; have := HNL.out; omega)⟩⟩⟩
end Go.Proofs.YtncebhddcokkoaaDoor
