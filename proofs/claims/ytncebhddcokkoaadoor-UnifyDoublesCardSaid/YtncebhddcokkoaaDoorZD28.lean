/- Texts in a row: Pf Ma Mb. -/
import Derived.Test.YtncebhddcokkoaaDoorZD26
import Derived.Test.YtncebhddcokkoaaDoorZD13
import Derived.Deep.QuietTactic
import Derived.BigQuiet
import Derived.Deep.DeepCutAuto
import Derived.Outline
import Derived.Test.YtncebhddcokkoaaDoorZD27
/- Lists of names and terms: where a name stands; are two the same? -/
namespace Go.Proofs.YtncebhddcokkoaaDoor
open Go.RowKit
set_option linter.unusedSimpArgs false
set_option linter.unusedVariables false
set_option maxRecDepth 100000 in
set_option maxHeartbeats 4000000 in
theorem usame_any (D : Nat) (va vb : Value) (L : List NT) (w : World) (ha : VAt w D va L) (hb : VAt w D vb L) : Calls Tryd.prog 14 #[va, vb] w (BoolR true w) := by
  obtain ⟨qa, ca, rfl, hl, hA⟩ := ha
  obtain ⟨qb, cb, rfl, _, hB⟩ := hb
  have HA := Lib.hid hA
  have HB := Lib.hid hB
  clear hA hB
  generalize hlen : L.length = len at *
  have HLEN := Lib.hid hlen
  go_enter Tryd.func14, Tryd.ntmps14
  go_wp2
  go_loopw [5] (fun i wr => ∃ j : Nat, j ≤ len ∧ i = .int .i64 j ∧ Below w.heap.size w wr) (fun i _ => len - (intOf i).toNat)
  case atStart => exact ⟨0, Nat.zero_le _, rfl, Below.refl _ _⟩
  case round =>
    obtain ⟨j, hj, rfl, hBL⟩ := hrel
    have HBL := Lib.hid hBL
    by_cases hlt : (j : Int) < (len : Int)
    · have hx : L[j]? = some (L[j]'(by omega)) := List.getElem?_eq_getElem (by omega)
      obtain ⟨ga, k1, p1, n1, N1, s1, e1, e2, e3, e4, e5⟩ := HA.out j _ hx
      obtain ⟨gb, k2, p2, n2, N2, s2, f1, f2, f3, f4, f5⟩ := HB.out j _ hx
      subst e1
      subst f1
      generalize (L[j]'(by omega)) = x at *
      obtain ⟨q1, l1, c1, rfl⟩ := e5.spell
      obtain ⟨q2, l2, c2, rfl⟩ := f5.spell
      have E2 := Lib.hid (keep_cell hBL e2)
      have F2 := Lib.hid (keep_cell hBL f2)
      have E4 := Lib.hid (e4.below hBL e4.lt)
      have F4 := Lib.hid (f4.below hBL f4.lt)
      have E5 := Lib.hid (e5.below hBL)
      have F5 := Lib.hid (f5.below hBL)
      clear hx e2 e3 e4 e5 f2 f3 f4 f5
      generalize x.1 = xn at *
      generalize x.2 = xt at *
      have hxx : (xn.toList == xn.toList) = true := by simp
      go_upto_region 6 with fail
      refine Inr.region (by kernel_rfl) 25 [some 17, some 18, some 19, some 20, some 21, some 22, some 23, some 24, some 25, some 26, some 27, some 28, some 29, some 30, some 31, some 32, some 33, some 34, some 35, some 36, some 37, some 38, some 39, some 40, some 41] [[], [], [0, 1], [2], [3], [], [], [5, 6], [7], [8], [4, 9], [10], [11], [11], [12, 13, 11], [14, 11], [15, 11], [11], [11], [17, 18, 11], [19, 11], [20, 11], [16, 21, 11, 11], [22, 11], [11, 23]] (by kernel_rfl) (by kernel_rfl) (by kernel_rfl) (by kernel_rfl) [Inr.MP.is (.slice (some ⟨ga, 0, none⟩) len ca), Inr.MP.is (.int .i64 j), Inr.MP.is (.pointer (some ⟨ga, j * 6, none⟩)), Inr.MP.is (.pointer (some ⟨ga, j * 6, none⟩)), Inr.MP.is (.string xn), Inr.MP.is (.slice (some ⟨gb, 0, none⟩) len cb), Inr.MP.is (.int .i64 j), Inr.MP.is (.pointer (some ⟨gb, j * 6, none⟩)), Inr.MP.is (.pointer (some ⟨gb, j * 6, none⟩)), Inr.MP.is (.string xn), Inr.MP.is (.bool false), Inr.MP.is (.bool false), Inr.MP.is (.slice (some ⟨ga, 0, none⟩) len ca), Inr.MP.is (.int .i64 j), Inr.MP.is (.pointer (some ⟨ga, j * 6, none⟩)), Inr.MP.is (.pointer (some ⟨ga, j * 6 + 1, none⟩)), Inr.MP.is (tv k1 p1 n1 N1 (.slice q1 l1 c1)), Inr.MP.is (.slice (some ⟨gb, 0, none⟩) len cb), Inr.MP.is (.int .i64 j), Inr.MP.is (.pointer (some ⟨gb, j * 6, none⟩)), Inr.MP.is (.pointer (some ⟨gb, j * 6 + 1, none⟩)), Inr.MP.is (tv k2 p2 n2 N2 (.slice q2 l2 c2)), Inr.MP.is (.bool true), Inr.MP.is (.bool false), Inr.MP.is (.bool false)] [] (by intro x hx; cases hx) ⟨?_, ?_, ?_, ?_, ?_, ?_, ?_, ?_, ?_, ?_, ?_, ?_, ?_, ?_, ?_, ?_, ?_, ?_, ?_, ?_, ?_, ?_, ?_, ?_, ?_, trivial⟩ (fun vs wq hbq hv htie => ?_)
      · intro vs w' hb hv K hK
        clear hv
        have hK2 := hK.out
        clear hK
        simp only [Inr.putD, Inr.dst, List.foldl_cons, List.foldl_nil, List.getD_cons_zero, List.getD_cons_succ, Act.put, List.setIfInBounds_toArray, List.set_cons_zero, List.set_cons_succ] at hK2 ⊢
        have hK := Lib.hid hK2
        clear hK2
        simp only [Region.wanted, Inr.yieldedD, Inr.dst, List.getD_cons_zero, List.getD_cons_succ]
        go_simp
        refine hK.out _ _ (Eq.refl _) (Below.refl _ _) (Inr.noTies _ _ _ _ _)
      · intro vs w' hb hv K hK
        clear hv
        have hK2 := hK.out
        clear hK
        simp only [Inr.putD, Inr.dst, List.foldl_cons, List.foldl_nil, List.getD_cons_zero, List.getD_cons_succ, Act.put, List.setIfInBounds_toArray, List.set_cons_zero, List.set_cons_succ] at hK2 ⊢
        have hK := Lib.hid hK2
        clear hK2
        simp only [Region.wanted, Inr.yieldedD, Inr.dst, List.getD_cons_zero, List.getD_cons_succ]
        go_simp
        refine hK.out _ _ (Eq.refl _) (Below.refl _ _) (Inr.noTies _ _ _ _ _)
      · intro vs w' hb hv K hK
        have h0 : (Inr.MP.is (.slice (some ⟨ga, 0, none⟩) len ca)).p (vs 0) w' := hv 0 (by simp)
        have h1 : (Inr.MP.is (.int .i64 j)).p (vs 1) w' := hv 1 (by simp)
        clear hv
        have hK2 := hK.out
        clear hK
        simp only [Inr.putD, Inr.dst, List.foldl_cons, List.foldl_nil, List.getD_cons_zero, List.getD_cons_succ, Act.put, List.setIfInBounds_toArray, List.set_cons_zero, List.set_cons_succ] at hK2 ⊢
        have hK := Lib.hid hK2
        clear hK2
        generalize vs 0 = y0 at *
        generalize vs 1 = y1 at *
        have h0 : y0 = _ := h0
        subst h0
        have h1 : y1 = _ := h1
        subst h1
        simp only [Region.wanted, Inr.yieldedD, Inr.dst, List.getD_cons_zero, List.getD_cons_succ]
        go_simp
        refine hK.out _ _ (Eq.refl _) (Below.refl _ _) (Inr.noTies _ _ _ _ _)
      · intro vs w' hb hv K hK
        have h2 : (Inr.MP.is (.pointer (some ⟨ga, j * 6, none⟩))).p (vs 2) w' := hv 2 (by simp)
        clear hv
        have hK2 := hK.out
        clear hK
        simp only [Inr.putD, Inr.dst, List.foldl_cons, List.foldl_nil, List.getD_cons_zero, List.getD_cons_succ, Act.put, List.setIfInBounds_toArray, List.set_cons_zero, List.set_cons_succ] at hK2 ⊢
        have hK := Lib.hid hK2
        clear hK2
        generalize vs 2 = y2 at *
        have h2 : y2 = _ := h2
        subst h2
        simp only [Region.wanted, Inr.yieldedD, Inr.dst, List.getD_cons_zero, List.getD_cons_succ]
        go_simp
        refine hK.out _ _ (Eq.refl _) (Below.refl _ _) (Inr.noTies _ _ _ _ _)
      · intro vs w' hb hv K hK
        have h3 : (Inr.MP.is (.pointer (some ⟨ga, j * 6, none⟩))).p (vs 3) w' := hv 3 (by simp)
        clear hv
        have hK2 := hK.out
        clear hK
        simp only [Inr.putD, Inr.dst, List.foldl_cons, List.foldl_nil, List.getD_cons_zero, List.getD_cons_succ, Act.put, List.setIfInBounds_toArray, List.set_cons_zero, List.set_cons_succ] at hK2 ⊢
        have hK := Lib.hid hK2
        clear hK2
        generalize vs 3 = y3 at *
        have h3 : y3 = _ := h3
        subst h3
        have hcx := keep_cell hb E2.out
        simp only [Region.wanted, Inr.yieldedD, Inr.dst, List.getD_cons_zero, List.getD_cons_succ]
        go_simp
        refine hK.out _ _ (Eq.refl _) (Below.refl _ _) (Inr.noTies _ _ _ _ _)
      · intro vs w' hb hv K hK
        clear hv
        have hK2 := hK.out
        clear hK
        simp only [Inr.putD, Inr.dst, List.foldl_cons, List.foldl_nil, List.getD_cons_zero, List.getD_cons_succ, Act.put, List.setIfInBounds_toArray, List.set_cons_zero, List.set_cons_succ] at hK2 ⊢
        have hK := Lib.hid hK2
        clear hK2
        simp only [Region.wanted, Inr.yieldedD, Inr.dst, List.getD_cons_zero, List.getD_cons_succ]
        go_simp
        refine hK.out _ _ (Eq.refl _) (Below.refl _ _) (Inr.noTies _ _ _ _ _)
      · intro vs w' hb hv K hK
        clear hv
        have hK2 := hK.out
        clear hK
        simp only [Inr.putD, Inr.dst, List.foldl_cons, List.foldl_nil, List.getD_cons_zero, List.getD_cons_succ, Act.put, List.setIfInBounds_toArray, List.set_cons_zero, List.set_cons_succ] at hK2 ⊢
        have hK := Lib.hid hK2
        clear hK2
        simp only [Region.wanted, Inr.yieldedD, Inr.dst, List.getD_cons_zero, List.getD_cons_succ]
        go_simp
        refine hK.out _ _ (Eq.refl _) (Below.refl _ _) (Inr.noTies _ _ _ _ _)
      · intro vs w' hb hv K hK
        have h5 : (Inr.MP.is (.slice (some ⟨gb, 0, none⟩) len cb)).p (vs 5) w' := hv 5 (by simp)
        have h6 : (Inr.MP.is (.int .i64 j)).p (vs 6) w' := hv 6 (by simp)
        clear hv
        have hK2 := hK.out
        clear hK
        simp only [Inr.putD, Inr.dst, List.foldl_cons, List.foldl_nil, List.getD_cons_zero, List.getD_cons_succ, Act.put, List.setIfInBounds_toArray, List.set_cons_zero, List.set_cons_succ] at hK2 ⊢
        have hK := Lib.hid hK2
        clear hK2
        generalize vs 5 = y5 at *
        generalize vs 6 = y6 at *
        have h5 : y5 = _ := h5
        subst h5
        have h6 : y6 = _ := h6
        subst h6
        simp only [Region.wanted, Inr.yieldedD, Inr.dst, List.getD_cons_zero, List.getD_cons_succ]
        go_simp
        refine hK.out _ _ (Eq.refl _) (Below.refl _ _) (Inr.noTies _ _ _ _ _)
      · intro vs w' hb hv K hK
        have h7 : (Inr.MP.is (.pointer (some ⟨gb, j * 6, none⟩))).p (vs 7) w' := hv 7 (by simp)
        clear hv
        have hK2 := hK.out
        clear hK
        simp only [Inr.putD, Inr.dst, List.foldl_cons, List.foldl_nil, List.getD_cons_zero, List.getD_cons_succ, Act.put, List.setIfInBounds_toArray, List.set_cons_zero, List.set_cons_succ] at hK2 ⊢
        have hK := Lib.hid hK2
        clear hK2
        generalize vs 7 = y7 at *
        have h7 : y7 = _ := h7
        subst h7
        simp only [Region.wanted, Inr.yieldedD, Inr.dst, List.getD_cons_zero, List.getD_cons_succ]
        go_simp
        refine hK.out _ _ (Eq.refl _) (Below.refl _ _) (Inr.noTies _ _ _ _ _)
      · intro vs w' hb hv K hK
        have h8 : (Inr.MP.is (.pointer (some ⟨gb, j * 6, none⟩))).p (vs 8) w' := hv 8 (by simp)
        clear hv
        have hK2 := hK.out
        clear hK
        simp only [Inr.putD, Inr.dst, List.foldl_cons, List.foldl_nil, List.getD_cons_zero, List.getD_cons_succ, Act.put, List.setIfInBounds_toArray, List.set_cons_zero, List.set_cons_succ] at hK2 ⊢
        have hK := Lib.hid hK2
        clear hK2
        generalize vs 8 = y8 at *
        have h8 : y8 = _ := h8
        subst h8
        have hcx := keep_cell hb F2.out
        simp only [Region.wanted, Inr.yieldedD, Inr.dst, List.getD_cons_zero, List.getD_cons_succ]
        go_simp
        refine hK.out _ _ (Eq.refl _) (Below.refl _ _) (Inr.noTies _ _ _ _ _)
      · intro vs w' hb hv K hK
        have h4 : (Inr.MP.is (.string xn)).p (vs 4) w' := hv 4 (by simp)
        have h9 : (Inr.MP.is (.string xn)).p (vs 9) w' := hv 9 (by simp)
        clear hv
        have hK2 := hK.out
        clear hK
        simp only [Inr.putD, Inr.dst, List.foldl_cons, List.foldl_nil, List.getD_cons_zero, List.getD_cons_succ, Act.put, List.setIfInBounds_toArray, List.set_cons_zero, List.set_cons_succ] at hK2 ⊢
        have hK := Lib.hid hK2
        clear hK2
        generalize vs 4 = y4 at *
        generalize vs 9 = y9 at *
        have h4 : y4 = _ := h4
        subst h4
        have h9 : y9 = _ := h9
        subst h9
        simp only [Region.wanted, Inr.yieldedD, Inr.dst, List.getD_cons_zero, List.getD_cons_succ]
        go_simp
        refine hK.out _ _ (Eq.refl _) (Below.refl _ _) (Inr.noTies _ _ _ _ _)
      · intro vs w' hb hv K hK
        have h10 : (Inr.MP.is (.bool false)).p (vs 10) w' := hv 10 (by simp)
        clear hv
        have hK2 := hK.out
        clear hK
        simp only [Inr.putD, Inr.dst, List.foldl_cons, List.foldl_nil, List.getD_cons_zero, List.getD_cons_succ, Act.put, List.setIfInBounds_toArray, List.set_cons_zero, List.set_cons_succ] at hK2 ⊢
        have hK := Lib.hid hK2
        clear hK2
        generalize vs 10 = y10 at *
        have h10 : y10 = _ := h10
        subst h10
        simp only [Region.wanted, Inr.yieldedD, Inr.dst, List.getD_cons_zero, List.getD_cons_succ]
        go_simp
        refine hK.out _ _ (Eq.refl _) (Below.refl _ _) (Inr.noTies _ _ _ _ _)
      · intro vs w' hb hv K hK
        have h11 : (Inr.MP.is (.bool false)).p (vs 11) w' := hv 11 (by simp)
        clear hv
        have hK2 := hK.out
        clear hK
        simp only [Inr.putD, Inr.dst, List.foldl_cons, List.foldl_nil, List.getD_cons_zero, List.getD_cons_succ, Act.put, List.setIfInBounds_toArray, List.set_cons_zero, List.set_cons_succ] at hK2 ⊢
        have hK := Lib.hid hK2
        clear hK2
        generalize vs 11 = y11 at *
        have h11 : y11 = _ := h11
        subst h11
        simp only [Region.wanted, Inr.yieldedD, Inr.dst, List.getD_cons_zero, List.getD_cons_succ]
        go_simp
        refine hK.out _ _ (Eq.refl _) (Below.refl _ _) (Inr.noTies _ _ _ _ _)
      · intro vs w' hb hv K hK
        have h11 : (Inr.MP.is (.bool false)).p (vs 11) w' := hv 11 (by simp)
        clear hv
        have hK2 := hK.out
        clear hK
        simp only [Inr.putD, Inr.dst, List.foldl_cons, List.foldl_nil, List.getD_cons_zero, List.getD_cons_succ, Act.put, List.setIfInBounds_toArray, List.set_cons_zero, List.set_cons_succ] at hK2 ⊢
        have hK := Lib.hid hK2
        clear hK2
        generalize vs 11 = y11 at *
        have h11 : y11 = _ := h11
        subst h11
        simp only [Region.wanted, Inr.yieldedD, Inr.dst, List.getD_cons_zero, List.getD_cons_succ]
        go_simp
        refine hK.out _ _ (Eq.refl _) (Below.refl _ _) (Inr.noTies _ _ _ _ _)
      · intro vs w' hb hv K hK
        have h11 : (Inr.MP.is (.bool false)).p (vs 11) w' := hv 11 (by simp)
        have h12 : (Inr.MP.is (.slice (some ⟨ga, 0, none⟩) len ca)).p (vs 12) w' := hv 12 (by simp)
        have h13 : (Inr.MP.is (.int .i64 j)).p (vs 13) w' := hv 13 (by simp)
        clear hv
        have hK2 := hK.out
        clear hK
        simp only [Inr.putD, Inr.dst, List.foldl_cons, List.foldl_nil, List.getD_cons_zero, List.getD_cons_succ, Act.put, List.setIfInBounds_toArray, List.set_cons_zero, List.set_cons_succ] at hK2 ⊢
        have hK := Lib.hid hK2
        clear hK2
        generalize vs 11 = y11 at *
        generalize vs 12 = y12 at *
        generalize vs 13 = y13 at *
        have h11 : y11 = _ := h11
        subst h11
        have h12 : y12 = _ := h12
        subst h12
        have h13 : y13 = _ := h13
        subst h13
        simp only [Region.wanted, Inr.yieldedD, Inr.dst, List.getD_cons_zero, List.getD_cons_succ]
        go_simp
        refine hK.out _ _ (Eq.refl _) (Below.refl _ _) (Inr.noTies _ _ _ _ _)
      · intro vs w' hb hv K hK
        have h11 : (Inr.MP.is (.bool false)).p (vs 11) w' := hv 11 (by simp)
        have h14 : (Inr.MP.is (.pointer (some ⟨ga, j * 6, none⟩))).p (vs 14) w' := hv 14 (by simp)
        clear hv
        have hK2 := hK.out
        clear hK
        simp only [Inr.putD, Inr.dst, List.foldl_cons, List.foldl_nil, List.getD_cons_zero, List.getD_cons_succ, Act.put, List.setIfInBounds_toArray, List.set_cons_zero, List.set_cons_succ] at hK2 ⊢
        have hK := Lib.hid hK2
        clear hK2
        generalize vs 11 = y11 at *
        generalize vs 14 = y14 at *
        have h11 : y11 = _ := h11
        subst h11
        have h14 : y14 = _ := h14
        subst h14
        simp only [Region.wanted, Inr.yieldedD, Inr.dst, List.getD_cons_zero, List.getD_cons_succ]
        go_simp
        refine hK.out _ _ (Eq.refl _) (Below.refl _ _) (Inr.noTies _ _ _ _ _)
      · intro vs w' hb hv K hK
        have h11 : (Inr.MP.is (.bool false)).p (vs 11) w' := hv 11 (by simp)
        have h15 : (Inr.MP.is (.pointer (some ⟨ga, j * 6 + 1, none⟩))).p (vs 15) w' := hv 15 (by simp)
        clear hv
        have hK2 := hK.out
        clear hK
        simp only [Inr.putD, Inr.dst, List.foldl_cons, List.foldl_nil, List.getD_cons_zero, List.getD_cons_succ, Act.put, List.setIfInBounds_toArray, List.set_cons_zero, List.set_cons_succ] at hK2 ⊢
        have hK := Lib.hid hK2
        clear hK2
        generalize vs 11 = y11 at *
        generalize vs 15 = y15 at *
        have h11 : y11 = _ := h11
        subst h11
        have h15 : y15 = _ := h15
        subst h15
        obtain ⟨z0, z1, z2, z3, z4⟩ := E4.out.below hb E4.out.lt
        simp only [Region.wanted, Inr.yieldedD, Inr.dst, List.getD_cons_zero, List.getD_cons_succ]
        go_simp
        refine hK.out _ _ (Eq.refl _) (Below.refl _ _) (Inr.noTies _ _ _ _ _)
      · intro vs w' hb hv K hK
        have h11 : (Inr.MP.is (.bool false)).p (vs 11) w' := hv 11 (by simp)
        clear hv
        have hK2 := hK.out
        clear hK
        simp only [Inr.putD, Inr.dst, List.foldl_cons, List.foldl_nil, List.getD_cons_zero, List.getD_cons_succ, Act.put, List.setIfInBounds_toArray, List.set_cons_zero, List.set_cons_succ] at hK2 ⊢
        have hK := Lib.hid hK2
        clear hK2
        generalize vs 11 = y11 at *
        have h11 : y11 = _ := h11
        subst h11
        simp only [Region.wanted, Inr.yieldedD, Inr.dst, List.getD_cons_zero, List.getD_cons_succ]
        go_simp
        refine hK.out _ _ (Eq.refl _) (Below.refl _ _) (Inr.noTies _ _ _ _ _)
      · intro vs w' hb hv K hK
        have h11 : (Inr.MP.is (.bool false)).p (vs 11) w' := hv 11 (by simp)
        clear hv
        have hK2 := hK.out
        clear hK
        simp only [Inr.putD, Inr.dst, List.foldl_cons, List.foldl_nil, List.getD_cons_zero, List.getD_cons_succ, Act.put, List.setIfInBounds_toArray, List.set_cons_zero, List.set_cons_succ] at hK2 ⊢
        have hK := Lib.hid hK2
        clear hK2
        generalize vs 11 = y11 at *
        have h11 : y11 = _ := h11
        subst h11
        simp only [Region.wanted, Inr.yieldedD, Inr.dst, List.getD_cons_zero, List.getD_cons_succ]
        go_simp
        refine hK.out _ _ (Eq.refl _) (Below.refl _ _) (Inr.noTies _ _ _ _ _)
      · intro vs w' hb hv K hK
        have h11 : (Inr.MP.is (.bool false)).p (vs 11) w' := hv 11 (by simp)
        have h17 : (Inr.MP.is (.slice (some ⟨gb, 0, none⟩) len cb)).p (vs 17) w' := hv 17 (by simp)
        have h18 : (Inr.MP.is (.int .i64 j)).p (vs 18) w' := hv 18 (by simp)
        clear hv
        have hK2 := hK.out
        clear hK
        simp only [Inr.putD, Inr.dst, List.foldl_cons, List.foldl_nil, List.getD_cons_zero, List.getD_cons_succ, Act.put, List.setIfInBounds_toArray, List.set_cons_zero, List.set_cons_succ] at hK2 ⊢
        have hK := Lib.hid hK2
        clear hK2
        generalize vs 11 = y11 at *
        generalize vs 17 = y17 at *
        generalize vs 18 = y18 at *
        have h11 : y11 = _ := h11
        subst h11
        have h17 : y17 = _ := h17
        subst h17
        have h18 : y18 = _ := h18
        subst h18
        simp only [Region.wanted, Inr.yieldedD, Inr.dst, List.getD_cons_zero, List.getD_cons_succ]
        go_simp
        refine hK.out _ _ (Eq.refl _) (Below.refl _ _) (Inr.noTies _ _ _ _ _)
      · intro vs w' hb hv K hK
        have h11 : (Inr.MP.is (.bool false)).p (vs 11) w' := hv 11 (by simp)
        have h19 : (Inr.MP.is (.pointer (some ⟨gb, j * 6, none⟩))).p (vs 19) w' := hv 19 (by simp)
        clear hv
        have hK2 := hK.out
        clear hK
        simp only [Inr.putD, Inr.dst, List.foldl_cons, List.foldl_nil, List.getD_cons_zero, List.getD_cons_succ, Act.put, List.setIfInBounds_toArray, List.set_cons_zero, List.set_cons_succ] at hK2 ⊢
        have hK := Lib.hid hK2
        clear hK2
        generalize vs 11 = y11 at *
        generalize vs 19 = y19 at *
        have h11 : y11 = _ := h11
        subst h11
        have h19 : y19 = _ := h19
        subst h19
        simp only [Region.wanted, Inr.yieldedD, Inr.dst, List.getD_cons_zero, List.getD_cons_succ]
        go_simp
        refine hK.out _ _ (Eq.refl _) (Below.refl _ _) (Inr.noTies _ _ _ _ _)
      · intro vs w' hb hv K hK
        have h11 : (Inr.MP.is (.bool false)).p (vs 11) w' := hv 11 (by simp)
        have h20 : (Inr.MP.is (.pointer (some ⟨gb, j * 6 + 1, none⟩))).p (vs 20) w' := hv 20 (by simp)
        clear hv
        have hK2 := hK.out
        clear hK
        simp only [Inr.putD, Inr.dst, List.foldl_cons, List.foldl_nil, List.getD_cons_zero, List.getD_cons_succ, Act.put, List.setIfInBounds_toArray, List.set_cons_zero, List.set_cons_succ] at hK2 ⊢
        have hK := Lib.hid hK2
        clear hK2
        generalize vs 11 = y11 at *
        generalize vs 20 = y20 at *
        have h11 : y11 = _ := h11
        subst h11
        have h20 : y20 = _ := h20
        subst h20
        obtain ⟨z0, z1, z2, z3, z4⟩ := F4.out.below hb F4.out.lt
        simp only [Region.wanted, Inr.yieldedD, Inr.dst, List.getD_cons_zero, List.getD_cons_succ]
        go_simp
        refine hK.out _ _ (Eq.refl _) (Below.refl _ _) (Inr.noTies _ _ _ _ _)
      · intro vs w' hb hv K hK
        have h11 : (Inr.MP.is (.bool false)).p (vs 11) w' := hv 11 (by simp)
        have h16 : (Inr.MP.is (tv k1 p1 n1 N1 (.slice q1 l1 c1))).p (vs 16) w' := hv 16 (by simp)
        have h21 : (Inr.MP.is (tv k2 p2 n2 N2 (.slice q2 l2 c2))).p (vs 21) w' := hv 21 (by simp)
        clear hv
        have hK2 := hK.out
        clear hK
        simp only [Inr.putD, Inr.dst, List.foldl_cons, List.foldl_nil, List.getD_cons_zero, List.getD_cons_succ, Act.put, List.setIfInBounds_toArray, List.set_cons_zero, List.set_cons_succ] at hK2 ⊢
        have hK := Lib.hid hK2
        clear hK2
        generalize vs 11 = y11 at *
        generalize vs 16 = y16 at *
        generalize vs 21 = y21 at *
        have h11 : y11 = _ := h11
        subst h11
        have h16 : y16 = _ := h16
        subst h16
        have h21 : y21 = _ := h21
        subst h21
        simp only [Region.wanted, Inr.yieldedD, Inr.dst, List.getD_cons_zero, List.getD_cons_succ]
        go_simp
        ((with_reducible refine (refSame_any D _ _ xt xt w' (E5.out.below hb) (F5.out.below hb)).mono ?_); rintro e w3 ⟨rfl, hb3⟩)
        go_wp2_with fail
        refine hK.out _ _ (show Value.bool _ = Value.bool _ from congrArg Value.bool (same_self xt)) hb3 (Inr.noTies _ _ _ _ _)
      · intro vs w' hb hv K hK
        have h11 : (Inr.MP.is (.bool false)).p (vs 11) w' := hv 11 (by simp)
        have h22 : (Inr.MP.is (.bool true)).p (vs 22) w' := hv 22 (by simp)
        clear hv
        have hK2 := hK.out
        clear hK
        simp only [Inr.putD, Inr.dst, List.foldl_cons, List.foldl_nil, List.getD_cons_zero, List.getD_cons_succ, Act.put, List.setIfInBounds_toArray, List.set_cons_zero, List.set_cons_succ] at hK2 ⊢
        have hK := Lib.hid hK2
        clear hK2
        generalize vs 11 = y11 at *
        generalize vs 22 = y22 at *
        have h11 : y11 = _ := h11
        subst h11
        have h22 : y22 = _ := h22
        subst h22
        simp only [Region.wanted, Inr.yieldedD, Inr.dst, List.getD_cons_zero, List.getD_cons_succ]
        go_simp
        refine hK.out _ _ (Eq.refl _) (Below.refl _ _) (Inr.noTies _ _ _ _ _)
      · intro vs w' hb hv K hK
        have h11 : (Inr.MP.is (.bool false)).p (vs 11) w' := hv 11 (by simp)
        have h23 : (Inr.MP.is (.bool false)).p (vs 23) w' := hv 23 (by simp)
        clear hv
        have hK2 := hK.out
        clear hK
        simp only [Inr.putD, Inr.dst, List.foldl_cons, List.foldl_nil, List.getD_cons_zero, List.getD_cons_succ, Act.put, List.setIfInBounds_toArray, List.set_cons_zero, List.set_cons_succ] at hK2 ⊢
        have hK := Lib.hid hK2
        clear hK2
        generalize vs 11 = y11 at *
        generalize vs 23 = y23 at *
        have h11 : y11 = _ := h11
        subst h11
        have h23 : y23 = _ := h23
        subst h23
        simp only [Region.wanted, Inr.yieldedD, Inr.dst, List.getD_cons_zero, List.getD_cons_succ]
        go_simp
        refine hK.out _ _ (Eq.refl _) (Below.refl _ _) (Inr.noTies _ _ _ _ _)
      · have hl9 : vs 24 = .bool false := hv 24 (by omega)
        clear hv
        simp only [List.range, List.range.loop, Inr.putD, Inr.dst, List.foldl_cons, List.foldl_nil, List.getD_cons_zero, List.getD_cons_succ, Act.put, List.setIfInBounds_toArray, List.set_cons_zero, List.set_cons_succ]
        simp only [List.drop_succ_cons, List.drop_zero]
        generalize vs 0 = yy0 at *
        generalize vs 1 = yy1 at *
        generalize vs 2 = yy2 at *
        generalize vs 3 = yy3 at *
        generalize vs 4 = yy4 at *
        generalize vs 5 = yy5 at *
        generalize vs 6 = yy6 at *
        generalize vs 7 = yy7 at *
        generalize vs 8 = yy8 at *
        generalize vs 9 = yy9 at *
        generalize vs 10 = yy10 at *
        generalize vs 11 = yy11 at *
        generalize vs 12 = yy12 at *
        generalize vs 13 = yy13 at *
        generalize vs 14 = yy14 at *
        generalize vs 15 = yy15 at *
        generalize vs 16 = yy16 at *
        generalize vs 17 = yy17 at *
        generalize vs 18 = yy18 at *
        generalize vs 19 = yy19 at *
        generalize vs 20 = yy20 at *
        generalize vs 21 = yy21 at *
        generalize vs 22 = yy22 at *
        generalize vs 23 = yy23 at *
        generalize vs 24 = yy24 at *
        subst hl9
        have HQ := Lib.hid (HBL.out.trans (hbq.mono HBL.out.size))
        clear hbq hBL
        go_wp2
        go_roundw
        case rel => exact ⟨j + 1, by omega, by go_num, HQ.out⟩
        case measure => simp [intOf]; omega
    · obtain rfl : j = len := by omega
      go_wp2
      go_ret
      exact ⟨rfl, hBL⟩
end Go.Proofs.YtncebhddcokkoaaDoor
/- Terms made by the law's own words. -/
namespace Go.Proofs.YtncebhddcokkoaaDoor
open Go.RowKit Go.Maps
set_option linter.unusedSimpArgs false
set_option linter.unusedVariables false
/-- A fault's number. -/
theorem no13_any (w : World) (k : Int) : Calls Tryd.prog 15 #[.int .i64 k] w (fun e w' => e = .returned (.int .i64 k) ∧ Below w.heap.size w w') := by
  have HBL := Lib.hid (Below.refl w.heap.size w)
  go_enter Tryd.func15, Tryd.ntmps15
  go_wp2
  go_ret
  exact ⟨rfl, HBL.out⟩
set_option maxRecDepth 100000 in
/-- A variable. -/
theorem tv13_any (w : World) (s : ByteArray) : Calls Tryd.prog 31 #[.string s] w (fun e w' => e = .returned (tv 1 ⟨#[]⟩ s 0 (.slice none 0 0)) ∧ Below w.heap.size w w') := by
  have HB := Lib.hid (below_alloc w (.cells #[.int .i64 0, .string ⟨#[]⟩, .string ⟨#[]⟩, .int .i64 0, .slice none 0 0] 36))
  go_enter Tryd.func31, Tryd.ntmps31
  go_wp2
  exact bodyPost_ret (v := tv 1 ⟨#[]⟩ s 0 (.slice none 0 0)) (by simp [results, Tryd.results31, go_sem]) rfl ⟨rfl, below_alloc w _⟩
set_option maxRecDepth 100000 in
/-- A constructor. -/
theorem con13_any (w : World) (s : ByteArray) (q : Option Addr) (l c : Nat) : Calls Tryd.prog 39 #[.string s, .slice q l c] w (fun e w' => e = .returned (tv 2 ⟨#[]⟩ s 0 (.slice q l c)) ∧ Below w.heap.size w w') := by
  have HB := Lib.hid (below_alloc w (.cells #[.int .i64 0, .string ⟨#[]⟩, .string ⟨#[]⟩, .int .i64 0, .slice none 0 0] 36))
  go_enter Tryd.func39, Tryd.ntmps39
  go_wp2
  exact bodyPost_ret (v := tv 2 ⟨#[]⟩ s 0 (.slice q l c)) (by simp [results, Tryd.results39, go_sem]) rfl ⟨rfl, below_alloc w _⟩
/-- A function's type. -/
def fun13 (a b : Tm) : Tm := .mk 3 ⟨#[]⟩ ⟨#[]⟩ 0 [a, b]
def Fun13 (d : Nat) (a b : Tm) (w : World) (e : Ending) (w' : World) : Prop := ∃ q c, e = .returned (tv 3 ⟨#[]⟩ ⟨#[]⟩ 0 (.slice q 2 c)) ∧ IsT w' (d + 1) (tv 3 ⟨#[]⟩ ⟨#[]⟩ 0 (.slice q 2 c)) (fun13 a b) ∧ Below w.heap.size w w'
set_option maxRecDepth 100000 in
theorem fun13_any (w : World) (d : Nat) (va vb : Value) (a b : Tm) (ha : IsT w d va a) (hb : IsT w d vb b) : Calls Tryd.prog 32 #[va, vb] w (Fun13 d a b w) := by
  obtain ⟨m1, k1, p1, n1, N1, s1, l1, e1, h1, rfl, _⟩ := ha.open
  obtain ⟨m2, k2, p2, n2, N2, s2, l2, e2, h2, rfl, _⟩ := hb.open
  obtain ⟨q1, x1, c1, rfl⟩ := ha.spell
  obtain ⟨q2, x2, c2, rfl⟩ := hb.spell
  have HA := Lib.hid ha
  have HB := Lib.hid hb
  clear ha hb e1 e2 h1 h2
  go_enter Tryd.func32, Tryd.ntmps32
  go_wp2
  have b1 := below_alloc w (.cells #[.int .i64 k1, .string p1, .string n1, .int .i64 N1, .slice q1 x1 c1] 36)
  have b2 := b1.alloc b1.size (.cells #[.int .i64 k2, .string p2, .string n2, .int .i64 N2, .slice q2 x2 c2] 36)
  have b3 := b2.alloc b2.size (.cells #[.int .i64 3, .string ⟨#[]⟩, .string ⟨#[]⟩, .int .i64 0, .slice (some ⟨w.heap.size + 1 + 1 + 1, 0, none⟩) 2 2] 36)
  have b4 := b3.alloc b3.size (.cells #[.int .i64 k1, .string p1, .string n1, .int .i64 N1, .slice q1 x1 c1, .int .i64 k2, .string p2, .string n2, .int .i64 N2, .slice q2 x2 c2] 36)
  have hn := hb_new (((w.alloc (.cells #[.int .i64 k1, .string p1, .string n1, .int .i64 N1, .slice q1 x1 c1] 36)).alloc (.cells #[.int .i64 k2, .string p2, .string n2, .int .i64 N2, .slice q2 x2 c2] 36)).alloc (.cells #[.int .i64 3, .string ⟨#[]⟩, .string ⟨#[]⟩, .int .i64 0, .slice (some ⟨w.heap.size + 1 + 1 + 1, 0, none⟩) 2 2] 36)) (.cells #[.int .i64 k1, .string p1, .string n1, .int .i64 N1, .slice q1 x1 c1, .int .i64 k2, .string p2, .string n2, .int .i64 N2, .slice q2 x2 c2] 36)
  have es : (((w.alloc (.cells #[.int .i64 k1, .string p1, .string n1, .int .i64 N1, .slice q1 x1 c1] 36)).alloc (.cells #[.int .i64 k2, .string p2, .string n2, .int .i64 N2, .slice q2 x2 c2] 36)).alloc (.cells #[.int .i64 3, .string ⟨#[]⟩, .string ⟨#[]⟩, .int .i64 0, .slice (some ⟨w.heap.size + 1 + 1 + 1, 0, none⟩) 2 2] 36)).heap.size = w.heap.size + 1 + 1 + 1 := by simp
  rw [es] at hn
  refine bodyPost_ret (v := tv 3 ⟨#[]⟩ ⟨#[]⟩ 0 (.slice (some ⟨w.heap.size + 1 + 1 + 1, 0, none⟩) 2 2)) (by simp [results, Tryd.results32, go_sem]) rfl ⟨_, _, rfl, ?_, b4⟩
  refine IsT.shut (by decide) (by decide) ⟨_, _, rfl, by simp [maxLen], fun i x hx => ?_⟩
  match i, hx with
  | 0, hx =>
    obtain rfl := Option.some.inj hx
    exact ⟨_, _, k1, p1, n1, N1, _, rfl, ⟨hb_at hn 0 rfl, hb_at hn 1 rfl, hb_at hn 2 rfl, hb_at hn 3 rfl, hb_at hn 4 rfl⟩, HA.out.below b4⟩
  | 1, hx =>
    obtain rfl := Option.some.inj hx
    exact ⟨_, _, k2, p2, n2, N2, _, rfl, ⟨hb_at hn 5 rfl, hb_at hn 6 rfl, hb_at hn 7 rfl, hb_at hn 8 rfl, hb_at hn 9 rfl⟩, HB.out.below b4⟩
  | i + 2, hx => simp at hx
end Go.Proofs.YtncebhddcokkoaaDoor
/- What the law's examples come to. -/
namespace Go.Proofs.YtncebhddcokkoaaDoor
open Go.RowKit Go.Maps
set_option linter.unusedSimpArgs false
set_option linter.unusedVariables false
def sA : ByteArray := ⟨#[97]⟩
def sB : ByteArray := ⟨#[98]⟩
def cInt : Tm := .mk 2 ⟨#[]⟩ ⟨#[105, 110, 116]⟩ 0 []
def cText : Tm := .mk 2 ⟨#[]⟩ ⟨#[116, 101, 120, 116]⟩ 0 []
def cList (t : Tm) : Tm := .mk 2 ⟨#[]⟩ ⟨#[108, 105, 115, 116]⟩ 0 [t]
theorem So.vinv {σ : ByteArray → Tm} {n : ByteArray} {u : Tm} (h : So σ (vN n) u) : u = σ n := by
  unfold vN at h
  cases h with
  | var => rfl
  | con hk => exact absurd rfl hk
theorem So.funinv {σ : ByteArray → Tm} {a b u : Tm} (h : So σ (fun13 a b) u) : ∃ x y, u = fun13 x y ∧ So σ a x ∧ So σ b y := by
  unfold fun13 at h
  cases h with
  | con hk hl h =>
    rename_i m
    match m, hl, h with
    | [x, y], _, h => exact ⟨x, y, rfl, h 0 a x rfl rfl, h 1 b y rfl rfl⟩
theorem So.coninv {σ : ByteArray → Tm} {p n : ByteArray} {u : Tm} (h : So σ (.mk 2 p n 0 []) u) : u = .mk 2 p n 0 [] := by
  cases h with
  | con hk hl h =>
    rename_i m
    match m, hl with
    | [], _ => rfl
theorem So.oneinv {σ : ByteArray → Tm} {p n : ByteArray} {t u : Tm} (h : So σ (.mk 2 p n 0 [t]) u) : ∃ x, u = .mk 2 p n 0 [x] ∧ So σ t x := by
  cases h with
  | con hk hl h =>
    rename_i m
    match m, hl, h with
    | [x], _, h => exact ⟨x, rfl, h 0 t x rfl rfl⟩
theorem so_con (σ : ByteArray → Tm) (p n : ByteArray) : So σ (.mk 2 p n 0 []) (.mk 2 p n 0 []) := .con (by decide) rfl (fun i x y h _ => by simp at h)
theorem so_fun {σ : ByteArray → Tm} {a b x y : Tm} (h1 : So σ a x) (h2 : So σ b y) : So σ (fun13 a b) (fun13 x y) := .con (by decide) rfl (fun i z z' h h' => by
  match i, h, h' with
  | 0, h, h' => obtain rfl := Option.some.inj h; obtain rfl := Option.some.inj h'; exact h1
  | 1, h, h' => obtain rfl := Option.some.inj h; obtain rfl := Option.some.inj h'; exact h2
  | i + 2, h, _ => simp at h)
def eq1 : List (Tm × Tm) := [(fun13 (vN sA) cInt, fun13 (vN sB) (vN sB))]
def eq2 : List (Tm × Tm) := [(vN sA, cList (vN sA))]
theorem eq1_sol : ∃ τ, SolE eq1 τ := ⟨fun _ => cInt, fun e he => by
  cases List.mem_singleton.1 he
  exact ⟨fun13 cInt cInt, so_fun .var (so_con _ _ _), so_fun .var .var⟩⟩
theorem eq1_one {σ : ByteArray → Tm} (h : SolE eq1 σ) : σ sA = cInt ∧ σ sB = cInt := by
  obtain ⟨u, h1, h2⟩ := h _ (List.mem_singleton.2 rfl)
  obtain ⟨x, y, rfl, hx, hy⟩ := h1.funinv
  obtain ⟨x', y', e, hx', hy'⟩ := h2.funinv
  have e1 := hx.vinv
  have e2 := hy.coninv
  have e3 := hx'.vinv
  have e4 := hy'.vinv
  unfold fun13 at e
  injection e with _ _ _ _ e
  injection e with e5 e
  injection e with e6 e
  subst e1 e2 e5 e6
  exact ⟨e3.trans e4.symm, e4.symm⟩
theorem eq2_no : ¬ ∃ τ, SolE eq2 τ := by
  rintro ⟨τ, h⟩
  obtain ⟨u, h1, h2⟩ := h _ (List.mem_singleton.2 rfl)
  have e1 := h1.vinv
  obtain ⟨x, e2, h3⟩ := h2.oneinv
  have e3 := h3.vinv
  subst e1 e3
  have e := congrArg cnt2 e2
  rw [cnt2_eq] at e
  simp at e
theorem eq1_nms : nmsE 2 eq1 = [sA, sB] := by rfl
theorem meet_one {σ : ByteArray → Tm} {u : Tm} (h : SolE [(fun13 (vN sA) cInt, fun13 cText (vN sB))] σ) (hu : So σ (fun13 (vN sA) cInt) u) : u = fun13 cText cInt := by
  obtain ⟨u', h1, h2⟩ := h _ (List.mem_singleton.2 rfl)
  obtain ⟨x, y, rfl, hx, hy⟩ := h1.funinv
  obtain ⟨x', y', e, hx', hy'⟩ := h2.funinv
  obtain ⟨x2, y2, rfl, hx2, hy2⟩ := hu.funinv
  have e1 := hx.vinv
  have e3 := hx'.coninv
  have e5 := hx2.vinv
  have e6 := hy2.coninv
  unfold fun13 at e
  injection e with _ _ _ _ e
  injection e with e7 e
  rw [e5, e6, ← e1, e7, e3]
  rfl
theorem meet_sol : ∃ τ, SolE [(fun13 (vN sA) cInt, fun13 cText (vN sB))] τ := ⟨fun n => if n = sA then cText else cInt, fun e he => by
  cases List.mem_singleton.1 he
  refine ⟨fun13 cText cInt, so_fun ?_ (so_con _ _ _), so_fun (so_con _ _ _) ?_⟩
  · have := So.var (σ := fun n => if n = sA then cText else cInt) (p := ⟨#[]⟩) (n := sA) (N := 0) (l := [])
    rw [if_pos rfl] at this
    exact this
  · have := So.var (σ := fun n => if n = sA then cText else cInt) (p := ⟨#[]⟩) (n := sB) (N := 0) (l := [])
    rw [if_neg (by decide)] at this
    exact this⟩
theorem typ_int : Typ cInt := .con (.inl rfl) (fun x h => by simp at h)
theorem typ_text : Typ cText := .con (.inl rfl) (fun x h => by simp at h)
theorem typ_fun {a b : Tm} (ha : Typ a) (hb : Typ b) : Typ (fun13 a b) := .con (.inr (.inl rfl)) (fun x h => by
  simp only [List.mem_cons, List.not_mem_nil, or_false] at h
  rcases h with rfl | rfl
  · exact ha
  · exact hb)
theorem typ_list {a : Tm} (ha : Typ a) : Typ (cList a) := .con (.inl rfl) (fun x h => by
  simp only [List.mem_cons, List.not_mem_nil, or_false] at h
  exact h ▸ ha)
theorem isT_v (w : World) (s : ByteArray) (hs : s.size ≤ maxLen) (d : Nat) : IsT w (d + 1) (tv 1 ⟨#[]⟩ s 0 (.slice none 0 0)) (vN s) := IsT.shut (by decide) hs ⟨none, 0, rfl, by simp, fun i x h => by simp at h⟩
theorem isT_c (w : World) (s : ByteArray) (hs : s.size ≤ maxLen) (d : Nat) : IsT w (d + 1) (tv 2 ⟨#[]⟩ s 0 (.slice none 0 0)) (.mk 2 ⟨#[]⟩ s 0 []) := IsT.shut (by decide) hs ⟨none, 0, rfl, by simp, fun i x h => by simp at h⟩
theorem tot1 : tot 2 eq1 ≤ 1000 := by decide
theorem tot2 : tot 2 eq2 ≤ 1000 := by decide
theorem tot3 : tot 2 [(fun13 (vN sA) cInt, fun13 cText (vN sB))] ≤ 1000 := by decide
theorem cnt_int : cnt2 cInt ≤ 1000 := by simp [cInt, cnt2]
theorem cnt_fun : cnt2 (fun13 cText cInt) ≤ 1000 := by simp [fun13, cText, cInt, cnt2]
def solL : List NT := [(sA, cInt), (sB, cInt)]
/-- The first example's answer. -/
def Sol1 (w : World) (e : Ending) (w' : World) : Prop := Below w.heap.size w w' ∧ ∃ q c, e = .returned (.tuple #[.slice q 2 c, .int .i64 0]) ∧ VAt w' 1000 (.slice q 2 c) solL
theorem sol1_any (w : World) (v : Value) (h : EqAt w 2 v eq1) : Calls Tryd.prog 12 #[v] w (Sol1 w) := by
  have hc := solve_any w 2 v eq1 h (fun x hx => by cases List.mem_singleton.1 hx; exact ⟨typ_fun (.var _) typ_int, typ_fun (.var _) (.var _)⟩) tot1 (by decide)
  refine hc.mono ?_
  rintro e w' ⟨hb, ⟨_, hno⟩ | ⟨σ, hB, ⟨v', rfl, _, hv⟩ | ⟨rfl, n, hn, hbig⟩⟩⟩
  · exact absurd eq1_sol hno
  · obtain ⟨e1, e2⟩ := eq1_one hB.sol
    rw [eq1_nms] at hv
    simp only [List.map_cons, List.map_nil, e1, e2] at hv
    obtain ⟨q, c, rfl⟩ := hv.shape
    exact ⟨hb, q, c, rfl, hv⟩
  · obtain ⟨e1, e2⟩ := eq1_one hB.sol
    rw [eq1_nms] at hn
    have hci := cnt_int
    simp only [List.mem_cons, List.not_mem_nil, or_false] at hn
    rcases hn with rfl | rfl
    · rw [e1] at hbig; omega
    · rw [e2] at hbig; omega
/-- The second's. -/
def Sol2 (w : World) (e : Ending) (w' : World) : Prop := Below w.heap.size w w' ∧ e = .returned (.tuple #[.slice none 0 0, .int .i64 15])
theorem sol2_any (w : World) (v : Value) (h : EqAt w 2 v eq2) : Calls Tryd.prog 12 #[v] w (Sol2 w) := by
  have hc := solve_any w 2 v eq2 h (fun x hx => by cases List.mem_singleton.1 hx; exact ⟨.var _, typ_list (.var _)⟩) tot2 (by decide)
  refine hc.mono ?_
  rintro e w' ⟨hb, ⟨rfl, _⟩ | ⟨σ, hB, _⟩⟩
  · exact ⟨hb, rfl⟩
  · exact absurd ⟨σ, hB.sol⟩ eq2_no
/-- The third's. -/
def Met3 (w : World) (e : Ending) (w' : World) : Prop := Below w.heap.size w w' ∧ ∃ k I p m q l c, e = .returned (.tuple #[tv k p m I (.slice q l c), .int .i64 0]) ∧ IsT w' 1000 (tv k p m I (.slice q l c)) (fun13 cText cInt)
theorem met3_any (w : World) (va vb : Value) (ha : IsT w 2 va (fun13 (vN sA) cInt)) (hb : IsT w 2 vb (fun13 cText (vN sB))) : Calls Tryd.prog 20 #[va, vb] w (Met3 w) := by
  refine (meet_any w 2 va vb _ _ ha hb ⟨typ_fun (.var _) typ_int, typ_fun typ_text (.var _)⟩ tot3).mono ?_
  rintro e w' ⟨hbl, ⟨_, hno⟩ | ⟨σ, u, hB, hu, ⟨k, I, p, m, q, l, c, rfl, hc, hi⟩ | ⟨rfl, hbig⟩⟩⟩
  · exact absurd meet_sol hno
  · have := meet_one hB.sol hu
    subst this
    exact ⟨hbl, k, I, p, m, q, l, c, rfl, hi 1000 hc⟩
  · have := meet_one hB.sol hu
    subst this
    have := cnt_fun
    omega
/-- One equation in memory. -/
theorem eqAt_one {w' : World} {d : Nat} {k k' N N' : Int} {p n p' n' : ByteArray} {s s' : Value} {ta tb : Tm} {g : Nat} {fr : Nat × Nat} {cc : Nat} (ht : w'.heap[g]? = some (.cells #[.int .i64 k, .string p, .string n, .int .i64 N, s, .int .i64 k', .string p', .string n', .int .i64 N', s'] 43 fr)) (h1 : IsT w' d (tv k p n N s) ta) (h2 : IsT w' d (tv k' p' n' N' s') tb) :
    EqAt w' d (.slice (some ⟨g, 0, none⟩) 1 cc) [(ta, tb)] := ⟨some ⟨g, 0, none⟩, cc, rfl, fun i x hx => by
    match i, hx with
    | 0, hx =>
      obtain rfl := Option.some.inj hx
      exact ⟨g, 0, k, p, n, N, _, k', p', n', N', _, rfl, ⟨⟨hb_at ht 0 rfl, hb_at ht 1 rfl, hb_at ht 2 rfl, hb_at ht 3 rfl, hb_at ht 4 rfl⟩, h1⟩, ⟨hb_at ht 5 rfl, hb_at ht 6 rfl, hb_at ht 7 rfl, hb_at ht 8 rfl, hb_at ht 9 rfl⟩, h2⟩
    | i + 1, hx => simp at hx⟩
theorem eqAt_new {w : World} {d : Nat} {k k' N N' : Int} {p n p' n' : ByteArray} {s s' : Value} {ta tb : Tm} (h1 : IsT w d (tv k p n N s) ta) (h2 : IsT w d (tv k' p' n' N' s') tb) :
    EqAt (w.alloc (.cells #[.int .i64 k, .string p, .string n, .int .i64 N, s, .int .i64 k', .string p', .string n', .int .i64 N', s'] 43)) d (.slice (some ⟨w.heap.size, 0, none⟩) 1 1) [(ta, tb)] :=
  eqAt_one (hb_new w _) (h1.below (below_alloc w _)) (h2.below (below_alloc w _))
theorem isT_list {w : World} {g d : Nat} {fr : Nat × Nat} {m : ByteArray} {t : Tm} {k N : Int} {p n : ByteArray} {s : Value} {cc : Nat} (hm : m.size ≤ maxLen) (h : w.heap[g]? = some (.cells #[.int .i64 k, .string p, .string n, .int .i64 N, s] 36 fr)) (ht : IsT w d (tv k p n N s) t) :
    IsT w (d + 1) (tv 2 ⟨#[]⟩ m 0 (.slice (some ⟨g, 0, none⟩) 1 cc)) (.mk 2 ⟨#[]⟩ m 0 [t]) := by
  refine IsT.shut (by decide) hm ⟨_, _, rfl, by simp [maxLen], fun i x hx => ?_⟩
  match i, hx with
  | 0, hx =>
    obtain rfl := Option.some.inj hx
    exact ⟨_, _, k, p, n, N, _, rfl, ⟨hb_at h 0 rfl, hb_at h 1 rfl, hb_at h 2 rfl, hb_at h 3 rfl, hb_at h 4 rfl⟩, ht⟩
  | i + 1, hx => simp at hx
end Go.Proofs.YtncebhddcokkoaaDoor
