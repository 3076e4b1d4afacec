/- Lists of names and terms: where a name stands; are two the same? -/
import Derived.Test.YtknbhnicmgglbaaDoorPv
import Derived.Test.YtknbhnicmgglbaaDoorOa
import Derived.Deep.QuietTactic
import Derived.BigQuiet
import Derived.Deep.DeepCutAuto
import Derived.Outline
namespace Go.Proofs.YtknbhnicmgglbaaDoor
open Go.RowKit
set_option linter.unusedSimpArgs false
set_option linter.unusedVariables false
theorem fnd_split {L : List NT} {j : Nat} {x : NT} {n : ByteArray} (h : L[j]? = some x) (h0 : fnd (L.take j) n = none) : fnd (L.take (j + 1)) n = if x.1 = n then some x.2 else none := by
  obtain ⟨hlt, he⟩ := List.getElem?_eq_some_iff.1 h
  rw [List.take_succ_eq_append_getElem hlt, he, fnd_app, h0]
  rfl
theorem fnd_take {L : List NT} {n : ByteArray} {t : Tm} : ∀ {j : Nat}, fnd (L.take j) n = some t → fnd L n = some t := by
  intro j h
  have e := List.take_append_drop j L
  rw [← e, fnd_app, h]
  rfl
def FindR (L : List NT) (n : ByteArray) (w : World) (e : Ending) (w' : World) : Prop := ((e = .returned (.int .i64 (-1)) ∧ fnd L n = none) ∨ ∃ (i : Nat) (x : NT), e = .returned (.int .i64 (i : Int)) ∧ L[i]? = some x ∧ fnd L n = some x.2) ∧ w' = w
set_option maxRecDepth 100000 in
set_option maxHeartbeats 4000000 in
theorem find_any (D : Nat) (v : Value) (L : List NT) (n : ByteArray) (w : World) (h : VAt w D v L) : Calls Tryd.prog 30 #[v, .string n] w (FindR L n w) := by
  obtain ⟨q, c, rfl, hl, hL⟩ := h
  have HL := Lib.hid hL
  have HLL := Lib.hid hl
  clear hL
  generalize hlen : L.length = len at *
  have HLEN := Lib.hid hlen
  go_enter Tryd.func30, Tryd.ntmps30
  go_wp2
  go_loopw [5] (fun i wr => ∃ j : Nat, j ≤ len ∧ i = .int .i64 j ∧ wr = w ∧ fnd (L.take j) n = none) (fun i _ => len - (intOf i).toNat)
  case atStart => exact ⟨0, Nat.zero_le _, rfl, rfl, rfl⟩
  case round =>
    obtain ⟨j, hj, rfl, hw, hf⟩ := hrel
    subst hw
    have HF := Lib.hid hf
    clear hf
    by_cases hlt : (j : Int) < (len : Int)
    · have hx : L[j]? = some (L[j]'(by omega)) := List.getElem?_eq_getElem (by omega)
      obtain ⟨g, k, p, nn, N, s, e1, e2, e3, e4, e5⟩ := HL.out j _ hx
      subst e1
      have HX := Lib.hid hx
      clear e4 e5 hx
      generalize (L[j]'(by omega)) = x at *
      by_cases hxn : x.1 = n
      · have he : (x.1.toList == n.toList) = true := by rw [hxn]; simp
        have HXN := Lib.hid hxn
        clear hxn
        go_wp2
        go_ret
        exact ⟨.inr ⟨j, x, rfl, HX.out, fnd_take (j := j + 1) (by rw [fnd_split HX.out HF.out, if_pos HXN.out])⟩, rfl⟩
      · have he : (x.1.toList == n.toList) = false := by
          rw [beq_eq_false_iff_ne]
          intro h
          exact hxn (toList_inj h)
        have HXN := Lib.hid hxn
        clear hxn
        go_wp2
        go_roundw
        case rel => exact ⟨j + 1, by omega, by go_num, by first | rfl | trivial, by rw [fnd_split HX.out HF.out, if_neg HXN.out]⟩
        case measure => simp [intOf]; omega
    · obtain rfl : j = len := by omega
      go_wp2
      go_ret
      have h := HF.out
      rw [List.take_of_length_le (by rw [HLEN.out]; exact Nat.le_refl _)] at h
      exact ⟨.inl ⟨rfl, h⟩, rfl⟩
set_option maxRecDepth 100000 in
set_option maxHeartbeats 4000000 in
theorem usame_any (D : Nat) (va vb : Value) (L : List NT) (w : World) (ha : VAt w D va L) (hb : VAt w D vb L) : Calls Tryd.prog 9 #[va, vb] w (BoolR true w) := by
  obtain ⟨qa, ca, rfl, hl, hA⟩ := ha
  obtain ⟨qb, cb, rfl, _, hB⟩ := hb
  have HA := Lib.hid hA
  have HB := Lib.hid hB
  clear hA hB
  generalize hlen : L.length = len at *
  have HLEN := Lib.hid hlen
  go_enter Tryd.func9, Tryd.ntmps9
  go_wp2
  go_loopw [5] (fun i wr => ∃ j : Nat, j ≤ len ∧ i = .int .i64 j ∧ Below w.heap.size w wr) (fun i _ => len - (intOf i).toNat)
  case atStart => exact ⟨0, Nat.zero_le _, rfl, Below.refl _ _⟩
  case round =>
    obtain ⟨j, hj, rfl, hBL⟩ := hrel
    have HBL := Lib.hid hBL
    by_cases hlt : (j : Int) < (len : Int)
    · have hx : L[j]? = some (L[j]'(by omega)) := List.getElem?_eq_getElem (by omega)
      obtain ⟨ga, k1, p1, n1, N1, s1, e1, e2, e3, e4, e5⟩ := HA.out j _ hx
      obtain ⟨gb, k2, p2, n2, N2, s2, f1, f2, f3, f4, f5⟩ := HB.out j _ hx
      subst e1
      subst f1
      generalize (L[j]'(by omega)) = x at *
      obtain ⟨q1, l1, c1, rfl⟩ := e5.spell
      obtain ⟨q2, l2, c2, rfl⟩ := f5.spell
      have E2 := Lib.hid (keep_cell hBL e2)
      have F2 := Lib.hid (keep_cell hBL f2)
      have E4 := Lib.hid (e4.below hBL e4.lt)
      have F4 := Lib.hid (f4.below hBL f4.lt)
      have E5 := Lib.hid (e5.below hBL)
      have F5 := Lib.hid (f5.below hBL)
      clear hx e2 e3 e4 e5 f2 f3 f4 f5
      generalize x.1 = xn at *
      generalize x.2 = xt at *
      have hxx : (xn.toList == xn.toList) = true := by simp
      go_upto_region 6 with fail
      refine Inr.region (by kernel_rfl) 25 [some 17, some 18, some 19, some 20, some 21, some 22, some 23, some 24, some 25, some 26, some 27, some 28, some 29, some 30, some 31, some 32, some 33, some 34, some 35, some 36, some 37, some 38, some 39, some 40, some 41] [[], [], [0, 1], [2], [3], [], [], [5, 6], [7], [8], [4, 9], [10], [11], [11], [12, 13, 11], [14, 11], [15, 11], [11], [11], [17, 18, 11], [19, 11], [20, 11], [16, 21, 11, 11], [22, 11], [11, 23]] (by kernel_rfl) (by kernel_rfl) (by kernel_rfl) (by kernel_rfl) [Inr.MP.is (.slice (some ⟨ga, 0, none⟩) len ca), Inr.MP.is (.int .i64 j), Inr.MP.is (.pointer (some ⟨ga, j * 6, none⟩)), Inr.MP.is (.pointer (some ⟨ga, j * 6, none⟩)), Inr.MP.is (.string xn), Inr.MP.is (.slice (some ⟨gb, 0, none⟩) len cb), Inr.MP.is (.int .i64 j), Inr.MP.is (.pointer (some ⟨gb, j * 6, none⟩)), Inr.MP.is (.pointer (some ⟨gb, j * 6, none⟩)), Inr.MP.is (.string xn), Inr.MP.is (.bool false), Inr.MP.is (.bool false), Inr.MP.is (.slice (some ⟨ga, 0, none⟩) len ca), Inr.MP.is (.int .i64 j), Inr.MP.is (.pointer (some ⟨ga, j * 6, none⟩)), Inr.MP.is (.pointer (some ⟨ga, j * 6 + 1, none⟩)), Inr.MP.is (tv k1 p1 n1 N1 (.slice q1 l1 c1)), Inr.MP.is (.slice (some ⟨gb, 0, none⟩) len cb), Inr.MP.is (.int .i64 j), Inr.MP.is (.pointer (some ⟨gb, j * 6, none⟩)), Inr.MP.is (.pointer (some ⟨gb, j * 6 + 1, none⟩)), Inr.MP.is (tv k2 p2 n2 N2 (.slice q2 l2 c2)), Inr.MP.is (.bool true), Inr.MP.is (.bool false), Inr.MP.is (.bool false)] [] (by intro x hx; cases hx) ⟨?_, ?_, ?_, ?_, ?_, ?_, ?_, ?_, ?_, ?_, ?_, ?_, ?_, ?_, ?_, ?_, ?_, ?_, ?_, ?_, ?_, ?_, ?_, ?_, ?_, trivial⟩ (fun vs wq hbq hv htie => ?_)
      · intro vs w' hb hv K hK
        clear hv
        have hK2 := hK.out
        clear hK
        simp only [Inr.putD, Inr.dst, List.foldl_cons, List.foldl_nil, List.getD_cons_zero, List.getD_cons_succ, Act.put, List.setIfInBounds_toArray, List.set_cons_zero, List.set_cons_succ] at hK2 ⊢
        have hK := Lib.hid hK2
        clear hK2
        simp only [Region.wanted, Inr.yieldedD, Inr.dst, List.getD_cons_zero, List.getD_cons_succ]
        go_simp
        refine hK.out _ _ (Eq.refl _) (Below.refl _ _) (Inr.noTies _ _ _ _ _)
      · intro vs w' hb hv K hK
        clear hv
        have hK2 := hK.out
        clear hK
        simp only [Inr.putD, Inr.dst, List.foldl_cons, List.foldl_nil, List.getD_cons_zero, List.getD_cons_succ, Act.put, List.setIfInBounds_toArray, List.set_cons_zero, List.set_cons_succ] at hK2 ⊢
        have hK := Lib.hid hK2
        clear hK2
        simp only [Region.wanted, Inr.yieldedD, Inr.dst, List.getD_cons_zero, List.getD_cons_succ]
        go_simp
        refine hK.out _ _ (Eq.refl _) (Below.refl _ _) (Inr.noTies _ _ _ _ _)
      · intro vs w' hb hv K hK
        have h0 : (Inr.MP.is (.slice (some ⟨ga, 0, none⟩) len ca)).p (vs 0) w' := hv 0 (by simp)
        have h1 : (Inr.MP.is (.int .i64 j)).p (vs 1) w' := hv 1 (by simp)
        clear hv
        have hK2 := hK.out
        clear hK
        simp only [Inr.putD, Inr.dst, List.foldl_cons, List.foldl_nil, List.getD_cons_zero, List.getD_cons_succ, Act.put, List.setIfInBounds_toArray, List.set_cons_zero, List.set_cons_succ] at hK2 ⊢
        have hK := Lib.hid hK2
        clear hK2
        generalize vs 0 = y0 at *
        generalize vs 1 = y1 at *
        have h0 : y0 = _ := h0
        subst h0
        have h1 : y1 = _ := h1
        subst h1
        simp only [Region.wanted, Inr.yieldedD, Inr.dst, List.getD_cons_zero, List.getD_cons_succ]
        go_simp
        refine hK.out _ _ (Eq.refl _) (Below.refl _ _) (Inr.noTies _ _ _ _ _)
      · intro vs w' hb hv K hK
        have h2 : (Inr.MP.is (.pointer (some ⟨ga, j * 6, none⟩))).p (vs 2) w' := hv 2 (by simp)
        clear hv
        have hK2 := hK.out
        clear hK
        simp only [Inr.putD, Inr.dst, List.foldl_cons, List.foldl_nil, List.getD_cons_zero, List.getD_cons_succ, Act.put, List.setIfInBounds_toArray, List.set_cons_zero, List.set_cons_succ] at hK2 ⊢
        have hK := Lib.hid hK2
        clear hK2
        generalize vs 2 = y2 at *
        have h2 : y2 = _ := h2
        subst h2
        simp only [Region.wanted, Inr.yieldedD, Inr.dst, List.getD_cons_zero, List.getD_cons_succ]
        go_simp
        refine hK.out _ _ (Eq.refl _) (Below.refl _ _) (Inr.noTies _ _ _ _ _)
      · intro vs w' hb hv K hK
        have h3 : (Inr.MP.is (.pointer (some ⟨ga, j * 6, none⟩))).p (vs 3) w' := hv 3 (by simp)
        clear hv
        have hK2 := hK.out
        clear hK
        simp only [Inr.putD, Inr.dst, List.foldl_cons, List.foldl_nil, List.getD_cons_zero, List.getD_cons_succ, Act.put, List.setIfInBounds_toArray, List.set_cons_zero, List.set_cons_succ] at hK2 ⊢
        have hK := Lib.hid hK2
        clear hK2
        generalize vs 3 = y3 at *
        have h3 : y3 = _ := h3
        subst h3
        have hcx := keep_cell hb E2.out
        simp only [Region.wanted, Inr.yieldedD, Inr.dst, List.getD_cons_zero, List.getD_cons_succ]
        go_simp
        refine hK.out _ _ (Eq.refl _) (Below.refl _ _) (Inr.noTies _ _ _ _ _)
      · intro vs w' hb hv K hK
        clear hv
        have hK2 := hK.out
        clear hK
        simp only [Inr.putD, Inr.dst, List.foldl_cons, List.foldl_nil, List.getD_cons_zero, List.getD_cons_succ, Act.put, List.setIfInBounds_toArray, List.set_cons_zero, List.set_cons_succ] at hK2 ⊢
        have hK := Lib.hid hK2
        clear hK2
        simp only [Region.wanted, Inr.yieldedD, Inr.dst, List.getD_cons_zero, List.getD_cons_succ]
        go_simp
        refine hK.out _ _ (Eq.refl _) (Below.refl _ _) (Inr.noTies _ _ _ _ _)
      · intro vs w' hb hv K hK
        clear hv
        have hK2 := hK.out
        clear hK
        simp only [Inr.putD, Inr.dst, List.foldl_cons, List.foldl_nil, List.getD_cons_zero, List.getD_cons_succ, Act.put, List.setIfInBounds_toArray, List.set_cons_zero, List.set_cons_succ] at hK2 ⊢
        have hK := Lib.hid hK2
        clear hK2
        simp only [Region.wanted, Inr.yieldedD, Inr.dst, List.getD_cons_zero, List.getD_cons_succ]
        go_simp
        refine hK.out _ _ (Eq.refl _) (Below.refl _ _) (Inr.noTies _ _ _ _ _)
      · intro vs w' hb hv K hK
        have h5 : (Inr.MP.is (.slice (some ⟨gb, 0, none⟩) len cb)).p (vs 5) w' := hv 5 (by simp)
        have h6 : (Inr.MP.is (.int .i64 j)).p (vs 6) w' := hv 6 (by simp)
        clear hv
        have hK2 := hK.out
        clear hK
        simp only [Inr.putD, Inr.dst, List.foldl_cons, List.foldl_nil, List.getD_cons_zero, List.getD_cons_succ, Act.put, List.setIfInBounds_toArray, List.set_cons_zero, List.set_cons_succ] at hK2 ⊢
        have hK := Lib.hid hK2
        clear hK2
        generalize vs 5 = y5 at *
        generalize vs 6 = y6 at *
        have h5 : y5 = _ := h5
        subst h5
        have h6 : y6 = _ := h6
        subst h6
        simp only [Region.wanted, Inr.yieldedD, Inr.dst, List.getD_cons_zero, List.getD_cons_succ]
        go_simp
        refine hK.out _ _ (Eq.refl _) (Below.refl _ _) (Inr.noTies _ _ _ _ _)
      · intro vs w' hb hv K hK
        have h7 : (Inr.MP.is (.pointer (some ⟨gb, j * 6, none⟩))).p (vs 7) w' := hv 7 (by simp)
        clear hv
        have hK2 := hK.out
        clear hK
        simp only [Inr.putD, Inr.dst, List.foldl_cons, List.foldl_nil, List.getD_cons_zero, List.getD_cons_succ, Act.put, List.setIfInBounds_toArray, List.set_cons_zero, List.set_cons_succ] at hK2 ⊢
        have hK := Lib.hid hK2
        clear hK2
        generalize vs 7 = y7 at *
        have h7 : y7 = _ := h7
        subst h7
        simp only [Region.wanted, Inr.yieldedD, Inr.dst, List.getD_cons_zero, List.getD_cons_succ]
        go_simp
        refine hK.out _ _ (Eq.refl _) (Below.refl _ _) (Inr.noTies _ _ _ _ _)
      · intro vs w' hb hv K hK
        have h8 : (Inr.MP.is (.pointer (some ⟨gb, j * 6, none⟩))).p (vs 8) w' := hv 8 (by simp)
        clear hv
        have hK2 := hK.out
        clear hK
        simp only [Inr.putD, Inr.dst, List.foldl_cons, List.foldl_nil, List.getD_cons_zero, List.getD_cons_succ, Act.put, List.setIfInBounds_toArray, List.set_cons_zero, List.set_cons_succ] at hK2 ⊢
        have hK := Lib.hid hK2
        clear hK2
        generalize vs 8 = y8 at *
        have h8 : y8 = _ := h8
        subst h8
        have hcx := keep_cell hb F2.out
        simp only [Region.wanted, Inr.yieldedD, Inr.dst, List.getD_cons_zero, List.getD_cons_succ]
        go_simp
        refine hK.out _ _ (Eq.refl _) (Below.refl _ _) (Inr.noTies _ _ _ _ _)
      · intro vs w' hb hv K hK
        have h4 : (Inr.MP.is (.string xn)).p (vs 4) w' := hv 4 (by simp)
        have h9 : (Inr.MP.is (.string xn)).p (vs 9) w' := hv 9 (by simp)
        clear hv
        have hK2 := hK.out
        clear hK
        simp only [Inr.putD, Inr.dst, List.foldl_cons, List.foldl_nil, List.getD_cons_zero, List.getD_cons_succ, Act.put, List.setIfInBounds_toArray, List.set_cons_zero, List.set_cons_succ] at hK2 ⊢
        have hK := Lib.hid hK2
        clear hK2
        generalize vs 4 = y4 at *
        generalize vs 9 = y9 at *
        have h4 : y4 = _ := h4
        subst h4
        have h9 : y9 = _ := h9
        subst h9
        simp only [Region.wanted, Inr.yieldedD, Inr.dst, List.getD_cons_zero, List.getD_cons_succ]
        go_simp
        refine hK.out _ _ (Eq.refl _) (Below.refl _ _) (Inr.noTies _ _ _ _ _)
      · intro vs w' hb hv K hK
        have h10 : (Inr.MP.is (.bool false)).p (vs 10) w' := hv 10 (by simp)
        clear hv
        have hK2 := hK.out
        clear hK
        simp only [Inr.putD, Inr.dst, List.foldl_cons, List.foldl_nil, List.getD_cons_zero, List.getD_cons_succ, Act.put, List.setIfInBounds_toArray, List.set_cons_zero, List.set_cons_succ] at hK2 ⊢
        have hK := Lib.hid hK2
        clear hK2
        generalize vs 10 = y10 at *
        have h10 : y10 = _ := h10
        subst h10
        simp only [Region.wanted, Inr.yieldedD, Inr.dst, List.getD_cons_zero, List.getD_cons_succ]
        go_simp
        refine hK.out _ _ (Eq.refl _) (Below.refl _ _) (Inr.noTies _ _ _ _ _)
      · intro vs w' hb hv K hK
        have h11 : (Inr.MP.is (.bool false)).p (vs 11) w' := hv 11 (by simp)
        clear hv
        have hK2 := hK.out
        clear hK
        simp only [Inr.putD, Inr.dst, List.foldl_cons, List.foldl_nil, List.getD_cons_zero, List.getD_cons_succ, Act.put, List.setIfInBounds_toArray, List.set_cons_zero, List.set_cons_succ] at hK2 ⊢
        have hK := Lib.hid hK2
        clear hK2
        generalize vs 11 = y11 at *
        have h11 : y11 = _ := h11
        subst h11
        simp only [Region.wanted, Inr.yieldedD, Inr.dst, List.getD_cons_zero, List.getD_cons_succ]
        go_simp
        refine hK.out _ _ (Eq.refl _) (Below.refl _ _) (Inr.noTies _ _ _ _ _)
      · intro vs w' hb hv K hK
        have h11 : (Inr.MP.is (.bool false)).p (vs 11) w' := hv 11 (by simp)
        clear hv
        have hK2 := hK.out
        clear hK
        simp only [Inr.putD, Inr.dst, List.foldl_cons, List.foldl_nil, List.getD_cons_zero, List.getD_cons_succ, Act.put, List.setIfInBounds_toArray, List.set_cons_zero, List.set_cons_succ] at hK2 ⊢
        have hK := Lib.hid hK2
        clear hK2
        generalize vs 11 = y11 at *
        have h11 : y11 = _ := h11
        subst h11
        simp only [Region.wanted, Inr.yieldedD, Inr.dst, List.getD_cons_zero, List.getD_cons_succ]
        go_simp
        refine hK.out _ _ (Eq.refl _) (Below.refl _ _) (Inr.noTies _ _ _ _ _)
      · intro vs w' hb hv K hK
        have h11 : (Inr.MP.is (.bool false)).p (vs 11) w' := hv 11 (by simp)
        have h12 : (Inr.MP.is (.slice (some ⟨ga, 0, none⟩) len ca)).p (vs 12) w' := hv 12 (by simp)
        have h13 : (Inr.MP.is (.int .i64 j)).p (vs 13) w' := hv 13 (by simp)
        clear hv
        have hK2 := hK.out
        clear hK
        simp only [Inr.putD, Inr.dst, List.foldl_cons, List.foldl_nil, List.getD_cons_zero, List.getD_cons_succ, Act.put, List.setIfInBounds_toArray, List.set_cons_zero, List.set_cons_succ] at hK2 ⊢
        have hK := Lib.hid hK2
        clear hK2
        generalize vs 11 = y11 at *
        generalize vs 12 = y12 at *
        generalize vs 13 = y13 at *
        have h11 : y11 = _ := h11
        subst h11
        have h12 : y12 = _ := h12
        subst h12
        have h13 : y13 = _ := h13
        subst h13
        simp only [Region.wanted, Inr.yieldedD, Inr.dst, List.getD_cons_zero, List.getD_cons_succ]
        go_simp
        refine hK.out _ _ (Eq.refl _) (Below.refl _ _) (Inr.noTies _ _ _ _ _)
      · intro vs w' hb hv K hK
        have h11 : (Inr.MP.is (.bool false)).p (vs 11) w' := hv 11 (by simp)
        have h14 : (Inr.MP.is (.pointer (some ⟨ga, j * 6, none⟩))).p (vs 14) w' := hv 14 (by simp)
        clear hv
        have hK2 := hK.out
        clear hK
        simp only [Inr.putD, Inr.dst, List.foldl_cons, List.foldl_nil, List.getD_cons_zero, List.getD_cons_succ, Act.put, List.setIfInBounds_toArray, List.set_cons_zero, List.set_cons_succ] at hK2 ⊢
        have hK := Lib.hid hK2
        clear hK2
        generalize vs 11 = y11 at *
        generalize vs 14 = y14 at *
        have h11 : y11 = _ := h11
        subst h11
        have h14 : y14 = _ := h14
        subst h14
        simp only [Region.wanted, Inr.yieldedD, Inr.dst, List.getD_cons_zero, List.getD_cons_succ]
        go_simp
        refine hK.out _ _ (Eq.refl _) (Below.refl _ _) (Inr.noTies _ _ _ _ _)
      · intro vs w' hb hv K hK
        have h11 : (Inr.MP.is (.bool false)).p (vs 11) w' := hv 11 (by simp)
        have h15 : (Inr.MP.is (.pointer (some ⟨ga, j * 6 + 1, none⟩))).p (vs 15) w' := hv 15 (by simp)
        clear hv
        have hK2 := hK.out
        clear hK
        simp only [Inr.putD, Inr.dst, List.foldl_cons, List.foldl_nil, List.getD_cons_zero, List.getD_cons_succ, Act.put, List.setIfInBounds_toArray, List.set_cons_zero, List.set_cons_succ] at hK2 ⊢
        have hK := Lib.hid hK2
        clear hK2
        generalize vs 11 = y11 at *
        generalize vs 15 = y15 at *
        have h11 : y11 = _ := h11
        subst h11
        have h15 : y15 = _ := h15
        subst h15
        obtain ⟨z0, z1, z2, z3, z4⟩ := E4.out.below hb E4.out.lt
        simp only [Region.wanted, Inr.yieldedD, Inr.dst, List.getD_cons_zero, List.getD_cons_succ]
        go_simp
        refine hK.out _ _ (Eq.refl _) (Below.refl _ _) (Inr.noTies _ _ _ _ _)
      · intro vs w' hb hv K hK
        have h11 : (Inr.MP.is (.bool false)).p (vs 11) w' := hv 11 (by simp)
        clear hv
        have hK2 := hK.out
        clear hK
        simp only [Inr.putD, Inr.dst, List.foldl_cons, List.foldl_nil, List.getD_cons_zero, List.getD_cons_succ, Act.put, List.setIfInBounds_toArray, List.set_cons_zero, List.set_cons_succ] at hK2 ⊢
        have hK := Lib.hid hK2
        clear hK2
        generalize vs 11 = y11 at *
        have h11 : y11 = _ := h11
        subst h11
        simp only [Region.wanted, Inr.yieldedD, Inr.dst, List.getD_cons_zero, List.getD_cons_succ]
        go_simp
        refine hK.out _ _ (Eq.refl _) (Below.refl _ _) (Inr.noTies _ _ _ _ _)
      · intro vs w' hb hv K hK
        have h11 : (Inr.MP.is (.bool false)).p (vs 11) w' := hv 11 (by simp)
        clear hv
        have hK2 := hK.out
        clear hK
        simp only [Inr.putD, Inr.dst, List.foldl_cons, List.foldl_nil, List.getD_cons_zero, List.getD_cons_succ, Act.put, List.setIfInBounds_toArray, List.set_cons_zero, List.set_cons_succ] at hK2 ⊢
        have hK := Lib.hid hK2
        clear hK2
        generalize vs 11 = y11 at *
        have h11 : y11 = _ := h11
        subst h11
        simp only [Region.wanted, Inr.yieldedD, Inr.dst, List.getD_cons_zero, List.getD_cons_succ]
        go_simp
        refine hK.out _ _ (Eq.refl _) (Below.refl _ _) (Inr.noTies _ _ _ _ _)
      · intro vs w' hb hv K hK
        have h11 : (Inr.MP.is (.bool false)).p (vs 11) w' := hv 11 (by simp)
        have h17 : (Inr.MP.is (.slice (some ⟨gb, 0, none⟩) len cb)).p (vs 17) w' := hv 17 (by simp)
        have h18 : (Inr.MP.is (.int .i64 j)).p (vs 18) w' := hv 18 (by simp)
        clear hv
        have hK2 := hK.out
        clear hK
        simp only [Inr.putD, Inr.dst, List.foldl_cons, List.foldl_nil, List.getD_cons_zero, List.getD_cons_succ, Act.put, List.setIfInBounds_toArray, List.set_cons_zero, List.set_cons_succ] at hK2 ⊢
        have hK := Lib.hid hK2
        clear hK2
        generalize vs 11 = y11 at *
        generalize vs 17 = y17 at *
        generalize vs 18 = y18 at *
        have h11 : y11 = _ := h11
        subst h11
        have h17 : y17 = _ := h17
        subst h17
        have h18 : y18 = _ := h18
        subst h18
        simp only [Region.wanted, Inr.yieldedD, Inr.dst, List.getD_cons_zero, List.getD_cons_succ]
        go_simp
        refine hK.out _ _ (Eq.refl _) (Below.refl _ _) (Inr.noTies _ _ _ _ _)
      · intro vs w' hb hv K hK
        have h11 : (Inr.MP.is (.bool false)).p (vs 11) w' := hv 11 (by simp)
        have h19 : (Inr.MP.is (.pointer (some ⟨gb, j * 6, none⟩))).p (vs 19) w' := hv 19 (by simp)
        clear hv
        have hK2 := hK.out
        clear hK
        simp only [Inr.putD, Inr.dst, List.foldl_cons, List.foldl_nil, List.getD_cons_zero, List.getD_cons_succ, Act.put, List.setIfInBounds_toArray, List.set_cons_zero, List.set_cons_succ] at hK2 ⊢
        have hK := Lib.hid hK2
        clear hK2
        generalize vs 11 = y11 at *
        generalize vs 19 = y19 at *
        have h11 : y11 = _ := h11
        subst h11
        have h19 : y19 = _ := h19
        subst h19
        simp only [Region.wanted, Inr.yieldedD, Inr.dst, List.getD_cons_zero, List.getD_cons_succ]
        go_simp
        refine hK.out _ _ (Eq.refl _) (Below.refl _ _) (Inr.noTies _ _ _ _ _)
      · intro vs w' hb hv K hK
        have h11 : (Inr.MP.is (.bool false)).p (vs 11) w' := hv 11 (by simp)
        have h20 : (Inr.MP.is (.pointer (some ⟨gb, j * 6 + 1, none⟩))).p (vs 20) w' := hv 20 (by simp)
        clear hv
        have hK2 := hK.out
        clear hK
        simp only [Inr.putD, Inr.dst, List.foldl_cons, List.foldl_nil, List.getD_cons_zero, List.getD_cons_succ, Act.put, List.setIfInBounds_toArray, List.set_cons_zero, List.set_cons_succ] at hK2 ⊢
        have hK := Lib.hid hK2
        clear hK2
        generalize vs 11 = y11 at *
        generalize vs 20 = y20 at *
        have h11 : y11 = _ := h11
        subst h11
        have h20 : y20 = _ := h20
        subst h20
        obtain ⟨z0, z1, z2, z3, z4⟩ := F4.out.below hb F4.out.lt
        simp only [Region.wanted, Inr.yieldedD, Inr.dst, List.getD_cons_zero, List.getD_cons_succ]
        go_simp
        refine hK.out _ _ (Eq.refl _) (Below.refl _ _) (Inr.noTies _ _ _ _ _)
      · intro vs w' hb hv K hK
        have h11 : (Inr.MP.is (.bool false)).p (vs 11) w' := hv 11 (by simp)
        have h16 : (Inr.MP.is (tv k1 p1 n1 N1 (.slice q1 l1 c1))).p (vs 16) w' := hv 16 (by simp)
        have h21 : (Inr.MP.is (tv k2 p2 n2 N2 (.slice q2 l2 c2))).p (vs 21) w' := hv 21 (by simp)
        clear hv
        have hK2 := hK.out
        clear hK
        simp only [Inr.putD, Inr.dst, List.foldl_cons, List.foldl_nil, List.getD_cons_zero, List.getD_cons_succ, Act.put, List.setIfInBounds_toArray, List.set_cons_zero, List.set_cons_succ] at hK2 ⊢
        have hK := Lib.hid hK2
        clear hK2
        generalize vs 11 = y11 at *
        generalize vs 16 = y16 at *
        generalize vs 21 = y21 at *
        have h11 : y11 = _ := h11
        subst h11
        have h16 : y16 = _ := h16
        subst h16
        have h21 : y21 = _ := h21
        subst h21
        simp only [Region.wanted, Inr.yieldedD, Inr.dst, List.getD_cons_zero, List.getD_cons_succ]
        go_simp
        ((with_reducible refine (refSame_any D _ _ xt xt w' (E5.out.below hb) (F5.out.below hb)).mono ?_); rintro e w3 ⟨rfl, hb3⟩)
        go_wp2_with fail
        refine hK.out _ _ (show Value.bool _ = Value.bool _ from congrArg Value.bool (same_self xt)) hb3 (Inr.noTies _ _ _ _ _)
      · intro vs w' hb hv K hK
        have h11 : (Inr.MP.is (.bool false)).p (vs 11) w' := hv 11 (by simp)
        have h22 : (Inr.MP.is (.bool true)).p (vs 22) w' := hv 22 (by simp)
        clear hv
        have hK2 := hK.out
        clear hK
        simp only [Inr.putD, Inr.dst, List.foldl_cons, List.foldl_nil, List.getD_cons_zero, List.getD_cons_succ, Act.put, List.setIfInBounds_toArray, List.set_cons_zero, List.set_cons_succ] at hK2 ⊢
        have hK := Lib.hid hK2
        clear hK2
        generalize vs 11 = y11 at *
        generalize vs 22 = y22 at *
        have h11 : y11 = _ := h11
        subst h11
        have h22 : y22 = _ := h22
        subst h22
        simp only [Region.wanted, Inr.yieldedD, Inr.dst, List.getD_cons_zero, List.getD_cons_succ]
        go_simp
        refine hK.out _ _ (Eq.refl _) (Below.refl _ _) (Inr.noTies _ _ _ _ _)
      · intro vs w' hb hv K hK
        have h11 : (Inr.MP.is (.bool false)).p (vs 11) w' := hv 11 (by simp)
        have h23 : (Inr.MP.is (.bool false)).p (vs 23) w' := hv 23 (by simp)
        clear hv
        have hK2 := hK.out
        clear hK
        simp only [Inr.putD, Inr.dst, List.foldl_cons, List.foldl_nil, List.getD_cons_zero, List.getD_cons_succ, Act.put, List.setIfInBounds_toArray, List.set_cons_zero, List.set_cons_succ] at hK2 ⊢
        have hK := Lib.hid hK2
        clear hK2
        generalize vs 11 = y11 at *
        generalize vs 23 = y23 at *
        have h11 : y11 = _ := h11
        subst h11
        have h23 : y23 = _ := h23
        subst h23
        simp only [Region.wanted, Inr.yieldedD, Inr.dst, List.getD_cons_zero, List.getD_cons_succ]
        go_simp
        refine hK.out _ _ (Eq.refl _) (Below.refl _ _) (Inr.noTies _ _ _ _ _)
      · have hl9 : vs 24 = .bool false := hv 24 (by omega)
        clear hv
        simp only [List.range, List.range.loop, Inr.putD, Inr.dst, List.foldl_cons, List.foldl_nil, List.getD_cons_zero, List.getD_cons_succ, Act.put, List.setIfInBounds_toArray, List.set_cons_zero, List.set_cons_succ]
        simp only [List.drop_succ_cons, List.drop_zero]
        generalize vs 0 = yy0 at *
        generalize vs 1 = yy1 at *
        generalize vs 2 = yy2 at *
        generalize vs 3 = yy3 at *
        generalize vs 4 = yy4 at *
        generalize vs 5 = yy5 at *
        generalize vs 6 = yy6 at *
        generalize vs 7 = yy7 at *
        generalize vs 8 = yy8 at *
        generalize vs 9 = yy9 at *
        generalize vs 10 = yy10 at *
        generalize vs 11 = yy11 at *
        generalize vs 12 = yy12 at *
        generalize vs 13 = yy13 at *
        generalize vs 14 = yy14 at *
        generalize vs 15 = yy15 at *
        generalize vs 16 = yy16 at *
        generalize vs 17 = yy17 at *
        generalize vs 18 = yy18 at *
        generalize vs 19 = yy19 at *
        generalize vs 20 = yy20 at *
        generalize vs 21 = yy21 at *
        generalize vs 22 = yy22 at *
        generalize vs 23 = yy23 at *
        generalize vs 24 = yy24 at *
        subst hl9
        have HQ := Lib.hid (HBL.out.trans (hbq.mono HBL.out.size))
        clear hbq hBL
        go_wp2
        go_roundw
        case rel => exact ⟨j + 1, by omega, by go_num, HQ.out⟩
        case measure => simp [intOf]; omega
    · obtain rfl : j = len := by omega
      go_wp2
      go_ret
      exact ⟨rfl, hBL⟩
end Go.Proofs.YtknbhnicmgglbaaDoor
