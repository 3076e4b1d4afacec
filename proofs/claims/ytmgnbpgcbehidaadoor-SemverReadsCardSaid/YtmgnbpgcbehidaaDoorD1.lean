/- SemverReads: its walk. -/
import Derived.Test.YtmgnbpgcbehidaaDoorB2
import Derived.Test.YtmgnbpgcbehidaaDoorC6
import Derived.Test.YtmgnbpgcbehidaaDoorC9
import Derived.Test.YtmgnbpgcbehidaaDoorM5
import Derived.Deep.RegionHeld3
import Derived.Outline
import Derived.Deep.DeepCutAuto
namespace Go.Proofs.YtmgnbpgcbehidaaDoor
open Go.RowKit
set_option maxRecDepth 100000 in
theorem reads_long (s : ByteArray) (x : Sv.V) (hl : 1000 < s.size) (w : World) : Calls Tryd.prog 3 #[.string s, vv x] w fun e w' => e = .returned (.bool true) ∧ Below w.heap.size w w' := by
  have d1 : decide (1000 < (s.size : Int)) = true := by simp; omega
  have HB0 : RowKit.Hid (Below w.heap.size w (w.alloc (.cells #[.int .i64 x.a, .int .i64 x.b, .int .i64 x.c] 23))) := Lib.hid (below_alloc w _)
  go_enter Tryd.func3, Tryd.ntmps3
  go_wp2_with (go_at_call 4; ((with_reducible refine (alive_ok _).mono ?_); rintro e w1 ⟨rfl, hb⟩))
  go_ret
  exact ⟨rfl, HB0.out.trans (hb.mono HB0.out.size)⟩
theorem print_size (x : Sv.V) : (Sv.printS x).size ≤ 4194304 := by
  rcases Bool.eq_false_or_eq_true (Sv.right x) with hr | hr
  · obtain ⟨⟨a0, a1⟩, ⟨b0, b1⟩, ⟨c0, c1⟩⟩ := Sv.right_yes hr
    rw [Sv.print_yes hr, ← data_len]
    have s1 := Sv.dg_len a0 a1
    have s2 := Sv.dg_len b0 b1
    have s3 := Sv.dg_len c0 c1
    show (Sv.txt x).length ≤ _
    unfold Sv.txt
    simp only [List.length_append, List.length_singleton]
    omega
  · rw [Sv.print_no hr]; exact Nat.zero_le _
set_option maxRecDepth 100000 in
set_option maxHeartbeats 8000000 in
theorem reads_walk (s : ByteArray) (x : Sv.V) (hl : s.size ≤ 1000) (w : World) (ht : Tab w) : Calls Tryd.prog 3 #[.string s, vv x] w fun e w' => e = .returned (.bool true) ∧ Below w.heap.size w w' := by
  have hm : s.size ≤ 4194304 := by omega
  have d1 : decide (1000 < (s.size : Int)) = false := by simp; omega
  have H5 := Lib.hid (parse_any s hm)
  have H6 := Lib.hid (refParse_any s hm)
  have H7 := Lib.hid (pin_any s hm)
  have H8 := Lib.hid (refPin_any s hm)
  have HE : RowKit.Hid (((Sv.parseS s).2 = 0 ∧ Sv.printS (Sv.parseS s).1 = s) ∨ (Sv.parseS s).2 = 10) := Lib.hid (by
    rcases Bool.eq_false_or_eq_true (Sv.okS s) with ho | ho
    · exact .inl ⟨by rw [parse_good ho], Sv.print_parse ho⟩
    · exact .inr (by rw [parse_fail ho]))
  generalize Sv.parseS s = P at *
  generalize Sv.pinV s = Q at *
  obtain ⟨⟨a1, a2, a3⟩, pe⟩ := P
  obtain ⟨pk, ⟨p1, p2, p3⟩, pg⟩ := Q
  have hb1 := hb_new w (.cells #[.int .i64 x.a, .int .i64 x.b, .int .i64 x.c] 23)
  have HB := Lib.hid hb1
  have HB0 : RowKit.Hid (Below w.heap.size w (w.alloc (.cells #[.int .i64 x.a, .int .i64 x.b, .int .i64 x.c] 23))) := Lib.hid (below_alloc w _)
  have HTAB := Lib.hid ht
  clear hb1 ht hl
  go_enter Tryd.func3, Tryd.ntmps3
  go_upto_region 7 with (first
    | (go_at_call 5; ((with_reducible refine (H5.out _).mono ?_); rintro e w1 ⟨rfl, hb1⟩))
    | (go_at_call 6; ((with_reducible refine (H6.out _).mono ?_); rintro e w2 ⟨rfl, hb2⟩))
    | (go_at_call 7; ((with_reducible refine (H7.out _).mono ?_); rintro e w3 ⟨rfl, hb3⟩))
    | (go_at_call 8; ((with_reducible refine (H8.out _).mono ?_); rintro e w4 ⟨rfl, hb4⟩)))
  have z1 := hb1.size
  have z2 := hb2.size
  have z3 := hb3.size
  have z4 := hb4.size
  simp only [World.size_alloc] at z1 z2 z3 z4
  have k31 := hb_alloc (hb_below HB.out hb1 (by simp)) (.cells #[.int .i64 a1, .int .i64 a2, .int .i64 a3] 23)
  have k51 := hb_new w1 (.cells #[.int .i64 a1, .int .i64 a2, .int .i64 a3] 23)
  have k32 := hb_alloc (hb_below k31 hb2 (by simp; omega)) (.cells #[.int .i64 a1, .int .i64 a2, .int .i64 a3] 23)
  have k52 := hb_alloc (hb_below k51 hb2 (by simp)) (.cells #[.int .i64 a1, .int .i64 a2, .int .i64 a3] 23)
  have k72 := hb_new w2 (.cells #[.int .i64 a1, .int .i64 a2, .int .i64 a3] 23)
  have k33 := hb_alloc (hb_below k32 hb3 (by simp; omega)) (.cells #[.string pk, .int .i64 p1, .int .i64 p2, .int .i64 p3] 31)
  have k53 := hb_alloc (hb_below k52 hb3 (by simp; omega)) (.cells #[.string pk, .int .i64 p1, .int .i64 p2, .int .i64 p3] 31)
  have k73 := hb_alloc (hb_below k72 hb3 (by simp)) (.cells #[.string pk, .int .i64 p1, .int .i64 p2, .int .i64 p3] 31)
  have k93 := hb_new w3 (.cells #[.string pk, .int .i64 p1, .int .i64 p2, .int .i64 p3] 31)
  have K3 := Lib.hid (hb_alloc (hb_below k33 hb4 (by simp; omega)) (.cells #[.string pk, .int .i64 p1, .int .i64 p2, .int .i64 p3] 31))
  have K5 := Lib.hid (hb_alloc (hb_below k53 hb4 (by simp; omega)) (.cells #[.string pk, .int .i64 p1, .int .i64 p2, .int .i64 p3] 31))
  have K7 := Lib.hid (hb_alloc (hb_below k73 hb4 (by simp; omega)) (.cells #[.string pk, .int .i64 p1, .int .i64 p2, .int .i64 p3] 31))
  have K9 := Lib.hid (hb_alloc (hb_below k93 hb4 (by simp)) (.cells #[.string pk, .int .i64 p1, .int .i64 p2, .int .i64 p3] 31))
  have K11 := Lib.hid (hb_new w4 (.cells #[.string pk, .int .i64 p1, .int .i64 p2, .int .i64 p3] 31))
  have hB1 : Below w.heap.size w w1 := HB0.out.trans (hb1.mono (by simp))
  have hB1a := hB1.alloc hB1.size (.cells #[.int .i64 a1, .int .i64 a2, .int .i64 a3] 23)
  have hB2 : Below w.heap.size w w2 := hB1a.trans (hb2.mono hB1a.size)
  have hB2a := hB2.alloc hB2.size (.cells #[.int .i64 a1, .int .i64 a2, .int .i64 a3] 23)
  have hB3 : Below w.heap.size w w3 := hB2a.trans (hb3.mono hB2a.size)
  have hB3a := hB3.alloc hB3.size (.cells #[.string pk, .int .i64 p1, .int .i64 p2, .int .i64 p3] 31)
  have hB4 : Below w.heap.size w w4 := hB3a.trans (hb4.mono hB3a.size)
  have HBU := Lib.hid (hB4.alloc hB4.size (.cells #[.string pk, .int .i64 p1, .int .i64 p2, .int .i64 p3] 31))
  clear hb1 hb2 hb3 hb4 z1 z2 z3 z4 k31 k51 k32 k52 k72 k33 k53 k73 k93 hB1 hB1a hB2 hB2a hB3 hB3a hB4
  generalize hU : w4.alloc (.cells #[.string pk, .int .i64 p1, .int .i64 p2, .int .i64 p3] 31) = U at *
  clear hU
  have HPV : RowKit.Hid (∀ W, Below U.heap.size U W → Calls Tryd.prog 10 #[vv x] W fun e w' => e = .returned (.string (Sv.printS x)) ∧ Below W.heap.size W w') := Lib.hid (fun W h => print_any x W (HTAB.out.on (HBU.out.trans (h.mono HBU.out.size))))
  have HPA : RowKit.Hid (∀ W, Below U.heap.size U W → Calls Tryd.prog 10 #[.agg #[.int .i64 a1, .int .i64 a2, .int .i64 a3]] W fun e w' => e = .returned (.string (Sv.printS ⟨a1, a2, a3⟩)) ∧ Below W.heap.size W w') := Lib.hid (fun W h => print_any ⟨a1, a2, a3⟩ W (HTAB.out.on (HBU.out.trans (h.mono HBU.out.size))))
  have HRP := Lib.hid (refPrint_any x)
  have HRV := Lib.hid (right_any x)
  have HRR := Lib.hid (refRight_any x)
  have HIP := Lib.hid (isPkg_any s)
  have HRI := Lib.hid (refIsPkg_any s hm)
  have HPB := Lib.hid (fun (h : Sv.right x = true) => (Sv.parse_print h))
  have HPN := Lib.hid (fun (h : Sv.right x = false) => (Sv.print_no h))
  have HPS := Lib.hid (print_size x)
  have v0 := hb_at K3.out 0 rfl
  have v1 := hb_at K3.out 1 rfl
  have v2 := hb_at K3.out 2 rfl
  have c0 := hb_at K5.out 0 rfl
  have c1 := hb_at K5.out 1 rfl
  have c2 := hb_at K5.out 2 rfl
  have e0 := hb_at K7.out 0 rfl
  have e1 := hb_at K7.out 1 rfl
  have e2 := hb_at K7.out 2 rfl
  have g0 := hb_at K9.out 0 rfl
  have g1 := hb_at K9.out 1 rfl
  have g2 := hb_at K9.out 2 rfl
  have g3 := hb_at K9.out 3 rfl
  have q0 := hb_at K11.out 0 rfl
  have q1 := hb_at K11.out 1 rfl
  have q2 := hb_at K11.out 2 rfl
  have q3 := hb_at K11.out 3 rfl
  refine wp_region_held_drew (S := (fun w' => RowKit.Hid (Below U.heap.size U w') ∧ w'.cell? ⟨w.heap.size, 0, none⟩ = some (.int .i64 x.a) ∧ w'.cell? ⟨w.heap.size, 1, none⟩ = some (.int .i64 x.b) ∧ w'.cell? ⟨w.heap.size, 2, none⟩ = some (.int .i64 x.c) ∧ w'.cell? ⟨w1.heap.size, 0, none⟩ = some (.int .i64 a1) ∧ w'.cell? ⟨w1.heap.size, 1, none⟩ = some (.int .i64 a2) ∧ w'.cell? ⟨w1.heap.size, 2, none⟩ = some (.int .i64 a3) ∧ w'.cell? ⟨w2.heap.size, 0, none⟩ = some (.int .i64 a1) ∧ w'.cell? ⟨w2.heap.size, 1, none⟩ = some (.int .i64 a2) ∧ w'.cell? ⟨w2.heap.size, 2, none⟩ = some (.int .i64 a3) ∧ w'.cell? ⟨w3.heap.size, 0, none⟩ = some (.string pk) ∧ w'.cell? ⟨w3.heap.size, 1, none⟩ = some (.int .i64 p1) ∧ w'.cell? ⟨w3.heap.size, 2, none⟩ = some (.int .i64 p2) ∧ w'.cell? ⟨w3.heap.size, 3, none⟩ = some (.int .i64 p3) ∧ w'.cell? ⟨w4.heap.size, 0, none⟩ = some (.string pk) ∧ w'.cell? ⟨w4.heap.size, 1, none⟩ = some (.int .i64 p1) ∧ w'.cell? ⟨w4.heap.size, 2, none⟩ = some (.int .i64 p2) ∧ w'.cell? ⟨w4.heap.size, 3, none⟩ = some (.int .i64 p3))) (by kernel_rfl) (by exact ⟨Lib.hid (below_drewN (Below.refl _ _) 1), v0, v1, v2, c0, c1, c2, e0, e1, e2, g0, g1, g2, g3, q0, q1, q2, q3⟩) (fun hHeld => ?_)
  refine wpAnyH_take (i := 0) (oi := ⟨some 39, _, _, _, _, _⟩) (v := ?_) rfl (by kernel_rfl) (by kernel_rfl) (by kernel_rfl) (fun _ _ _ h => h) (Or.inl ⟨by rfl, ?_⟩) (by assumption) ?_
  rotate_left
  focus (intro w hSw; (try dsimp only at hSw); go_simp; first | done | with_reducible rfl)
  try simp only [Act.put, List.setIfInBounds_toArray, List.set_cons_zero, List.set_cons_succ]
  refine wpAnyH_take (i := 1) (oi := ⟨some 40, _, _, _, _, _⟩) (v := ?_) rfl (by kernel_rfl) (by kernel_rfl) (by kernel_rfl) (fun _ _ _ h => h) (Or.inl ⟨by rfl, ?_⟩) (by assumption) ?_
  rotate_left
  focus (intro w hSw; (try dsimp only at hSw); go_simp; first | done | with_reducible rfl)
  try simp only [Act.put, List.setIfInBounds_toArray, List.set_cons_zero, List.set_cons_succ]
  refine wpAnyH_take (i := 2) (oi := ⟨some 41, _, _, _, _, _⟩) (v := ?_) rfl (by kernel_rfl) (by kernel_rfl) (by kernel_rfl) (fun _ _ _ h => h) (Or.inl ⟨by rfl, ?_⟩) (by assumption) ?_
  rotate_left
  focus (intro w hSw; (try dsimp only at hSw); go_simp; first | done | with_reducible rfl)
  try simp only [Act.put, List.setIfInBounds_toArray, List.set_cons_zero, List.set_cons_succ]
  refine wpAnyH_take (i := 3) (oi := ⟨some 42, _, _, _, _, _⟩) (v := ?_) rfl (by kernel_rfl) (by kernel_rfl) (by kernel_rfl) (fun _ _ _ h => h) (Or.inl ⟨by rfl, ?_⟩) (by assumption) ?_
  rotate_left
  focus (intro w hSw; (try dsimp only at hSw); go_simp; first | done | with_reducible rfl)
  try simp only [Act.put, List.setIfInBounds_toArray, List.set_cons_zero, List.set_cons_succ]
  refine wpAnyH_take (i := 4) (oi := ⟨some 43, _, _, _, _, _⟩) (v := ?_) rfl (by kernel_rfl) (by kernel_rfl) (by kernel_rfl) (fun _ _ _ h => h) (Or.inl ⟨by rfl, ?_⟩) (by assumption) ?_
  rotate_left
  focus (intro w hSw; (try dsimp only at hSw); go_simp; first | done | with_reducible rfl)
  try simp only [Act.put, List.setIfInBounds_toArray, List.set_cons_zero, List.set_cons_succ]
  refine wpAnyH_take (i := 6) (oi := ⟨some 45, _, _, _, _, _⟩) (v := ?_) rfl (by kernel_rfl) (by kernel_rfl) (by kernel_rfl) (fun _ _ _ h => h) (Or.inl ⟨by rfl, ?_⟩) (by assumption) ?_
  rotate_left
  focus (intro w hSw; (try dsimp only at hSw); go_simp; first | done | with_reducible rfl)
  try simp only [Act.put, List.setIfInBounds_toArray, List.set_cons_zero, List.set_cons_succ]
  refine wpAnyH_ready (rs := [5]) (by kernel_rfl) (by simp) ?_
  refine AllReadyH.cons (o := ⟨some 44, _, _, _, _, _⟩) rfl (fun K hK => ?_) AllReadyH.nil
  go_simp
  ((with_reducible refine (no_any _ _).mono ?_); rintro e wz ⟨rfl, rfl⟩; have hb := True.intro)
  go_wp2_with fail
  refine hK.out _ _ (by exact hHeld) (fun hNew => ?_)
  clear hK K
  clear hHeld hb; have hHeld := hNew; clear hNew
  try simp only [Act.put, List.setIfInBounds_toArray, List.set_cons_zero, List.set_cons_succ]
  refine wpAnyH_take (i := 7) (oi := ⟨some 46, _, _, _, _, _⟩) (v := ?_) rfl (by kernel_rfl) (by kernel_rfl) (by kernel_rfl) (fun _ _ _ h => h) (Or.inl ⟨by rfl, ?_⟩) (by assumption) ?_
  rotate_left
  focus (intro w hSw; (try dsimp only at hSw); go_simp; first | done | with_reducible rfl)
  try simp only [Act.put, List.setIfInBounds_toArray, List.set_cons_zero, List.set_cons_succ]
  refine wpAnyH_take (i := 8) (oi := ⟨some 47, _, _, _, _, _⟩) (v := ?_) rfl (by kernel_rfl) (by kernel_rfl) (by kernel_rfl) (fun _ _ _ h => h) (Or.inl ⟨by rfl, ?_⟩) (by assumption) ?_
  rotate_left
  focus (intro w hSw; (try dsimp only at hSw); go_simp; first | done | with_reducible rfl)
  try simp only [Act.put, List.setIfInBounds_toArray, List.set_cons_zero, List.set_cons_succ]
  refine wpAnyH_take (i := 9) (oi := ⟨some 48, _, _, _, _, _⟩) (v := ?_) rfl (by kernel_rfl) (by kernel_rfl) (by kernel_rfl) (fun _ _ _ h => h) (Or.inl ⟨by rfl, ?_⟩) (by assumption) ?_
  rotate_left
  focus (intro w hSw; (try dsimp only at hSw); go_simp; first | done | with_reducible rfl)
  try simp only [Act.put, List.setIfInBounds_toArray, List.set_cons_zero, List.set_cons_succ]
  refine wpAnyH_take (i := 10) (oi := ⟨some 49, _, _, _, _, _⟩) (v := ?_) rfl (by kernel_rfl) (by kernel_rfl) (by kernel_rfl) (fun _ _ _ h => h) (Or.inl ⟨by rfl, ?_⟩) (by assumption) ?_
  rotate_left
  focus (intro w hSw; (try dsimp only at hSw); go_simp; first | done | with_reducible rfl)
  try simp only [Act.put, List.setIfInBounds_toArray, List.set_cons_zero, List.set_cons_succ]
  refine wpAnyH_take (i := 11) (oi := ⟨some 50, _, _, _, _, _⟩) (v := ?_) rfl (by kernel_rfl) (by kernel_rfl) (by kernel_rfl) (fun _ _ _ h => h) (Or.inl ⟨by rfl, ?_⟩) (by assumption) ?_
  rotate_left
  focus (intro w hSw; (try dsimp only at hSw); go_simp; first | done | with_reducible rfl)
  try simp only [Act.put, List.setIfInBounds_toArray, List.set_cons_zero, List.set_cons_succ]
  refine wpAnyH_take (i := 12) (oi := ⟨some 51, _, _, _, _, _⟩) (v := ?_) rfl (by kernel_rfl) (by kernel_rfl) (by kernel_rfl) (fun _ _ _ h => h) (Or.inl ⟨by rfl, ?_⟩) (by assumption) ?_
  rotate_left
  focus (intro w hSw; (try dsimp only at hSw); go_simp; first | done | with_reducible rfl)
  try simp only [Act.put, List.setIfInBounds_toArray, List.set_cons_zero, List.set_cons_succ]
  refine wpAnyH_take (i := 13) (oi := ⟨some 52, _, _, _, _, _⟩) (v := ?_) rfl (by kernel_rfl) (by kernel_rfl) (by kernel_rfl) (fun _ _ _ h => h) (Or.inl ⟨by rfl, ?_⟩) (by assumption) ?_
  rotate_left
  focus (intro w hSw; (try dsimp only at hSw); go_simp; first | done | with_reducible rfl)
  try simp only [Act.put, List.setIfInBounds_toArray, List.set_cons_zero, List.set_cons_succ]
  refine wpAnyH_take (i := 14) (oi := ⟨some 53, _, _, _, _, _⟩) (v := ?_) rfl (by kernel_rfl) (by kernel_rfl) (by kernel_rfl) (fun _ _ _ h => h) (Or.inl ⟨by rfl, ?_⟩) (by assumption) ?_
  rotate_left
  focus (intro w hSw; (try dsimp only at hSw); go_simp; first | done | with_reducible rfl)
  try simp only [Act.put, List.setIfInBounds_toArray, List.set_cons_zero, List.set_cons_succ]
  refine wpAnyH_take (i := 15) (oi := ⟨some 54, _, _, _, _, _⟩) (v := ?_) rfl (by kernel_rfl) (by kernel_rfl) (by kernel_rfl) (fun _ _ _ h => h) (Or.inl ⟨by rfl, ?_⟩) (by assumption) ?_
  rotate_left
  focus (intro w hSw; (try dsimp only at hSw); go_simp; first | done | with_reducible rfl)
  try simp only [Act.put, List.setIfInBounds_toArray, List.set_cons_zero, List.set_cons_succ]
  refine wpAnyH_take (i := 17) (oi := ⟨some 56, _, _, _, _, _⟩) (v := ?_) rfl (by kernel_rfl) (by kernel_rfl) (by kernel_rfl) (fun _ _ _ h => h) (Or.inl ⟨by rfl, ?_⟩) (by assumption) ?_
  rotate_left
  focus (intro w hSw; (try dsimp only at hSw); go_simp; first | done | with_reducible rfl)
  try simp only [Act.put, List.setIfInBounds_toArray, List.set_cons_zero, List.set_cons_succ]
  refine wpAnyH_ready (rs := [16]) (by kernel_rfl) (by simp) ?_
  refine AllReadyH.cons (o := ⟨some 55, _, _, _, _, _⟩) rfl (fun K hK => ?_) AllReadyH.nil
  go_simp
  ((with_reducible refine (no_any _ _).mono ?_); rintro e wz ⟨rfl, rfl⟩; have hb := True.intro)
  go_wp2_with fail
  refine hK.out _ _ (by exact hHeld) (fun hNew => ?_)
  clear hK K
  clear hHeld hb; have hHeld := hNew; clear hNew
  try simp only [Act.put, List.setIfInBounds_toArray, List.set_cons_zero, List.set_cons_succ]
  refine wpAnyH_take (i := 18) (oi := ⟨some 57, _, _, _, _, _⟩) (v := ?_) rfl (by kernel_rfl) (by kernel_rfl) (by kernel_rfl) (fun _ _ _ h => h) (Or.inl ⟨by rfl, ?_⟩) (by assumption) ?_
  rotate_left
  focus (intro w hSw; (try dsimp only at hSw); go_simp; first | done | with_reducible rfl)
  try simp only [Act.put, List.setIfInBounds_toArray, List.set_cons_zero, List.set_cons_succ]
  refine wpAnyH_take (i := 19) (oi := ⟨some 58, _, _, _, _, _⟩) (v := ?_) rfl (by kernel_rfl) (by kernel_rfl) (by kernel_rfl) (fun _ _ _ h => h) (Or.inl ⟨by rfl, ?_⟩) (by assumption) ?_
  rotate_left
  focus (intro w hSw; (try dsimp only at hSw); go_simp; first | done | with_reducible rfl)
  try simp only [Act.put, List.setIfInBounds_toArray, List.set_cons_zero, List.set_cons_succ]
  refine wpAnyH_take (i := 20) (oi := ⟨some 59, _, _, _, _, _⟩) (v := ?_) rfl (by kernel_rfl) (by kernel_rfl) (by kernel_rfl) (fun _ _ _ h => h) (Or.inl ⟨by rfl, ?_⟩) (by assumption) ?_
  rotate_left
  focus (intro w hSw; (try dsimp only at hSw); go_simp; first | done | with_reducible rfl)
  try simp only [Act.put, List.setIfInBounds_toArray, List.set_cons_zero, List.set_cons_succ]
  refine wpAnyH_take (i := 21) (oi := ⟨some 60, _, _, _, _, _⟩) (v := ?_) rfl (by kernel_rfl) (by kernel_rfl) (by kernel_rfl) (fun _ _ _ h => h) (Or.inl ⟨by rfl, ?_⟩) (by assumption) ?_
  rotate_left
  focus (intro w hSw; (try dsimp only at hSw); go_simp; first | done | with_reducible rfl)
  try simp only [Act.put, List.setIfInBounds_toArray, List.set_cons_zero, List.set_cons_succ]
  refine wpAnyH_take (i := 23) (oi := ⟨some 62, _, _, _, _, _⟩) (v := ?_) rfl (by kernel_rfl) (by kernel_rfl) (by kernel_rfl) (fun _ _ _ h => h) (Or.inl ⟨by rfl, ?_⟩) (by assumption) ?_
  rotate_left
  focus (intro w hSw; (try dsimp only at hSw); go_simp; first | done | with_reducible rfl)
  try simp only [Act.put, List.setIfInBounds_toArray, List.set_cons_zero, List.set_cons_succ]
  refine wpAnyH_ready (rs := [22]) (by kernel_rfl) (by simp) ?_
  refine AllReadyH.cons (o := ⟨some 61, _, _, _, _, _⟩) rfl (fun K hK => ?_) AllReadyH.nil
  go_simp
  ((with_reducible refine (HPV.out _ hHeld.1.out).mono ?_); rintro e wz ⟨rfl, hb⟩)
  go_wp2_with fail
  refine hK.out _ _ (by exact ⟨Lib.hid (hHeld.1.out.trans (hb.mono hHeld.1.out.size)), keep_cell hb hHeld.2.1, keep_cell hb hHeld.2.2.1, keep_cell hb hHeld.2.2.2.1, keep_cell hb hHeld.2.2.2.2.1, keep_cell hb hHeld.2.2.2.2.2.1, keep_cell hb hHeld.2.2.2.2.2.2.1, keep_cell hb hHeld.2.2.2.2.2.2.2.1, keep_cell hb hHeld.2.2.2.2.2.2.2.2.1, keep_cell hb hHeld.2.2.2.2.2.2.2.2.2.1, keep_cell hb hHeld.2.2.2.2.2.2.2.2.2.2.1, keep_cell hb hHeld.2.2.2.2.2.2.2.2.2.2.2.1, keep_cell hb hHeld.2.2.2.2.2.2.2.2.2.2.2.2.1, keep_cell hb hHeld.2.2.2.2.2.2.2.2.2.2.2.2.2.1, keep_cell hb hHeld.2.2.2.2.2.2.2.2.2.2.2.2.2.2.1, keep_cell hb hHeld.2.2.2.2.2.2.2.2.2.2.2.2.2.2.2.1, keep_cell hb hHeld.2.2.2.2.2.2.2.2.2.2.2.2.2.2.2.2.1, keep_cell hb hHeld.2.2.2.2.2.2.2.2.2.2.2.2.2.2.2.2.2⟩) (fun hNew => ?_)
  clear hK K
  clear hHeld hb; have hHeld := hNew; clear hNew
  try simp only [Act.put, List.setIfInBounds_toArray, List.set_cons_zero, List.set_cons_succ]
  refine wpAnyH_ready (rs := [24]) (by kernel_rfl) (by simp) ?_
  refine AllReadyH.cons (o := ⟨some 63, _, _, _, _, _⟩) rfl (fun K hK => ?_) AllReadyH.nil
  go_simp
  ((with_reducible refine (HRP.out _).mono ?_); rintro e wz ⟨rfl, hb⟩)
  go_wp2_with fail
  refine hK.out _ _ (by exact ⟨Lib.hid (hHeld.1.out.trans (hb.mono hHeld.1.out.size)), keep_cell hb hHeld.2.1, keep_cell hb hHeld.2.2.1, keep_cell hb hHeld.2.2.2.1, keep_cell hb hHeld.2.2.2.2.1, keep_cell hb hHeld.2.2.2.2.2.1, keep_cell hb hHeld.2.2.2.2.2.2.1, keep_cell hb hHeld.2.2.2.2.2.2.2.1, keep_cell hb hHeld.2.2.2.2.2.2.2.2.1, keep_cell hb hHeld.2.2.2.2.2.2.2.2.2.1, keep_cell hb hHeld.2.2.2.2.2.2.2.2.2.2.1, keep_cell hb hHeld.2.2.2.2.2.2.2.2.2.2.2.1, keep_cell hb hHeld.2.2.2.2.2.2.2.2.2.2.2.2.1, keep_cell hb hHeld.2.2.2.2.2.2.2.2.2.2.2.2.2.1, keep_cell hb hHeld.2.2.2.2.2.2.2.2.2.2.2.2.2.2.1, keep_cell hb hHeld.2.2.2.2.2.2.2.2.2.2.2.2.2.2.2.1, keep_cell hb hHeld.2.2.2.2.2.2.2.2.2.2.2.2.2.2.2.2.1, keep_cell hb hHeld.2.2.2.2.2.2.2.2.2.2.2.2.2.2.2.2.2⟩) (fun hNew => ?_)
  clear hK K
  clear hHeld hb; have hHeld := hNew; clear hNew
  try simp only [Act.put, List.setIfInBounds_toArray, List.set_cons_zero, List.set_cons_succ]
  refine wpAnyH_take (i := 25) (oi := ⟨some 64, _, _, _, _, _⟩) (v := ?_) rfl (by kernel_rfl) (by kernel_rfl) (by kernel_rfl) (fun _ _ _ h => h) (Or.inl ⟨by rfl, ?_⟩) (by assumption) ?_
  rotate_left
  focus (intro w hSw; (try dsimp only at hSw); go_simp; first | done | with_reducible rfl)
  try simp only [Act.put, List.setIfInBounds_toArray, List.set_cons_zero, List.set_cons_succ]
  refine wpAnyH_take (i := 26) (oi := ⟨some 65, _, _, _, _, _⟩) (v := ?_) rfl (by kernel_rfl) (by kernel_rfl) (by kernel_rfl) (fun _ _ _ h => h) (Or.inl ⟨by rfl, ?_⟩) (by assumption) ?_
  rotate_left
  focus (intro w hSw; (try dsimp only at hSw); go_simp; first | done | with_reducible rfl)
  try simp only [Act.put, List.setIfInBounds_toArray, List.set_cons_zero, List.set_cons_succ]
  refine wpAnyH_take (i := 27) (oi := ⟨some 66, _, _, _, _, _⟩) (v := ?_) rfl (by kernel_rfl) (by kernel_rfl) (by kernel_rfl) (fun _ _ _ h => h) (Or.inl ⟨by rfl, ?_⟩) (by assumption) ?_
  rotate_left
  focus (intro w hSw; (try dsimp only at hSw); go_simp; first | done | with_reducible rfl)
  try simp only [Act.put, List.setIfInBounds_toArray, List.set_cons_zero, List.set_cons_succ]
  refine wpAnyH_take (i := 28) (oi := ⟨some 67, _, _, _, _, _⟩) (v := ?_) rfl (by kernel_rfl) (by kernel_rfl) (by kernel_rfl) (fun _ _ _ h => h) (Or.inl ⟨by rfl, ?_⟩) (by assumption) ?_
  rotate_left
  focus (intro w hSw; (try dsimp only at hSw); go_simp; first | done | with_reducible rfl)
  try simp only [Act.put, List.setIfInBounds_toArray, List.set_cons_zero, List.set_cons_succ]
  refine wpAnyH_take (i := 30) (oi := ⟨some 69, _, _, _, _, _⟩) (v := ?_) rfl (by kernel_rfl) (by kernel_rfl) (by kernel_rfl) (fun _ _ _ h => h) (Or.inl ⟨by rfl, ?_⟩) (by assumption) ?_
  rotate_left
  focus (intro w hSw; (try dsimp only at hSw); go_simp; first | done | with_reducible rfl)
  try simp only [Act.put, List.setIfInBounds_toArray, List.set_cons_zero, List.set_cons_succ]
  refine wpAnyH_ready (rs := [29]) (by kernel_rfl) (by simp) ?_
  refine AllReadyH.cons (o := ⟨some 68, _, _, _, _, _⟩) rfl (fun K hK => ?_) AllReadyH.nil
  go_simp
  ((with_reducible refine (HRV.out _).mono ?_); rintro e wz ⟨rfl, hb⟩)
  go_wp2_with fail
  refine hK.out _ _ (by exact ⟨Lib.hid (hHeld.1.out.trans (hb.mono hHeld.1.out.size)), keep_cell hb hHeld.2.1, keep_cell hb hHeld.2.2.1, keep_cell hb hHeld.2.2.2.1, keep_cell hb hHeld.2.2.2.2.1, keep_cell hb hHeld.2.2.2.2.2.1, keep_cell hb hHeld.2.2.2.2.2.2.1, keep_cell hb hHeld.2.2.2.2.2.2.2.1, keep_cell hb hHeld.2.2.2.2.2.2.2.2.1, keep_cell hb hHeld.2.2.2.2.2.2.2.2.2.1, keep_cell hb hHeld.2.2.2.2.2.2.2.2.2.2.1, keep_cell hb hHeld.2.2.2.2.2.2.2.2.2.2.2.1, keep_cell hb hHeld.2.2.2.2.2.2.2.2.2.2.2.2.1, keep_cell hb hHeld.2.2.2.2.2.2.2.2.2.2.2.2.2.1, keep_cell hb hHeld.2.2.2.2.2.2.2.2.2.2.2.2.2.2.1, keep_cell hb hHeld.2.2.2.2.2.2.2.2.2.2.2.2.2.2.2.1, keep_cell hb hHeld.2.2.2.2.2.2.2.2.2.2.2.2.2.2.2.2.1, keep_cell hb hHeld.2.2.2.2.2.2.2.2.2.2.2.2.2.2.2.2.2⟩) (fun hNew => ?_)
  clear hK K
  clear hHeld hb; have hHeld := hNew; clear hNew
  try simp only [Act.put, List.setIfInBounds_toArray, List.set_cons_zero, List.set_cons_succ]
  refine wpAnyH_ready (rs := [31]) (by kernel_rfl) (by simp) ?_
  refine AllReadyH.cons (o := ⟨some 70, _, _, _, _, _⟩) rfl (fun K hK => ?_) AllReadyH.nil
  go_simp
  ((with_reducible refine (HRR.out _).mono ?_); rintro e wz ⟨rfl, hb⟩)
  go_wp2_with fail
  refine hK.out _ _ (by exact ⟨Lib.hid (hHeld.1.out.trans (hb.mono hHeld.1.out.size)), keep_cell hb hHeld.2.1, keep_cell hb hHeld.2.2.1, keep_cell hb hHeld.2.2.2.1, keep_cell hb hHeld.2.2.2.2.1, keep_cell hb hHeld.2.2.2.2.2.1, keep_cell hb hHeld.2.2.2.2.2.2.1, keep_cell hb hHeld.2.2.2.2.2.2.2.1, keep_cell hb hHeld.2.2.2.2.2.2.2.2.1, keep_cell hb hHeld.2.2.2.2.2.2.2.2.2.1, keep_cell hb hHeld.2.2.2.2.2.2.2.2.2.2.1, keep_cell hb hHeld.2.2.2.2.2.2.2.2.2.2.2.1, keep_cell hb hHeld.2.2.2.2.2.2.2.2.2.2.2.2.1, keep_cell hb hHeld.2.2.2.2.2.2.2.2.2.2.2.2.2.1, keep_cell hb hHeld.2.2.2.2.2.2.2.2.2.2.2.2.2.2.1, keep_cell hb hHeld.2.2.2.2.2.2.2.2.2.2.2.2.2.2.2.1, keep_cell hb hHeld.2.2.2.2.2.2.2.2.2.2.2.2.2.2.2.2.1, keep_cell hb hHeld.2.2.2.2.2.2.2.2.2.2.2.2.2.2.2.2.2⟩) (fun hNew => ?_)
  clear hK K
  clear hHeld hb; have hHeld := hNew; clear hNew
  try simp only [Act.put, List.setIfInBounds_toArray, List.set_cons_zero, List.set_cons_succ]
  refine wpAnyH_take (i := 32) (oi := ⟨some 71, _, _, _, _, _⟩) (v := ?_) rfl (by kernel_rfl) (by kernel_rfl) (by kernel_rfl) (fun _ _ _ h => h) (Or.inl ⟨by rfl, ?_⟩) (by assumption) ?_
  rotate_left
  focus (intro w hSw; (try dsimp only at hSw); go_simp; first | done | with_reducible rfl)
  try simp only [Act.put, List.setIfInBounds_toArray, List.set_cons_zero, List.set_cons_succ]
  refine wpAnyH_take (i := 33) (oi := ⟨some 72, _, _, _, _, _⟩) (v := ?_) rfl (by kernel_rfl) (by kernel_rfl) (by kernel_rfl) (fun _ _ _ h => h) (Or.inl ⟨by rfl, ?_⟩) (by assumption) ?_
  rotate_left
  focus (intro w hSw; (try dsimp only at hSw); go_simp; first | done | with_reducible rfl)
  try simp only [Act.put, List.setIfInBounds_toArray, List.set_cons_zero, List.set_cons_succ]
  refine wpAnyH_take (i := 34) (oi := ⟨some 73, _, _, _, _, _⟩) (v := ?_) rfl (by kernel_rfl) (by kernel_rfl) (by kernel_rfl) (fun _ _ _ h => h) (Or.inl ⟨by rfl, ?_⟩) (by assumption) ?_
  rotate_left
  focus (intro w hSw; (try dsimp only at hSw); go_simp; first | done | with_reducible rfl)
  try simp only [Act.put, List.setIfInBounds_toArray, List.set_cons_zero, List.set_cons_succ]
  refine wpAnyH_take (i := 35) (oi := ⟨some 74, _, _, _, _, _⟩) (v := ?_) rfl (by kernel_rfl) (by kernel_rfl) (by kernel_rfl) (fun _ _ _ h => h) (Or.inl ⟨by rfl, ?_⟩) (by assumption) ?_
  rotate_left
  focus (intro w hSw; (try dsimp only at hSw); go_simp; first | done | with_reducible rfl)
  try simp only [Act.put, List.setIfInBounds_toArray, List.set_cons_zero, List.set_cons_succ]
  refine wpAnyH_take (i := 37) (oi := ⟨some 76, _, _, _, _, _⟩) (v := ?_) rfl (by kernel_rfl) (by kernel_rfl) (by kernel_rfl) (fun _ _ _ h => h) (Or.inl ⟨by rfl, ?_⟩) (by assumption) ?_
  rotate_left
  focus (intro w hSw; (try dsimp only at hSw); go_simp; first | done | with_reducible rfl)
  try simp only [Act.put, List.setIfInBounds_toArray, List.set_cons_zero, List.set_cons_succ]
  refine wpAnyH_ready (rs := [36]) (by kernel_rfl) (by simp) ?_
  refine AllReadyH.cons (o := ⟨some 75, _, _, _, _, _⟩) rfl (fun K hK => ?_) AllReadyH.nil
  go_simp
  ((with_reducible refine (HIP.out _).mono ?_); rintro e wz ⟨rfl, rfl⟩; have hb := True.intro)
  go_wp2_with fail
  refine hK.out _ _ (by exact hHeld) (fun hNew => ?_)
  clear hK K
  clear hHeld hb; have hHeld := hNew; clear hNew
  try simp only [Act.put, List.setIfInBounds_toArray, List.set_cons_zero, List.set_cons_succ]
  refine wpAnyH_ready (rs := [38]) (by kernel_rfl) (by simp) ?_
  refine AllReadyH.cons (o := ⟨some 77, _, _, _, _, _⟩) rfl (fun K hK => ?_) AllReadyH.nil
  go_simp
  ((with_reducible refine (HRI.out _).mono ?_); rintro e wz ⟨rfl, rfl⟩; have hb := True.intro)
  go_wp2_with fail
  refine hK.out _ _ (by exact hHeld) (fun hNew => ?_)
  clear hK K
  clear hHeld hb; have hHeld := hNew; clear hNew
  try simp only [Act.put, List.setIfInBounds_toArray, List.set_cons_zero, List.set_cons_succ]
  refine wpAnyH_take (i := 39) (oi := ⟨some 78, _, _, _, _, _⟩) (v := ?_) rfl (by kernel_rfl) (by kernel_rfl) (by kernel_rfl) (fun _ _ _ h => h) (Or.inl ⟨by rfl, ?_⟩) (by assumption) ?_
  rotate_left
  focus (intro w hSw; (try dsimp only at hSw); go_simp; first | done | with_reducible rfl)
  try simp only [Act.put, List.setIfInBounds_toArray, List.set_cons_zero, List.set_cons_succ]
  refine wpAnyH_take (i := 40) (oi := ⟨some 79, _, _, _, _, _⟩) (v := ?_) rfl (by kernel_rfl) (by kernel_rfl) (by kernel_rfl) (fun _ _ _ h => h) (Or.inl ⟨by rfl, ?_⟩) (by assumption) ?_
  rotate_left
  focus (intro w hSw; (try dsimp only at hSw); go_simp; first | done | with_reducible rfl)
  try simp only [Act.put, List.setIfInBounds_toArray, List.set_cons_zero, List.set_cons_succ]
  refine wpAnyH_done (by kernel_rfl) ?_ _
  have t0 := hHeld.2.1
  have t1 := hHeld.2.2.1
  have t2 := hHeld.2.2.2.1
  have s0 := hHeld.2.2.2.2.1
  have s1 := hHeld.2.2.2.2.2.1
  have s2 := hHeld.2.2.2.2.2.2.1
  have HU2 := Lib.hid hHeld.1.out
  have hE : (pe = 0 ∧ Sv.printS ⟨a1, a2, a3⟩ = s) ∨ pe = 10 := HE.out
  clear hHeld v0 v1 v2 c0 c1 c2 e0 e1 e2 g0 g1 g2 g3 q0 q1 q2 q3
  rcases hE with ⟨rfl, hps⟩ | rfl
  · have HPS2 := Lib.hid hps
    clear hps
    go_upto_region 11 with (go_at_call 10; ((with_reducible refine (HPA.out _ HU2.out).mono ?_); rintro e wa ⟨rfl, hb⟩; rw [HPS2.out]))
    have HT := Lib.hid (HU2.out.trans (hb.mono HU2.out.size))
    have u0 := keep_cell hb t0
    have u1 := keep_cell hb t1
    have u2 := keep_cell hb t2
    clear hb
    rcases Bool.eq_false_or_eq_true (Sv.right x) with hr | hr
    rotate_left
    · have HR := Lib.hid hr
      have HN := Lib.hid (HPN.out hr)
      clear hr
      go_upto_region 14 with (go_at_call 12; ((with_reducible refine (HRV.out _).mono ?_); rintro e wb ⟨rfl, hb⟩; rw [HR.out]))
      have HTb := Lib.hid (HT.out.trans (hb.mono HT.out.size))
      have r0 := keep_cell hb u0
      have r1 := keep_cell hb u1
      have r2 := keep_cell hb u2
      clear hb
      go_wp2_with (first
        | (go_at_call 10; ((with_reducible refine (HPV.out _ HTb.out).mono ?_); rintro e wc ⟨rfl, hb⟩; rw [HN.out]; have HTc := Lib.hid (HTb.out.trans (hb.mono HTb.out.size)); clear hb))
        | (go_at_call 4; ((with_reducible refine (alive_ok _).mono ?_); rintro e wf ⟨rfl, hb⟩)))
      go_ret
      exact ⟨rfl, HBU.out.trans ((HTc.out.trans (hb.mono HTc.out.size)).mono HBU.out.size)⟩
    · have HR := Lib.hid hr
      have HQ : RowKit.Hid (∀ w, Calls Tryd.prog 5 #[.string (Sv.printS x)] w fun e w' => e = .returned (.tuple #[vv x, .int .i64 0]) ∧ Below w.heap.size w w') := Lib.hid (fun w => by have h := parse_any (Sv.printS x) HPS.out w; rw [HPB.out hr] at h; exact h)
      clear hr
      go_upto_region 12 with (go_at_call 12; ((with_reducible refine (HRV.out _).mono ?_); rintro e wb ⟨rfl, hb⟩; rw [HR.out]))
      have HTb := Lib.hid (HT.out.trans (hb.mono HT.out.size))
      have r0 := keep_cell hb u0
      have r1 := keep_cell hb u1
      have r2 := keep_cell hb u2
      clear hb
      go_upto_region 13 with (first
        | (go_at_call 10; ((with_reducible refine (HPV.out _ HTb.out).mono ?_); rintro e wc ⟨rfl, hb⟩; have HTc := Lib.hid (HTb.out.trans (hb.mono HTb.out.size)); have y0 := keep_cell hb r0; have y1 := keep_cell hb r1; have y2 := keep_cell hb r2; clear hb))
        | (go_at_call 5; ((with_reducible refine (HQ.out _).mono ?_); rintro e wd ⟨rfl, hb⟩)))
      have HTd := Lib.hid (HTc.out.trans (hb.mono HTc.out.size))
      have HTx := Lib.hid (HTd.out.alloc HTd.out.size (.cells #[.int .i64 x.a, .int .i64 x.b, .int .i64 x.c] 23))
      have o0 := keep_cell (below_alloc wd (.cells #[.int .i64 x.a, .int .i64 x.b, .int .i64 x.c] 23)) (keep_cell hb y0)
      have o1 := keep_cell (below_alloc wd (.cells #[.int .i64 x.a, .int .i64 x.b, .int .i64 x.c] 23)) (keep_cell hb y1)
      have o2 := keep_cell (below_alloc wd (.cells #[.int .i64 x.a, .int .i64 x.b, .int .i64 x.c] 23)) (keep_cell hb y2)
      have n0 := hb_at (hb_new wd (.cells #[.int .i64 x.a, .int .i64 x.b, .int .i64 x.c] 23)) 0 rfl
      have n1 := hb_at (hb_new wd (.cells #[.int .i64 x.a, .int .i64 x.b, .int .i64 x.c] 23)) 1 rfl
      have n2 := hb_at (hb_new wd (.cells #[.int .i64 x.a, .int .i64 x.b, .int .i64 x.c] 23)) 2 rfl
      clear hb
      generalize hX : wd.alloc (.cells #[.int .i64 x.a, .int .i64 x.b, .int .i64 x.c] 23) = X at *
      clear hX
      go_wp2_with (first
        | (go_at_call 9; ((with_reducible refine (no_any _ _).mono ?_); rintro e wz2 ⟨rfl, rfl⟩))
        | (go_at_call 4; ((with_reducible refine (alive_ok _).mono ?_); rintro e wf ⟨rfl, hb⟩)))
      go_ret
      exact ⟨rfl, HBU.out.trans ((HTx.out.trans (hb.mono HTx.out.size)).mono HBU.out.size)⟩
  · go_upto_region 11 with fail
    rcases Bool.eq_false_or_eq_true (Sv.right x) with hr | hr
    rotate_left
    · have HR := Lib.hid hr
      have HN := Lib.hid (HPN.out hr)
      clear hr
      go_upto_region 14 with (go_at_call 12; ((with_reducible refine (HRV.out _).mono ?_); rintro e wb ⟨rfl, hb⟩; rw [HR.out]))
      have HTb := Lib.hid (HU2.out.trans (hb.mono HU2.out.size))
      have r0 := keep_cell hb t0
      have r1 := keep_cell hb t1
      have r2 := keep_cell hb t2
      clear hb
      go_wp2_with (first
        | (go_at_call 10; ((with_reducible refine (HPV.out _ HTb.out).mono ?_); rintro e wc ⟨rfl, hb⟩; rw [HN.out]; have HTc := Lib.hid (HTb.out.trans (hb.mono HTb.out.size)); clear hb))
        | (go_at_call 4; ((with_reducible refine (alive_ok _).mono ?_); rintro e wf ⟨rfl, hb⟩)))
      go_ret
      exact ⟨rfl, HBU.out.trans ((HTc.out.trans (hb.mono HTc.out.size)).mono HBU.out.size)⟩
    · have HR := Lib.hid hr
      have HQ : RowKit.Hid (∀ w, Calls Tryd.prog 5 #[.string (Sv.printS x)] w fun e w' => e = .returned (.tuple #[vv x, .int .i64 0]) ∧ Below w.heap.size w w') := Lib.hid (fun w => by have h := parse_any (Sv.printS x) HPS.out w; rw [HPB.out hr] at h; exact h)
      clear hr
      go_upto_region 12 with (go_at_call 12; ((with_reducible refine (HRV.out _).mono ?_); rintro e wb ⟨rfl, hb⟩; rw [HR.out]))
      have HTb := Lib.hid (HU2.out.trans (hb.mono HU2.out.size))
      have r0 := keep_cell hb t0
      have r1 := keep_cell hb t1
      have r2 := keep_cell hb t2
      clear hb
      go_upto_region 13 with (first
        | (go_at_call 10; ((with_reducible refine (HPV.out _ HTb.out).mono ?_); rintro e wc ⟨rfl, hb⟩; have HTc := Lib.hid (HTb.out.trans (hb.mono HTb.out.size)); have y0 := keep_cell hb r0; have y1 := keep_cell hb r1; have y2 := keep_cell hb r2; clear hb))
        | (go_at_call 5; ((with_reducible refine (HQ.out _).mono ?_); rintro e wd ⟨rfl, hb⟩)))
      have HTd := Lib.hid (HTc.out.trans (hb.mono HTc.out.size))
      have HTx := Lib.hid (HTd.out.alloc HTd.out.size (.cells #[.int .i64 x.a, .int .i64 x.b, .int .i64 x.c] 23))
      have o0 := keep_cell (below_alloc wd (.cells #[.int .i64 x.a, .int .i64 x.b, .int .i64 x.c] 23)) (keep_cell hb y0)
      have o1 := keep_cell (below_alloc wd (.cells #[.int .i64 x.a, .int .i64 x.b, .int .i64 x.c] 23)) (keep_cell hb y1)
      have o2 := keep_cell (below_alloc wd (.cells #[.int .i64 x.a, .int .i64 x.b, .int .i64 x.c] 23)) (keep_cell hb y2)
      have n0 := hb_at (hb_new wd (.cells #[.int .i64 x.a, .int .i64 x.b, .int .i64 x.c] 23)) 0 rfl
      have n1 := hb_at (hb_new wd (.cells #[.int .i64 x.a, .int .i64 x.b, .int .i64 x.c] 23)) 1 rfl
      have n2 := hb_at (hb_new wd (.cells #[.int .i64 x.a, .int .i64 x.b, .int .i64 x.c] 23)) 2 rfl
      clear hb
      generalize hX : wd.alloc (.cells #[.int .i64 x.a, .int .i64 x.b, .int .i64 x.c] 23) = X at *
      clear hX
      go_wp2_with (first
        | (go_at_call 9; ((with_reducible refine (no_any _ _).mono ?_); rintro e wz2 ⟨rfl, rfl⟩))
        | (go_at_call 4; ((with_reducible refine (alive_ok _).mono ?_); rintro e wf ⟨rfl, hb⟩)))
      go_ret
      exact ⟨rfl, HBU.out.trans ((HTx.out.trans (hb.mono HTx.out.size)).mono HBU.out.size)⟩
end Go.Proofs.YtmgnbpgcbehidaaDoor
