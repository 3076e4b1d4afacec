/- For any two types SchemeMeets returns true: two types without common names are both above the most general type that comes of them, which is one of them, but for names, just if the other one is above it, and where nothing comes of them neither is above the other; the chapter examples hold. No condition but what the row lists (its loops end); the tables that the program can reach are tied to its text. -/
import Derived.Test.YtncebhddcokkoaaDoorZM35
import Derived.Test.YtncebhddcokkoaaDoorZM15
import Derived.Test.YtncebhddcokkoaaDoorZM22
import Derived.Test.YtncebhddcokkoaaDoorZM31
import Derived.Test.YtncebhddcokkoaaDoorZM1
import Derived.ProofKit
import Derived.LaidMore
import Derived.OpenShut
import Derived.ShutString
import Derived.ChangeOld
import Derived.ChangeSlices
import Derived.Lib.SmallJoins
import Derived.Stop.Joined
import Derived.Test.YtncebhddcokkoaaDoorTie
import Derived.Test.YtncebhddcokkoaaDoorCards
import Derived.SevenTiedAt
/- SchemeMeets: its walk. -/
namespace Go.Proofs.YtncebhddcokkoaaDoor
open Go.RowKit
set_option linter.unusedSimpArgs false
set_option linter.unusedVariables false
theorem wrap_small (z : Int) (h1 : -9223372036854775808 ≤ z) (h2 : z ≤ 9223372036854775807) : IntKind.i64.wrap z = z := by
  unfold IntKind.wrap
  have e3 : (2 : Int) ^ IntKind.i64.bits = 18446744073709551616 := by decide
  have e4 : (2 : Int) ^ (IntKind.i64.bits - 1) = 9223372036854775808 := by decide
  have e5 : IntKind.i64.signed = true := rfl
  simp only [e3, e4, e5, Bool.true_and, decide_eq_true_eq]
  split <;> omega
set_option maxRecDepth 100000 in
set_option maxHeartbeats 1000000 in
theorem meets14_walk (d : Nat) (va vb : Value) (ta tb : Tm) (w : World) (hi1 : IsT w d va ta) (hi2 : IsT w d vb tb) :
    Calls Tryd.prog 9 #[va, vb] w fun e w' => e = .returned (.bool true) ∧ Below w.heap.size w w' := by
  obtain ⟨k1, p1, n1, N1, q1, l1, c1, rfl⟩ := hi1.shp
  obtain ⟨k2, p2, n2, N2, q2, l2, c2, rfl⟩ := hi2.shp
  have hb2 := below2 w (.cells #[.int .i64 k1, .string p1, .string n1, .int .i64 N1, .slice q1 l1 c1] 36) (.cells #[.int .i64 k2, .string p2, .string n2, .int .i64 N2, .slice q2 l2 c2] 36)
  have hn1 := hb_alloc (hb_new w (.cells #[.int .i64 k1, .string p1, .string n1, .int .i64 N1, .slice q1 l1 c1] 36)) (.cells #[.int .i64 k2, .string p2, .string n2, .int .i64 N2, .slice q2 l2 c2] 36)
  have hn2 := hb_new (w.alloc (.cells #[.int .i64 k1, .string p1, .string n1, .int .i64 N1, .slice q1 l1 c1] 36)) (.cells #[.int .i64 k2, .string p2, .string n2, .int .i64 N2, .slice q2 l2 c2] 36)
  simp only [World.size_alloc] at hn2
  have HB2 := Lib.hid hb2
  have HN1 := Lib.hid hn1
  have HN2 := Lib.hid hn2
  have HI1 := Lib.hid hi1
  have HI2 := Lib.hid hi2
  clear hb2 hn1 hn2 hi1 hi2
  go_enter Tryd.func9, Tryd.ntmps9
  go_upto_region 1 with (fail)
  generalize (w.alloc (.cells #[.int .i64 k1, .string p1, .string n1, .int .i64 N1, .slice q1 l1 c1] 36)).alloc (.cells #[.int .i64 k2, .string p2, .string n2, .int .i64 N2, .slice q2 l2 c2] 36) = W2 at *
  have HT1 := Lib.hid (HI1.out.below HB2.out)
  have HT2 := Lib.hid (HI2.out.below HB2.out)
  obtain ⟨x0, x1, x2, x3, x4⟩ := box_cells HN1.out
  obtain ⟨y0, y1, y2, y3, y4⟩ := box_cells HN2.out
  refine wp_region_held_drew (S := (fun w' => RowKit.Hid (Below W2.heap.size W2 w') ∧ w'.cell? ⟨w.heap.size, 0, none⟩ = some (.int .i64 k1) ∧ w'.cell? ⟨w.heap.size, 1, none⟩ = some (.string p1) ∧ w'.cell? ⟨w.heap.size, 2, none⟩ = some (.string n1) ∧ w'.cell? ⟨w.heap.size, 3, none⟩ = some (.int .i64 N1) ∧ w'.cell? ⟨w.heap.size, 4, none⟩ = some (.slice q1 l1 c1) ∧ w'.cell? ⟨w.heap.size + 1, 0, none⟩ = some (.int .i64 k2) ∧ w'.cell? ⟨w.heap.size + 1, 1, none⟩ = some (.string p2) ∧ w'.cell? ⟨w.heap.size + 1, 2, none⟩ = some (.string n2) ∧ w'.cell? ⟨w.heap.size + 1, 3, none⟩ = some (.int .i64 N2) ∧ w'.cell? ⟨w.heap.size + 1, 4, none⟩ = some (.slice q2 l2 c2))) (by kernel_rfl) (by exact ⟨Lib.hid (below_drewN (Below.refl _ _) 1), x0, x1, x2, x3, x4, y0, y1, y2, y3, y4⟩) (fun hHeld => ?_)
  refine wpAnyH_take (i := 0) (oi := ⟨some 9, _, _, _, _, _⟩) (v := ?_) rfl (by kernel_rfl) (by kernel_rfl) (by kernel_rfl) (fun _ _ _ h => h) (Or.inl ⟨by rfl, ?_⟩) (by assumption) ?_
  rotate_left
  focus (intro w hSw; (try dsimp only at hSw); go_simp; first | done | with_reducible rfl)
  try simp only [Act.put, List.setIfInBounds_toArray, List.set_cons_zero, List.set_cons_succ]
  refine wpAnyH_ready (rs := [1]) (by kernel_rfl) (by simp) ?_
  refine AllReadyH.cons (o := ⟨some 10, _, _, _, _, _⟩) rfl (fun K hK => ?_) AllReadyH.nil
  go_simp
  have hc := fewT_any d _ ta _ (HT1.out.below hHeld.1.out); (with_reducible refine hc.mono ?_); rintro e v1 ⟨r, rfl, hr, hb⟩; have HFA := Lib.hid hr; clear hr hc
  go_wp2_with fail
  refine hK.out _ _ (by exact ⟨Lib.hid (hHeld.1.out.trans (hb.mono hHeld.1.out.size)), keep_cell hb hHeld.2.1, keep_cell hb hHeld.2.2.1, keep_cell hb hHeld.2.2.2.1, keep_cell hb hHeld.2.2.2.2.1, keep_cell hb hHeld.2.2.2.2.2.1, keep_cell hb hHeld.2.2.2.2.2.2.1, keep_cell hb hHeld.2.2.2.2.2.2.2.1, keep_cell hb hHeld.2.2.2.2.2.2.2.2.1, keep_cell hb hHeld.2.2.2.2.2.2.2.2.2.1, keep_cell hb hHeld.2.2.2.2.2.2.2.2.2.2⟩) (fun hNew => ?_)
  clear hK K
  clear hHeld hb; have hHeld := hNew; clear hNew
  try simp only [Act.put, List.setIfInBounds_toArray, List.set_cons_zero, List.set_cons_succ]
  cases r
  · refine wpAnyH_take (i := 2) (oi := ⟨some 11, _, _, _, _, _⟩) (v := ?_) rfl (by kernel_rfl) (by kernel_rfl) (by kernel_rfl) (fun _ _ _ h => h) (Or.inl ⟨by rfl, ?_⟩) (by assumption) ?_
    rotate_left
    focus (intro w hSw; (try dsimp only at hSw); go_simp; first | done | with_reducible rfl)
    try simp only [Act.put, List.setIfInBounds_toArray, List.set_cons_zero, List.set_cons_succ]
    refine wpAnyH_take (i := 3) (oi := ⟨some 12, _, _, _, _, _⟩) (v := ?_) rfl (by kernel_rfl) (by kernel_rfl) (by kernel_rfl) (fun _ _ _ h => h) (Or.inl ⟨by rfl, ?_⟩) (by assumption) ?_
    rotate_left
    focus (intro w hSw; (try dsimp only at hSw); go_simp; first | done | with_reducible rfl)
    try simp only [Act.put, List.setIfInBounds_toArray, List.set_cons_zero, List.set_cons_succ]
    refine wpAnyH_take (i := 4) (oi := ⟨some 13, _, _, _, _, _⟩) (v := undef) rfl (by kernel_rfl) (by kernel_rfl) (by kernel_rfl) (fun _ _ _ h => h) (Or.inr ⟨by rfl, rfl⟩) (by assumption) ?_
    try simp only [Act.put, List.setIfInBounds_toArray, List.set_cons_zero, List.set_cons_succ]
    refine wpAnyH_take (i := 5) (oi := ⟨some 14, _, _, _, _, _⟩) (v := undef) rfl (by kernel_rfl) (by kernel_rfl) (by kernel_rfl) (fun _ _ _ h => h) (Or.inr ⟨by rfl, rfl⟩) (by assumption) ?_
    try simp only [Act.put, List.setIfInBounds_toArray, List.set_cons_zero, List.set_cons_succ]
    refine wpAnyH_take (i := 6) (oi := ⟨some 15, _, _, _, _, _⟩) (v := undef) rfl (by kernel_rfl) (by kernel_rfl) (by kernel_rfl) (fun _ _ _ h => h) (Or.inr ⟨by rfl, rfl⟩) (by assumption) ?_
    try simp only [Act.put, List.setIfInBounds_toArray, List.set_cons_zero, List.set_cons_succ]
    refine wpAnyH_take (i := 7) (oi := ⟨some 16, _, _, _, _, _⟩) (v := ?_) rfl (by kernel_rfl) (by kernel_rfl) (by kernel_rfl) (fun _ _ _ h => h) (Or.inl ⟨by rfl, ?_⟩) (by assumption) ?_
    rotate_left
    focus (intro w hSw; (try dsimp only at hSw); go_simp; first | done | with_reducible rfl)
    try simp only [Act.put, List.setIfInBounds_toArray, List.set_cons_zero, List.set_cons_succ]
    refine wpAnyH_take (i := 8) (oi := ⟨some 17, _, _, _, _, _⟩) (v := ?_) rfl (by kernel_rfl) (by kernel_rfl) (by kernel_rfl) (fun _ _ _ h => h) (Or.inl ⟨by rfl, ?_⟩) (by assumption) ?_
    rotate_left
    focus (intro w hSw; (try dsimp only at hSw); go_simp; first | done | with_reducible rfl)
    try simp only [Act.put, List.setIfInBounds_toArray, List.set_cons_zero, List.set_cons_succ]
    refine wpAnyH_take (i := 9) (oi := ⟨some 18, _, _, _, _, _⟩) (v := undef) rfl (by kernel_rfl) (by kernel_rfl) (by kernel_rfl) (fun _ _ _ h => h) (Or.inr ⟨by rfl, rfl⟩) (by assumption) ?_
    try simp only [Act.put, List.setIfInBounds_toArray, List.set_cons_zero, List.set_cons_succ]
    refine wpAnyH_take (i := 10) (oi := ⟨some 19, _, _, _, _, _⟩) (v := undef) rfl (by kernel_rfl) (by kernel_rfl) (by kernel_rfl) (fun _ _ _ h => h) (Or.inr ⟨by rfl, rfl⟩) (by assumption) ?_
    try simp only [Act.put, List.setIfInBounds_toArray, List.set_cons_zero, List.set_cons_succ]
    refine wpAnyH_take (i := 11) (oi := ⟨some 20, _, _, _, _, _⟩) (v := undef) rfl (by kernel_rfl) (by kernel_rfl) (by kernel_rfl) (fun _ _ _ h => h) (Or.inr ⟨by rfl, rfl⟩) (by assumption) ?_
    try simp only [Act.put, List.setIfInBounds_toArray, List.set_cons_zero, List.set_cons_succ]
    refine wpAnyH_take (i := 12) (oi := ⟨some 21, _, _, _, _, _⟩) (v := undef) rfl (by kernel_rfl) (by kernel_rfl) (by kernel_rfl) (fun _ _ _ h => h) (Or.inr ⟨by rfl, rfl⟩) (by assumption) ?_
    try simp only [Act.put, List.setIfInBounds_toArray, List.set_cons_zero, List.set_cons_succ]
    refine wpAnyH_take (i := 13) (oi := ⟨some 22, _, _, _, _, _⟩) (v := undef) rfl (by kernel_rfl) (by kernel_rfl) (by kernel_rfl) (fun _ _ _ h => h) (Or.inr ⟨by rfl, rfl⟩) (by assumption) ?_
    try simp only [Act.put, List.setIfInBounds_toArray, List.set_cons_zero, List.set_cons_succ]
    refine wpAnyH_take (i := 14) (oi := ⟨some 23, _, _, _, _, _⟩) (v := undef) rfl (by kernel_rfl) (by kernel_rfl) (by kernel_rfl) (fun _ _ _ h => h) (Or.inr ⟨by rfl, rfl⟩) (by assumption) ?_
    try simp only [Act.put, List.setIfInBounds_toArray, List.set_cons_zero, List.set_cons_succ]
    refine wpAnyH_take (i := 15) (oi := ⟨some 24, _, _, _, _, _⟩) (v := ?_) rfl (by kernel_rfl) (by kernel_rfl) (by kernel_rfl) (fun _ _ _ h => h) (Or.inl ⟨by rfl, ?_⟩) (by assumption) ?_
    rotate_left
    focus (intro w hSw; (try dsimp only at hSw); go_simp; first | done | with_reducible rfl)
    try simp only [Act.put, List.setIfInBounds_toArray, List.set_cons_zero, List.set_cons_succ]
    refine wpAnyH_done (by kernel_rfl) ?_ _
    have HBV := Lib.hid hHeld.1.out
    clear hHeld
    go_wp2_with (go_at_call 34; ((with_reducible refine (alive_any _).mono ?_); rintro e w4 ⟨rfl, hb⟩))
    go_ret
    have h9 := HB2.out.trans (HBV.out.mono HB2.out.size)
    exact ⟨rfl, h9.trans (hb.mono h9.size)⟩
  · refine wpAnyH_take (i := 2) (oi := ⟨some 11, _, _, _, _, _⟩) (v := ?_) rfl (by kernel_rfl) (by kernel_rfl) (by kernel_rfl) (fun _ _ _ h => h) (Or.inl ⟨by rfl, ?_⟩) (by assumption) ?_
    rotate_left
    focus (intro w hSw; (try dsimp only at hSw); go_simp; first | done | with_reducible rfl)
    try simp only [Act.put, List.setIfInBounds_toArray, List.set_cons_zero, List.set_cons_succ]
    refine wpAnyH_take (i := 3) (oi := ⟨some 12, _, _, _, _, _⟩) (v := ?_) rfl (by kernel_rfl) (by kernel_rfl) (by kernel_rfl) (fun _ _ _ h => h) (Or.inl ⟨by rfl, ?_⟩) (by assumption) ?_
    rotate_left
    focus (intro w hSw; (try dsimp only at hSw); go_simp; first | done | with_reducible rfl)
    try simp only [Act.put, List.setIfInBounds_toArray, List.set_cons_zero, List.set_cons_succ]
    refine wpAnyH_take (i := 4) (oi := ⟨some 13, _, _, _, _, _⟩) (v := ?_) rfl (by kernel_rfl) (by kernel_rfl) (by kernel_rfl) (fun _ _ _ h => h) (Or.inl ⟨by rfl, ?_⟩) (by assumption) ?_
    rotate_left
    focus (intro w hSw; (try dsimp only at hSw); go_simp; first | done | with_reducible rfl)
    try simp only [Act.put, List.setIfInBounds_toArray, List.set_cons_zero, List.set_cons_succ]
    refine wpAnyH_ready (rs := [5]) (by kernel_rfl) (by simp) ?_
    refine AllReadyH.cons (o := ⟨some 14, _, _, _, _, _⟩) rfl (fun K hK => ?_) AllReadyH.nil
    go_simp
    have hc := fewT_any d _ tb _ (HT2.out.below hHeld.1.out); (with_reducible refine hc.mono ?_); rintro e v2 ⟨r, rfl, hr, hb⟩; have HFB := Lib.hid hr; clear hr hc
    go_wp2_with fail
    refine hK.out _ _ (by exact ⟨Lib.hid (hHeld.1.out.trans (hb.mono hHeld.1.out.size)), keep_cell hb hHeld.2.1, keep_cell hb hHeld.2.2.1, keep_cell hb hHeld.2.2.2.1, keep_cell hb hHeld.2.2.2.2.1, keep_cell hb hHeld.2.2.2.2.2.1, keep_cell hb hHeld.2.2.2.2.2.2.1, keep_cell hb hHeld.2.2.2.2.2.2.2.1, keep_cell hb hHeld.2.2.2.2.2.2.2.2.1, keep_cell hb hHeld.2.2.2.2.2.2.2.2.2.1, keep_cell hb hHeld.2.2.2.2.2.2.2.2.2.2⟩) (fun hNew => ?_)
    clear hK K
    clear hHeld hb; have hHeld := hNew; clear hNew
    try simp only [Act.put, List.setIfInBounds_toArray, List.set_cons_zero, List.set_cons_succ]
    cases r
    · refine wpAnyH_take (i := 6) (oi := ⟨some 15, _, _, _, _, _⟩) (v := ?_) rfl (by kernel_rfl) (by kernel_rfl) (by kernel_rfl) (fun _ _ _ h => h) (Or.inl ⟨by rfl, ?_⟩) (by assumption) ?_
      rotate_left
      focus (intro w hSw; (try dsimp only at hSw); go_simp; first | done | with_reducible rfl)
      try simp only [Act.put, List.setIfInBounds_toArray, List.set_cons_zero, List.set_cons_succ]
      refine wpAnyH_take (i := 7) (oi := ⟨some 16, _, _, _, _, _⟩) (v := ?_) rfl (by kernel_rfl) (by kernel_rfl) (by kernel_rfl) (fun _ _ _ h => h) (Or.inl ⟨by rfl, ?_⟩) (by assumption) ?_
      rotate_left
      focus (intro w hSw; (try dsimp only at hSw); go_simp; first | done | with_reducible rfl)
      try simp only [Act.put, List.setIfInBounds_toArray, List.set_cons_zero, List.set_cons_succ]
      refine wpAnyH_take (i := 8) (oi := ⟨some 17, _, _, _, _, _⟩) (v := ?_) rfl (by kernel_rfl) (by kernel_rfl) (by kernel_rfl) (fun _ _ _ h => h) (Or.inl ⟨by rfl, ?_⟩) (by assumption) ?_
      rotate_left
      focus (intro w hSw; (try dsimp only at hSw); go_simp; first | done | with_reducible rfl)
      try simp only [Act.put, List.setIfInBounds_toArray, List.set_cons_zero, List.set_cons_succ]
      refine wpAnyH_take (i := 9) (oi := ⟨some 18, _, _, _, _, _⟩) (v := undef) rfl (by kernel_rfl) (by kernel_rfl) (by kernel_rfl) (fun _ _ _ h => h) (Or.inr ⟨by rfl, rfl⟩) (by assumption) ?_
      try simp only [Act.put, List.setIfInBounds_toArray, List.set_cons_zero, List.set_cons_succ]
      refine wpAnyH_take (i := 10) (oi := ⟨some 19, _, _, _, _, _⟩) (v := undef) rfl (by kernel_rfl) (by kernel_rfl) (by kernel_rfl) (fun _ _ _ h => h) (Or.inr ⟨by rfl, rfl⟩) (by assumption) ?_
      try simp only [Act.put, List.setIfInBounds_toArray, List.set_cons_zero, List.set_cons_succ]
      refine wpAnyH_take (i := 11) (oi := ⟨some 20, _, _, _, _, _⟩) (v := undef) rfl (by kernel_rfl) (by kernel_rfl) (by kernel_rfl) (fun _ _ _ h => h) (Or.inr ⟨by rfl, rfl⟩) (by assumption) ?_
      try simp only [Act.put, List.setIfInBounds_toArray, List.set_cons_zero, List.set_cons_succ]
      refine wpAnyH_take (i := 12) (oi := ⟨some 21, _, _, _, _, _⟩) (v := undef) rfl (by kernel_rfl) (by kernel_rfl) (by kernel_rfl) (fun _ _ _ h => h) (Or.inr ⟨by rfl, rfl⟩) (by assumption) ?_
      try simp only [Act.put, List.setIfInBounds_toArray, List.set_cons_zero, List.set_cons_succ]
      refine wpAnyH_take (i := 13) (oi := ⟨some 22, _, _, _, _, _⟩) (v := undef) rfl (by kernel_rfl) (by kernel_rfl) (by kernel_rfl) (fun _ _ _ h => h) (Or.inr ⟨by rfl, rfl⟩) (by assumption) ?_
      try simp only [Act.put, List.setIfInBounds_toArray, List.set_cons_zero, List.set_cons_succ]
      refine wpAnyH_take (i := 14) (oi := ⟨some 23, _, _, _, _, _⟩) (v := undef) rfl (by kernel_rfl) (by kernel_rfl) (by kernel_rfl) (fun _ _ _ h => h) (Or.inr ⟨by rfl, rfl⟩) (by assumption) ?_
      try simp only [Act.put, List.setIfInBounds_toArray, List.set_cons_zero, List.set_cons_succ]
      refine wpAnyH_take (i := 15) (oi := ⟨some 24, _, _, _, _, _⟩) (v := ?_) rfl (by kernel_rfl) (by kernel_rfl) (by kernel_rfl) (fun _ _ _ h => h) (Or.inl ⟨by rfl, ?_⟩) (by assumption) ?_
      rotate_left
      focus (intro w hSw; (try dsimp only at hSw); go_simp; first | done | with_reducible rfl)
      try simp only [Act.put, List.setIfInBounds_toArray, List.set_cons_zero, List.set_cons_succ]
      refine wpAnyH_done (by kernel_rfl) ?_ _
      have HBV := Lib.hid hHeld.1.out
      clear hHeld
      go_wp2_with (go_at_call 34; ((with_reducible refine (alive_any _).mono ?_); rintro e w4 ⟨rfl, hb⟩))
      go_ret
      have h9 := HB2.out.trans (HBV.out.mono HB2.out.size)
      exact ⟨rfl, h9.trans (hb.mono h9.size)⟩
    · refine wpAnyH_take (i := 6) (oi := ⟨some 15, _, _, _, _, _⟩) (v := ?_) rfl (by kernel_rfl) (by kernel_rfl) (by kernel_rfl) (fun _ _ _ h => h) (Or.inl ⟨by rfl, ?_⟩) (by assumption) ?_
      rotate_left
      focus (intro w hSw; (try dsimp only at hSw); go_simp; first | done | with_reducible rfl)
      try simp only [Act.put, List.setIfInBounds_toArray, List.set_cons_zero, List.set_cons_succ]
      refine wpAnyH_take (i := 7) (oi := ⟨some 16, _, _, _, _, _⟩) (v := ?_) rfl (by kernel_rfl) (by kernel_rfl) (by kernel_rfl) (fun _ _ _ h => h) (Or.inl ⟨by rfl, ?_⟩) (by assumption) ?_
      rotate_left
      focus (intro w hSw; (try dsimp only at hSw); go_simp; first | done | with_reducible rfl)
      try simp only [Act.put, List.setIfInBounds_toArray, List.set_cons_zero, List.set_cons_succ]
      refine wpAnyH_take (i := 8) (oi := ⟨some 17, _, _, _, _, _⟩) (v := ?_) rfl (by kernel_rfl) (by kernel_rfl) (by kernel_rfl) (fun _ _ _ h => h) (Or.inl ⟨by rfl, ?_⟩) (by assumption) ?_
      rotate_left
      focus (intro w hSw; (try dsimp only at hSw); go_simp; first | done | with_reducible rfl)
      try simp only [Act.put, List.setIfInBounds_toArray, List.set_cons_zero, List.set_cons_succ]
      refine wpAnyH_take (i := 9) (oi := ⟨some 18, _, _, _, _, _⟩) (v := ?_) rfl (by kernel_rfl) (by kernel_rfl) (by kernel_rfl) (fun _ _ _ h => h) (Or.inl ⟨by rfl, ?_⟩) (by assumption) ?_
      rotate_left
      focus (intro w hSw; (try dsimp only at hSw); go_simp; first | done | with_reducible rfl)
      try simp only [Act.put, List.setIfInBounds_toArray, List.set_cons_zero, List.set_cons_succ]
      refine wpAnyH_take (i := 11) (oi := ⟨some 20, _, _, _, _, _⟩) (v := ?_) rfl (by kernel_rfl) (by kernel_rfl) (by kernel_rfl) (fun _ _ _ h => h) (Or.inl ⟨by rfl, ?_⟩) (by assumption) ?_
      rotate_left
      focus (intro w hSw; (try dsimp only at hSw); go_simp; first | done | with_reducible rfl)
      try simp only [Act.put, List.setIfInBounds_toArray, List.set_cons_zero, List.set_cons_succ]
      refine wpAnyH_ready (rs := [10]) (by kernel_rfl) (by simp) ?_
      refine AllReadyH.cons (o := ⟨some 19, _, _, _, _, _⟩) rfl (fun K hK => ?_) AllReadyH.nil
      go_simp
      have hc := rsize_any d _ ta _ (HT1.out.below hHeld.1.out); (with_reducible refine hc.mono ?_); rintro e v3 ⟨rfl, hb⟩; rw [sz_eq d ta (by have := (HFA.out (by first | rfl | trivial)).2.1; omega)]; clear hc
      go_wp2_with fail
      refine hK.out _ _ (by exact ⟨Lib.hid (hHeld.1.out.trans (hb.mono hHeld.1.out.size)), keep_cell hb hHeld.2.1, keep_cell hb hHeld.2.2.1, keep_cell hb hHeld.2.2.2.1, keep_cell hb hHeld.2.2.2.2.1, keep_cell hb hHeld.2.2.2.2.2.1, keep_cell hb hHeld.2.2.2.2.2.2.1, keep_cell hb hHeld.2.2.2.2.2.2.2.1, keep_cell hb hHeld.2.2.2.2.2.2.2.2.1, keep_cell hb hHeld.2.2.2.2.2.2.2.2.2.1, keep_cell hb hHeld.2.2.2.2.2.2.2.2.2.2⟩) (fun hNew => ?_)
      clear hK K
      clear hHeld hb; have hHeld := hNew; clear hNew
      try simp only [Act.put, List.setIfInBounds_toArray, List.set_cons_zero, List.set_cons_succ]
      refine wpAnyH_ready (rs := [12]) (by kernel_rfl) (by simp) ?_
      refine AllReadyH.cons (o := ⟨some 21, _, _, _, _, _⟩) rfl (fun K hK => ?_) AllReadyH.nil
      go_simp
      have hc := rsize_any d _ tb _ (HT2.out.below hHeld.1.out); (with_reducible refine hc.mono ?_); rintro e v4 ⟨rfl, hb⟩; rw [sz_eq d tb (by have := (HFB.out (by first | rfl | trivial)).2.1; omega)]; clear hc
      go_wp2_with fail
      refine hK.out _ _ (by exact ⟨Lib.hid (hHeld.1.out.trans (hb.mono hHeld.1.out.size)), keep_cell hb hHeld.2.1, keep_cell hb hHeld.2.2.1, keep_cell hb hHeld.2.2.2.1, keep_cell hb hHeld.2.2.2.2.1, keep_cell hb hHeld.2.2.2.2.2.1, keep_cell hb hHeld.2.2.2.2.2.2.1, keep_cell hb hHeld.2.2.2.2.2.2.2.1, keep_cell hb hHeld.2.2.2.2.2.2.2.2.1, keep_cell hb hHeld.2.2.2.2.2.2.2.2.2.1, keep_cell hb hHeld.2.2.2.2.2.2.2.2.2.2⟩) (fun hNew => ?_)
      clear hK K
      clear hHeld hb; have hHeld := hNew; clear hNew
      try simp only [Act.put, List.setIfInBounds_toArray, List.set_cons_zero, List.set_cons_succ]
      refine wpAnyH_take (i := 13) (oi := ⟨some 22, _, _, _, _, _⟩) (v := ?_) rfl (by kernel_rfl) (by kernel_rfl) (by kernel_rfl) (fun _ _ _ h => h) (Or.inl ⟨by rfl, ?_⟩) (by assumption) ?_
      rotate_left
      focus (intro w hSw; (try dsimp only at hSw); go_simp; first | done | with_reducible rfl)
      try simp only [Act.put, List.setIfInBounds_toArray, List.set_cons_zero, List.set_cons_succ]
      refine wpAnyH_take (i := 14) (oi := ⟨some 23, _, _, _, _, _⟩) (v := ?_) rfl (by kernel_rfl) (by kernel_rfl) (by kernel_rfl) (fun _ _ _ h => h) (Or.inl ⟨by rfl, ?_⟩) (by assumption) ?_
      rotate_left
      focus (intro w hSw; (try dsimp only at hSw); go_simp; first | done | with_reducible rfl)
      try simp only [Act.put, List.setIfInBounds_toArray, List.set_cons_zero, List.set_cons_succ]
      refine wpAnyH_take (i := 15) (oi := ⟨some 24, _, _, _, _, _⟩) (v := ?_) rfl (by kernel_rfl) (by kernel_rfl) (by kernel_rfl) (fun _ _ _ h => h) (Or.inl ⟨by rfl, ?_⟩) (by assumption) ?_
      rotate_left
      focus (intro w hSw; (try dsimp only at hSw); go_simp; first | done | with_reducible rfl)
      try simp only [Act.put, List.setIfInBounds_toArray, List.set_cons_zero, List.set_cons_succ]
      refine wpAnyH_done (by kernel_rfl) ?_ _
      have HBV := Lib.hid hHeld.1.out
      have HBV2 := Lib.hid (HB2.out.trans (HBV.out.mono HB2.out.size))
      obtain ⟨_, x0, x1, x2, x3, x4, y0, y1, y2, y3, y4⟩ := hHeld
      obtain ⟨hsa, hza, hta⟩ := HFA.out (by first | rfl | trivial)
      obtain ⟨hsb, hzb, htb⟩ := HFB.out (by first | rfl | trivial)
      have HSA := Lib.hid hsa
      have HSB := Lib.hid hsb
      have HTA := Lib.hid hta
      have HTB := Lib.hid htb
      have HV1 := Lib.hid (HT1.out.below HBV.out)
      have HV2 := Lib.hid (HT2.out.below HBV.out)
      have HZA := Lib.hid hza
      have HZB := Lib.hid hzb
      clear hsa hsb hta htb HFA HFB hza hzb
      obtain ⟨sa, hsa⟩ : ∃ s, tszN d ta = s := ⟨_, rfl⟩
      obtain ⟨sb, hsb⟩ : ∃ s, tszN d tb = s := ⟨_, rfl⟩
      rw [hsa, hsb]
      have HSZA := Lib.hid hsa
      have HSZB := Lib.hid hsb
      clear hsa hsb
      have hza := HZA.out
      have hzb := HZB.out
      rw [HSZA.out] at hza
      rw [HSZB.out] at hzb
      rw [wrap_small ((sa : Int) + (sb : Int)) (by omega) (by omega)]
      obtain ⟨bb, hbb⟩ : ∃ bb : Bool, decide ((60 : Int) < (sa : Int) + (sb : Int)) = bb := ⟨_, rfl⟩
      rw [hbb]
      have HBB := Lib.hid hbb
      clear hbb
      cases bb
      rotate_left
      · go_wp2_with (go_at_call 34; ((with_reducible refine (alive_any _).mono ?_); rintro e w4 ⟨rfl, hb⟩))
        go_ret
        exact ⟨rfl, HBV2.out.trans (hb.mono HBV2.out.size)⟩
      have HSUM : RowKit.Hid (sa + sb ≤ 60) := Lib.hid (by have h := HBB.out; simp at h; omega)
      have HVS : RowKit.Hid (([] : List ByteArray).length + tszN d ta ≤ 100000) := Lib.hid (by rw [HSZA.out]; simp; omega)
      have HLA := Lib.hid (rvars_any d (.slice none 0 0) _ [] ta v4 HV1.out ⟨none, 0, rfl, fun i s h => by simp at h⟩ HVS.out)
      go_upto_region 4 with (go_at_call 35; (with_reducible refine HLA.out.mono ?_); rintro e v5 ⟨vn, rfl, hsr, hb5⟩; have HSR := Lib.hid hsr; have HB5 := Lib.hid hb5; (obtain ⟨qn, cn, rfl, hqn⟩ := hsr); have HQN := Lib.hid hqn; clear hb5 hqn)
      have HVT := Lib.hid (varsT_length d [] tb)
      have HVA := Lib.hid (varsT_length d [] ta)
      obtain ⟨NS, hNS⟩ : ∃ l, varsT d [] ta = l := ⟨_, rfl⟩
      obtain ⟨NB, hNB⟩ : ∃ l, varsT d [] tb = l := ⟨_, rfl⟩
      rw [hNS] at HQN HSR HVA ⊢
      rw [hNB] at HVT
      have HNS := Lib.hid hNS
      have HNB := Lib.hid hNB
      clear hNS hNB HLA
      have hnl : NS.length ≤ 60 := by have := HVA.out; have := HSUM.out; have := HSZA.out; simp at *; omega
      have hnb : NB.length ≤ 60 := by have := HVT.out; have := HSUM.out; have := HSZB.out; simp at *; omega
      have HNBL := Lib.hid hnb
      have HB5' := Lib.hid (HBV2.out.trans (HB5.out.mono HBV2.out.size))
      have HW1 := Lib.hid (HV1.out.below HB5.out)
      have HW2 := Lib.hid (HV2.out.below HB5.out)
      have x0 := keep_cell HB5.out x0
      have x1 := keep_cell HB5.out x1
      have x2 := keep_cell HB5.out x2
      have x3 := keep_cell HB5.out x3
      have x4 := keep_cell HB5.out x4
      have y0 := keep_cell HB5.out y0
      have y1 := keep_cell HB5.out y1
      have y2 := keep_cell HB5.out y2
      have y3 := keep_cell HB5.out y3
      have y4 := keep_cell HB5.out y4
      go_loopw [29] (fun t wr => ∃ j : Nat, j ≤ NS.length ∧ t = .int .i64 j ∧ Below v5.heap.size v5 wr ∧ ∀ x ∈ NS.take j, inN x NB = false) (fun t _ => NS.length - (intOf t).toNat)
      case atStart => exact ⟨0, Nat.zero_le _, rfl, Below.refl _ _, fun x hx => by simp at hx⟩
      case round =>
        obtain ⟨j, hj, rfl, hbel, hno⟩ := hrel
        have HBEL := Lib.hid hbel
        have HNO := Lib.hid hno
        have x0 := keep_cell hbel x0
        have x1 := keep_cell hbel x1
        have x2 := keep_cell hbel x2
        have x3 := keep_cell hbel x3
        have x4 := keep_cell hbel x4
        have y0 := keep_cell hbel y0
        have y1 := keep_cell hbel y1
        have y2 := keep_cell hbel y2
        have y3 := keep_cell hbel y3
        have y4 := keep_cell hbel y4
        have HBR := Lib.hid (HB5'.out.trans (hbel.mono HB5'.out.size))
        have HR1 := Lib.hid (HW1.out.below hbel)
        have HR2 := Lib.hid (HW2.out.below hbel)
        clear hno
        by_cases hlt : j < NS.length
        · have hltb : decide (j < NS.length) = true := by simpa using hlt
          have hx := List.getElem?_eq_getElem hlt
          have HTK : RowKit.Hid (NS.take (j + 1) = NS.take j ++ [NS[j]]) := Lib.hid (List.take_succ_eq_append_getElem hlt)
          generalize hnm : NS[j] = nm at *
          clear hnm
          obtain ⟨gn, rfl, hcn⟩ := HQN.out j nm hx
          have n0 := keep_cell hbel hcn
          have HLB := Lib.hid (rvars_any d (.slice none 0 0) _ [] tb wr HR2.out ⟨none, 0, rfl, fun i s h => by simp at h⟩ (by rw [HSZB.out]; have := HSUM.out; simp; omega))
          rcases Bool.eq_false_or_eq_true (inN nm NB) with hin | hin
          · have HIN := Lib.hid hin
            clear hin hx hcn hbel
            go_wp2_with (first
              | (go_at_call 35; (with_reducible refine HLB.out.mono ?_); rintro e w6 ⟨vb6, rfl, hsr6, hb6⟩; rw [HNB.out] at hsr6; have HSR6 := Lib.hid hsr6; have HB6 := Lib.hid hb6; clear hsr6 hb6)
              | (go_at_call 36; (with_reducible refine (in_any nm _ NB _ HSR6.out (by have := HNBL.out; omega)).mono ?_); rintro e w7 ⟨rfl, rfl⟩; rw [HIN.out])
              | (go_at_call 34; ((with_reducible refine (alive_any _).mono ?_); rintro e w8 ⟨rfl, hb8⟩; have HB8 := Lib.hid hb8; clear hb8)))
            go_ret
            have h9 := HBR.out.trans (HB6.out.mono HBR.out.size)
            exact ⟨rfl, h9.trans (HB8.out.mono h9.size)⟩
          · have HIN := Lib.hid hin
            clear hin hx hcn hbel
            go_wp2_with (first
              | (go_at_call 35; (with_reducible refine HLB.out.mono ?_); rintro e w6 ⟨vb6, rfl, hsr6, hb6⟩; rw [HNB.out] at hsr6; have HSR6 := Lib.hid hsr6; have HB6 := Lib.hid hb6; clear hsr6 hb6)
              | (go_at_call 36; (with_reducible refine (in_any nm _ NB _ HSR6.out (by have := HNBL.out; omega)).mono ?_); rintro e w7 ⟨rfl, rfl⟩; rw [HIN.out]))
            refine ⟨⟨j + 1, by omega, by go_num, HBEL.out.trans (HB6.out.mono HBEL.out.size), fun x hx => ?_⟩, by simp [intOf]; omega⟩
            rw [HTK.out] at hx
            rcases List.mem_append.1 hx with hx | hx
            · exact HNO.out x hx
            · cases List.mem_singleton.1 hx; exact HIN.out
        · obtain rfl : j = NS.length := by omega
          have hltb : decide (NS.length < NS.length) = false := by simp
          have hdis : ∀ n, Oc n ta → Oc n tb → False := fun n h1 h2 => by
            have m1 : n ∈ NS := by rw [← HNS.out]; exact vars_mem (oc_hasV HI1.out.dp h1)
            have m2 : n ∈ NB := by rw [← HNB.out]; exact vars_mem (oc_hasV HI2.out.dp h2)
            have h3 := HNO.out n (by rw [List.take_length]; exact m1)
            rw [inN_iffL.2 m2] at h3
            cases h3
          have HDIS := Lib.hid hdis
          have hoc := oc_nms (a := ta) (b := tb) HI1.out.dp HI2.out.dp
          have HOC := Lib.hid hoc
          have hme := meet_any wr d _ _ ta tb HR1.out HR2.out ⟨HTA.out, HTB.out⟩ (by rw [tot_one]; show tszN d ta + tszN d tb ≤ 1000; rw [HSZA.out, HSZB.out]; have := HSUM.out; omega)
          have HME := Lib.hid hme
          have HDA := Lib.hid HI1.out.dp
          have HDB := Lib.hid HI2.out.dp
          clear hdis hoc hme hbel
          go_upto_region 10 with (go_at_call 20; (with_reducible refine HME.out.mono ?_); rintro e w5 ⟨hb5, ⟨rfl, hno⟩ | ⟨σ, u, hB, hu, ⟨k6, I6, p6, m6, q6, l6, c6, rfl, hcn, hit⟩ | ⟨rfl, hbig⟩⟩⟩)
          · have HN := Lib.hid (meet_none HTA.out.tyy HTB.out.tyy HDIS.out hno)
            have HBX := Lib.hid (hb5.trans ((below_alloc w5 (.cells #[.int .i64 0, .string ⟨#[]⟩, .string ⟨#[]⟩, .int .i64 0, .slice none 0 0] 36)).mono hb5.size))
            have f1 : abB ta tb = false := by
              cases h : abB ta tb with
              | false => rfl
              | true => exact absurd (abB_iff.1 h) HN.out.1
            have f2 : abB tb ta = false := by
              cases h : abB tb ta with
              | false => rfl
              | true => exact absurd (abB_iff.1 h) HN.out.2
            have F1 := Lib.hid f1
            have F2 := Lib.hid f2
            clear hno hb5 f1 f2
            generalize w5.alloc (.cells #[.int .i64 0, .string ⟨#[]⟩, .string ⟨#[]⟩, .int .i64 0, .slice none 0 0] 36) = WM at *
            have x0 := keep_cell HBX.out x0
            have x1 := keep_cell HBX.out x1
            have x2 := keep_cell HBX.out x2
            have x3 := keep_cell HBX.out x3
            have x4 := keep_cell HBX.out x4
            have y0 := keep_cell HBX.out y0
            have y1 := keep_cell HBX.out y1
            have y2 := keep_cell HBX.out y2
            have y3 := keep_cell HBX.out y3
            have y4 := keep_cell HBX.out y4
            have HTW := Lib.hid (Two.mk (w := WM) (d := d) (HR1.out.below HBX.out) (HR2.out.below HBX.out) HSA.out HSB.out (by rw [HSZA.out]; have := HSUM.out; omega) (by rw [HSZB.out]; have := HSUM.out; omega))
            have HBY := Lib.hid (Below.refl WM.heap.size WM)
            go_wp2_with (first
              | (go_at_call 15; (with_reducible refine (no13_any _ _).mono ?_); rintro e w7 ⟨rfl, hb7⟩; have x0 := keep_cell hb7 x0; have x1 := keep_cell hb7 x1; have x2 := keep_cell hb7 x2; have x3 := keep_cell hb7 x3; have x4 := keep_cell hb7 x4; have y0 := keep_cell hb7 y0; have y1 := keep_cell hb7 y1; have y2 := keep_cell hb7 y2; have y3 := keep_cell hb7 y3; have y4 := keep_cell hb7 y4; have HTW := Lib.hid (HTW.out.below hb7); have HBY := Lib.hid (HBY.out.trans (hb7.mono HBY.out.size)); clear hb7)
              | (go_at_call 37; first
                  | ((with_reducible refine (aboveB_any d _ _ ta tb _ HTW.out).mono ?_); rintro e w7 ⟨rfl, hb7⟩; rw [F1.out]; have x0 := keep_cell hb7 x0; have x1 := keep_cell hb7 x1; have x2 := keep_cell hb7 x2; have x3 := keep_cell hb7 x3; have x4 := keep_cell hb7 x4; have y0 := keep_cell hb7 y0; have y1 := keep_cell hb7 y1; have y2 := keep_cell hb7 y2; have y3 := keep_cell hb7 y3; have y4 := keep_cell hb7 y4; have HTW := Lib.hid (HTW.out.below hb7); have HBY := Lib.hid (HBY.out.trans (hb7.mono HBY.out.size)); clear hb7)
                  | ((with_reducible refine (aboveB_any d _ _ tb ta _ HTW.out.turn).mono ?_); rintro e w7 ⟨rfl, hb7⟩; rw [F2.out]; have HTW := Lib.hid (HTW.out.below hb7); have HBY := Lib.hid (HBY.out.trans (hb7.mono HBY.out.size)); clear hb7))
              | (go_at_call 34; ((with_reducible refine (alive_any _).mono ?_); rintro e w8 ⟨rfl, hb8⟩; have HBY := Lib.hid (HBY.out.trans (hb8.mono HBY.out.size)); clear hb8)))
            go_ret
            have h9 := HBR.out.trans (HBX.out.mono HBR.out.size)
            exact ⟨rfl, h9.trans (HBY.out.mono h9.size)⟩
          · have HB := Lib.hid hB
            have HU := Lib.hid hu
            have HCN := Lib.hid hcn
            have hbx := hb5.trans ((below_alloc w5 (.cells #[.int .i64 k6, .string p6, .string m6, .int .i64 I6, .slice q6 l6 c6] 36)).mono hb5.size)
            have HBX := Lib.hid hbx
            have hnm := hb_new w5 (.cells #[.int .i64 k6, .string p6, .string m6, .int .i64 I6, .slice q6 l6 c6] 36)
            have hit9 := (hit (1000 + d) (by omega)).below (below_alloc w5 (.cells #[.int .i64 k6, .string p6, .string m6, .int .i64 I6, .slice q6 l6 c6] 36))
            have HIT := Lib.hid hit9
            obtain ⟨z0, z1, z2, z3, z4⟩ := box_cells hnm
            clear hB hu hcn hit hb5 hnm hit9 hbx
            generalize w5.alloc (.cells #[.int .i64 k6, .string p6, .string m6, .int .i64 I6, .slice q6 l6 c6] 36) = WM at *
            generalize w5.heap.size = M at *
            have x0 := keep_cell HBX.out x0
            have x1 := keep_cell HBX.out x1
            have x2 := keep_cell HBX.out x2
            have x3 := keep_cell HBX.out x3
            have x4 := keep_cell HBX.out x4
            have y0 := keep_cell HBX.out y0
            have y1 := keep_cell HBX.out y1
            have y2 := keep_cell HBX.out y2
            have y3 := keep_cell HBX.out y3
            have y4 := keep_cell HBX.out y4
            have hub := sol_pair HB.out.sol HU.out
            obtain ⟨e1, e2⟩ := meet_same HB.out HTA.out.tyy HTB.out.tyy HOC.out.1 HOC.out.2 HU.out hub HDIS.out
            have g1 : abB ta u = true := abB_iff.2 HU.out.ab
            have g2 : abB tb u = true := abB_iff.2 hub.ab
            have g3 : (abB u ta && abB ta u) = abB tb ta := by rw [g1, Bool.and_true]; exact Bool.eq_iff_iff.2 (by rw [abB_iff, abB_iff]; exact e1)
            have g4 : (abB u tb && abB tb u) = abB ta tb := by rw [g2, Bool.and_true]; exact Bool.eq_iff_iff.2 (by rw [abB_iff, abB_iff]; exact e2)
            have G1 := Lib.hid g1
            have G2 := Lib.hid g2
            have G3 := Lib.hid g3
            have G4 := Lib.hid g4
            have dA := HDA.out
            have dB := HDB.out
            have tyA := HTA.out.ty dA
            have tyB := HTB.out.ty dB
            have huz := tsz_cnt _ _ HIT.out.dp
            have smA := Sm.all dA HSA.out (1000 + d)
            have smB := Sm.all dB HSB.out (1000 + d)
            have zA : tszN (1000 + d) ta ≤ 30000 := by rw [tsz_dp dA (1000 + d) (by omega), HSZA.out]; have := HSUM.out; omega
            have zB : tszN (1000 + d) tb ≤ 30000 := by rw [tsz_dp dB (1000 + d) (by omega), HSZB.out]; have := HSUM.out; omega
            have zU : tszN (1000 + d) u ≤ 30000 := by rw [huz]; have := HCN.out; omega
            have smU := sm_cnt (1000 + d) u (by have := HCN.out; omega)
            have iA := (HR1.out.below HBX.out).more (Nat.le_add_left d 1000)
            have iB := (HR2.out.below HBX.out).more (Nat.le_add_left d 1000)
            have TAU := Lib.hid (Two.mk iA HIT.out smA smU zA zU)
            have TBU := Lib.hid (Two.mk iB HIT.out smB smU zB zU)
            have TAB := Lib.hid (Two.mk iA iB smA smB zA zB)
            clear g1 g2 g3 g4 dA dB tyA tyB huz smA smB zA zB zU smU iA iB e1 e2 hub
            have HBY := Lib.hid (Below.refl WM.heap.size WM)
            go_upto_region 12 with (go_at_call 15; (with_reducible refine (no13_any _ _).mono ?_); rintro e w7 ⟨rfl, hb7⟩; have HBZ := Lib.hid hb7; clear hb7)
            have x0 := keep_cell HBZ.out x0
            have x1 := keep_cell HBZ.out x1
            have x2 := keep_cell HBZ.out x2
            have x3 := keep_cell HBZ.out x3
            have x4 := keep_cell HBZ.out x4
            have y0 := keep_cell HBZ.out y0
            have y1 := keep_cell HBZ.out y1
            have y2 := keep_cell HBZ.out y2
            have y3 := keep_cell HBZ.out y3
            have y4 := keep_cell HBZ.out y4
            have z0 := keep_cell HBZ.out z0
            have z1 := keep_cell HBZ.out z1
            have z2 := keep_cell HBZ.out z2
            have z3 := keep_cell HBZ.out z3
            have z4 := keep_cell HBZ.out z4
            have TAU := Lib.hid (TAU.out.below HBZ.out)
            have TBU := Lib.hid (TBU.out.below HBZ.out)
            have TAB := Lib.hid (TAB.out.below HBZ.out)
            refine wp_region_held_drew (S := (fun w' => RowKit.Hid (Below w7.heap.size w7 w') ∧ w'.cell? ⟨w.heap.size, 0, none⟩ = some (.int .i64 k1) ∧ w'.cell? ⟨w.heap.size, 1, none⟩ = some (.string p1) ∧ w'.cell? ⟨w.heap.size, 2, none⟩ = some (.string n1) ∧ w'.cell? ⟨w.heap.size, 3, none⟩ = some (.int .i64 N1) ∧ w'.cell? ⟨w.heap.size, 4, none⟩ = some (.slice q1 l1 c1) ∧ w'.cell? ⟨w.heap.size + 1, 0, none⟩ = some (.int .i64 k2) ∧ w'.cell? ⟨w.heap.size + 1, 1, none⟩ = some (.string p2) ∧ w'.cell? ⟨w.heap.size + 1, 2, none⟩ = some (.string n2) ∧ w'.cell? ⟨w.heap.size + 1, 3, none⟩ = some (.int .i64 N2) ∧ w'.cell? ⟨w.heap.size + 1, 4, none⟩ = some (.slice q2 l2 c2) ∧ w'.cell? ⟨M, 0, none⟩ = some (.int .i64 k6) ∧ w'.cell? ⟨M, 1, none⟩ = some (.string p6) ∧ w'.cell? ⟨M, 2, none⟩ = some (.string m6) ∧ w'.cell? ⟨M, 3, none⟩ = some (.int .i64 I6) ∧ w'.cell? ⟨M, 4, none⟩ = some (.slice q6 l6 c6))) (by kernel_rfl) (by exact ⟨Lib.hid (below_drewN (Below.refl _ _) 1), x0, x1, x2, x3, x4, y0, y1, y2, y3, y4, z0, z1, z2, z3, z4⟩) (fun hHeld => ?_)
            refine wpAnyH_take (i := 0) (oi := ⟨some 66, _, _, _, _, _⟩) (v := ?_) rfl (by kernel_rfl) (by kernel_rfl) (by kernel_rfl) (fun _ _ _ h => h) (Or.inl ⟨by rfl, ?_⟩) (by assumption) ?_
            rotate_left
            focus (intro w hSw; (try dsimp only at hSw); go_simp; first | done | with_reducible rfl)
            try simp only [Act.put, List.setIfInBounds_toArray, List.set_cons_zero, List.set_cons_succ]
            refine wpAnyH_take (i := 1) (oi := ⟨some 67, _, _, _, _, _⟩) (v := ?_) rfl (by kernel_rfl) (by kernel_rfl) (by kernel_rfl) (fun _ _ _ h => h) (Or.inl ⟨by rfl, ?_⟩) (by assumption) ?_
            rotate_left
            focus (intro w hSw; (try dsimp only at hSw); go_simp; first | done | with_reducible rfl)
            try simp only [Act.put, List.setIfInBounds_toArray, List.set_cons_zero, List.set_cons_succ]
            refine wpAnyH_ready (rs := [2]) (by kernel_rfl) (by simp) ?_
            refine AllReadyH.cons (o := ⟨some 68, _, _, _, _, _⟩) rfl (fun K hK => ?_) AllReadyH.nil
            go_simp
            have hc := aboveB_any (1000 + d) _ _ ta u _ ((TAU.out.below hHeld.1.out)); (with_reducible refine hc.mono ?_); rintro e g1 ⟨rfl, hb⟩; rw [G1.out]; clear hc
            go_wp2_with fail
            refine hK.out _ _ (by exact ⟨Lib.hid (hHeld.1.out.trans (hb.mono hHeld.1.out.size)), keep_cell hb hHeld.2.1, keep_cell hb hHeld.2.2.1, keep_cell hb hHeld.2.2.2.1, keep_cell hb hHeld.2.2.2.2.1, keep_cell hb hHeld.2.2.2.2.2.1, keep_cell hb hHeld.2.2.2.2.2.2.1, keep_cell hb hHeld.2.2.2.2.2.2.2.1, keep_cell hb hHeld.2.2.2.2.2.2.2.2.1, keep_cell hb hHeld.2.2.2.2.2.2.2.2.2.1, keep_cell hb hHeld.2.2.2.2.2.2.2.2.2.2.1, keep_cell hb hHeld.2.2.2.2.2.2.2.2.2.2.2.1, keep_cell hb hHeld.2.2.2.2.2.2.2.2.2.2.2.2.1, keep_cell hb hHeld.2.2.2.2.2.2.2.2.2.2.2.2.2.1, keep_cell hb hHeld.2.2.2.2.2.2.2.2.2.2.2.2.2.2.1, keep_cell hb hHeld.2.2.2.2.2.2.2.2.2.2.2.2.2.2.2⟩) (fun hNew => ?_)
            clear hK K
            clear hHeld hb; have hHeld := hNew; clear hNew
            try simp only [Act.put, List.setIfInBounds_toArray, List.set_cons_zero, List.set_cons_succ]
            refine wpAnyH_take (i := 3) (oi := ⟨some 69, _, _, _, _, _⟩) (v := ?_) rfl (by kernel_rfl) (by kernel_rfl) (by kernel_rfl) (fun _ _ _ h => h) (Or.inl ⟨by rfl, ?_⟩) (by assumption) ?_
            rotate_left
            focus (intro w hSw; (try dsimp only at hSw); go_simp; first | done | with_reducible rfl)
            try simp only [Act.put, List.setIfInBounds_toArray, List.set_cons_zero, List.set_cons_succ]
            refine wpAnyH_take (i := 4) (oi := ⟨some 70, _, _, _, _, _⟩) (v := ?_) rfl (by kernel_rfl) (by kernel_rfl) (by kernel_rfl) (fun _ _ _ h => h) (Or.inl ⟨by rfl, ?_⟩) (by assumption) ?_
            rotate_left
            focus (intro w hSw; (try dsimp only at hSw); go_simp; first | done | with_reducible rfl)
            try simp only [Act.put, List.setIfInBounds_toArray, List.set_cons_zero, List.set_cons_succ]
            refine wpAnyH_take (i := 5) (oi := ⟨some 71, _, _, _, _, _⟩) (v := ?_) rfl (by kernel_rfl) (by kernel_rfl) (by kernel_rfl) (fun _ _ _ h => h) (Or.inl ⟨by rfl, ?_⟩) (by assumption) ?_
            rotate_left
            focus (intro w hSw; (try dsimp only at hSw); go_simp; first | done | with_reducible rfl)
            try simp only [Act.put, List.setIfInBounds_toArray, List.set_cons_zero, List.set_cons_succ]
            refine wpAnyH_ready (rs := [6]) (by kernel_rfl) (by simp) ?_
            refine AllReadyH.cons (o := ⟨some 72, _, _, _, _, _⟩) rfl (fun K hK => ?_) AllReadyH.nil
            go_simp
            have hc := aboveB_any (1000 + d) _ _ tb u _ ((TBU.out.below hHeld.1.out)); (with_reducible refine hc.mono ?_); rintro e g2 ⟨rfl, hb⟩; rw [G2.out]; clear hc
            go_wp2_with fail
            refine hK.out _ _ (by exact ⟨Lib.hid (hHeld.1.out.trans (hb.mono hHeld.1.out.size)), keep_cell hb hHeld.2.1, keep_cell hb hHeld.2.2.1, keep_cell hb hHeld.2.2.2.1, keep_cell hb hHeld.2.2.2.2.1, keep_cell hb hHeld.2.2.2.2.2.1, keep_cell hb hHeld.2.2.2.2.2.2.1, keep_cell hb hHeld.2.2.2.2.2.2.2.1, keep_cell hb hHeld.2.2.2.2.2.2.2.2.1, keep_cell hb hHeld.2.2.2.2.2.2.2.2.2.1, keep_cell hb hHeld.2.2.2.2.2.2.2.2.2.2.1, keep_cell hb hHeld.2.2.2.2.2.2.2.2.2.2.2.1, keep_cell hb hHeld.2.2.2.2.2.2.2.2.2.2.2.2.1, keep_cell hb hHeld.2.2.2.2.2.2.2.2.2.2.2.2.2.1, keep_cell hb hHeld.2.2.2.2.2.2.2.2.2.2.2.2.2.2.1, keep_cell hb hHeld.2.2.2.2.2.2.2.2.2.2.2.2.2.2.2⟩) (fun hNew => ?_)
            clear hK K
            clear hHeld hb; have hHeld := hNew; clear hNew
            try simp only [Act.put, List.setIfInBounds_toArray, List.set_cons_zero, List.set_cons_succ]
            refine wpAnyH_take (i := 7) (oi := ⟨some 73, _, _, _, _, _⟩) (v := ?_) rfl (by kernel_rfl) (by kernel_rfl) (by kernel_rfl) (fun _ _ _ h => h) (Or.inl ⟨by rfl, ?_⟩) (by assumption) ?_
            rotate_left
            focus (intro w hSw; (try dsimp only at hSw); go_simp; first | done | with_reducible rfl)
            try simp only [Act.put, List.setIfInBounds_toArray, List.set_cons_zero, List.set_cons_succ]
            refine wpAnyH_take (i := 8) (oi := ⟨some 74, _, _, _, _, _⟩) (v := ?_) rfl (by kernel_rfl) (by kernel_rfl) (by kernel_rfl) (fun _ _ _ h => h) (Or.inl ⟨by rfl, ?_⟩) (by assumption) ?_
            rotate_left
            focus (intro w hSw; (try dsimp only at hSw); go_simp; first | done | with_reducible rfl)
            try simp only [Act.put, List.setIfInBounds_toArray, List.set_cons_zero, List.set_cons_succ]
            refine wpAnyH_take (i := 9) (oi := ⟨some 75, _, _, _, _, _⟩) (v := ?_) rfl (by kernel_rfl) (by kernel_rfl) (by kernel_rfl) (fun _ _ _ h => h) (Or.inl ⟨by rfl, ?_⟩) (by assumption) ?_
            rotate_left
            focus (intro w hSw; (try dsimp only at hSw); go_simp; first | done | with_reducible rfl)
            try simp only [Act.put, List.setIfInBounds_toArray, List.set_cons_zero, List.set_cons_succ]
            refine wpAnyH_take (i := 10) (oi := ⟨some 76, _, _, _, _, _⟩) (v := ?_) rfl (by kernel_rfl) (by kernel_rfl) (by kernel_rfl) (fun _ _ _ h => h) (Or.inl ⟨by rfl, ?_⟩) (by assumption) ?_
            rotate_left
            focus (intro w hSw; (try dsimp only at hSw); go_simp; first | done | with_reducible rfl)
            try simp only [Act.put, List.setIfInBounds_toArray, List.set_cons_zero, List.set_cons_succ]
            refine wpAnyH_take (i := 12) (oi := ⟨some 78, _, _, _, _, _⟩) (v := ?_) rfl (by kernel_rfl) (by kernel_rfl) (by kernel_rfl) (fun _ _ _ h => h) (Or.inl ⟨by rfl, ?_⟩) (by assumption) ?_
            rotate_left
            focus (intro w hSw; (try dsimp only at hSw); go_simp; first | done | with_reducible rfl)
            try simp only [Act.put, List.setIfInBounds_toArray, List.set_cons_zero, List.set_cons_succ]
            refine wpAnyH_take (i := 13) (oi := ⟨some 79, _, _, _, _, _⟩) (v := ?_) rfl (by kernel_rfl) (by kernel_rfl) (by kernel_rfl) (fun _ _ _ h => h) (Or.inl ⟨by rfl, ?_⟩) (by assumption) ?_
            rotate_left
            focus (intro w hSw; (try dsimp only at hSw); go_simp; first | done | with_reducible rfl)
            try simp only [Act.put, List.setIfInBounds_toArray, List.set_cons_zero, List.set_cons_succ]
            refine wpAnyH_ready (rs := [11]) (by kernel_rfl) (by simp) ?_
            refine AllReadyH.cons (o := ⟨some 77, _, _, _, _, _⟩) rfl (fun K hK => ?_) AllReadyH.nil
            go_simp
            have hc := sameB_any (1000 + d) _ _ u ta _ ((TAU.out.below hHeld.1.out).turn); (with_reducible refine hc.mono ?_); rintro e g3 ⟨rfl, hb⟩; rw [G3.out]; clear hc
            go_wp2_with fail
            refine hK.out _ _ (by exact ⟨Lib.hid (hHeld.1.out.trans (hb.mono hHeld.1.out.size)), keep_cell hb hHeld.2.1, keep_cell hb hHeld.2.2.1, keep_cell hb hHeld.2.2.2.1, keep_cell hb hHeld.2.2.2.2.1, keep_cell hb hHeld.2.2.2.2.2.1, keep_cell hb hHeld.2.2.2.2.2.2.1, keep_cell hb hHeld.2.2.2.2.2.2.2.1, keep_cell hb hHeld.2.2.2.2.2.2.2.2.1, keep_cell hb hHeld.2.2.2.2.2.2.2.2.2.1, keep_cell hb hHeld.2.2.2.2.2.2.2.2.2.2.1, keep_cell hb hHeld.2.2.2.2.2.2.2.2.2.2.2.1, keep_cell hb hHeld.2.2.2.2.2.2.2.2.2.2.2.2.1, keep_cell hb hHeld.2.2.2.2.2.2.2.2.2.2.2.2.2.1, keep_cell hb hHeld.2.2.2.2.2.2.2.2.2.2.2.2.2.2.1, keep_cell hb hHeld.2.2.2.2.2.2.2.2.2.2.2.2.2.2.2⟩) (fun hNew => ?_)
            clear hK K
            clear hHeld hb; have hHeld := hNew; clear hNew
            try simp only [Act.put, List.setIfInBounds_toArray, List.set_cons_zero, List.set_cons_succ]
            refine wpAnyH_ready (rs := [14]) (by kernel_rfl) (by simp) ?_
            refine AllReadyH.cons (o := ⟨some 80, _, _, _, _, _⟩) rfl (fun K hK => ?_) AllReadyH.nil
            go_simp
            have hc := aboveB_any (1000 + d) _ _ tb ta _ ((TAB.out.below hHeld.1.out).turn); (with_reducible refine hc.mono ?_); rintro e g4 ⟨rfl, hb⟩; skip; clear hc
            go_wp2_with fail
            refine hK.out _ _ (by exact ⟨Lib.hid (hHeld.1.out.trans (hb.mono hHeld.1.out.size)), keep_cell hb hHeld.2.1, keep_cell hb hHeld.2.2.1, keep_cell hb hHeld.2.2.2.1, keep_cell hb hHeld.2.2.2.2.1, keep_cell hb hHeld.2.2.2.2.2.1, keep_cell hb hHeld.2.2.2.2.2.2.1, keep_cell hb hHeld.2.2.2.2.2.2.2.1, keep_cell hb hHeld.2.2.2.2.2.2.2.2.1, keep_cell hb hHeld.2.2.2.2.2.2.2.2.2.1, keep_cell hb hHeld.2.2.2.2.2.2.2.2.2.2.1, keep_cell hb hHeld.2.2.2.2.2.2.2.2.2.2.2.1, keep_cell hb hHeld.2.2.2.2.2.2.2.2.2.2.2.2.1, keep_cell hb hHeld.2.2.2.2.2.2.2.2.2.2.2.2.2.1, keep_cell hb hHeld.2.2.2.2.2.2.2.2.2.2.2.2.2.2.1, keep_cell hb hHeld.2.2.2.2.2.2.2.2.2.2.2.2.2.2.2⟩) (fun hNew => ?_)
            clear hK K
            clear hHeld hb; have hHeld := hNew; clear hNew
            try simp only [Act.put, List.setIfInBounds_toArray, List.set_cons_zero, List.set_cons_succ]
            refine wpAnyH_take (i := 15) (oi := ⟨some 81, _, _, _, _, _⟩) (v := .bool true) rfl (by kernel_rfl) (by kernel_rfl) (by kernel_rfl) (fun _ _ _ h => h) (Or.inl ⟨by rfl, ?_⟩) (by assumption) ?_
            focus (intro w hSw; (try dsimp only at hSw); go_simp; first | done | simp)
            try simp only [Act.put, List.setIfInBounds_toArray, List.set_cons_zero, List.set_cons_succ]
            refine wpAnyH_take (i := 16) (oi := ⟨some 82, _, _, _, _, _⟩) (v := ?_) rfl (by kernel_rfl) (by kernel_rfl) (by kernel_rfl) (fun _ _ _ h => h) (Or.inl ⟨by rfl, ?_⟩) (by assumption) ?_
            rotate_left
            focus (intro w hSw; (try dsimp only at hSw); go_simp; first | done | with_reducible rfl)
            try simp only [Act.put, List.setIfInBounds_toArray, List.set_cons_zero, List.set_cons_succ]
            refine wpAnyH_take (i := 17) (oi := ⟨some 83, _, _, _, _, _⟩) (v := ?_) rfl (by kernel_rfl) (by kernel_rfl) (by kernel_rfl) (fun _ _ _ h => h) (Or.inl ⟨by rfl, ?_⟩) (by assumption) ?_
            rotate_left
            focus (intro w hSw; (try dsimp only at hSw); go_simp; first | done | with_reducible rfl)
            try simp only [Act.put, List.setIfInBounds_toArray, List.set_cons_zero, List.set_cons_succ]
            refine wpAnyH_take (i := 18) (oi := ⟨some 84, _, _, _, _, _⟩) (v := ?_) rfl (by kernel_rfl) (by kernel_rfl) (by kernel_rfl) (fun _ _ _ h => h) (Or.inl ⟨by rfl, ?_⟩) (by assumption) ?_
            rotate_left
            focus (intro w hSw; (try dsimp only at hSw); go_simp; first | done | with_reducible rfl)
            try simp only [Act.put, List.setIfInBounds_toArray, List.set_cons_zero, List.set_cons_succ]
            refine wpAnyH_take (i := 19) (oi := ⟨some 85, _, _, _, _, _⟩) (v := ?_) rfl (by kernel_rfl) (by kernel_rfl) (by kernel_rfl) (fun _ _ _ h => h) (Or.inl ⟨by rfl, ?_⟩) (by assumption) ?_
            rotate_left
            focus (intro w hSw; (try dsimp only at hSw); go_simp; first | done | with_reducible rfl)
            try simp only [Act.put, List.setIfInBounds_toArray, List.set_cons_zero, List.set_cons_succ]
            refine wpAnyH_take (i := 21) (oi := ⟨some 87, _, _, _, _, _⟩) (v := ?_) rfl (by kernel_rfl) (by kernel_rfl) (by kernel_rfl) (fun _ _ _ h => h) (Or.inl ⟨by rfl, ?_⟩) (by assumption) ?_
            rotate_left
            focus (intro w hSw; (try dsimp only at hSw); go_simp; first | done | with_reducible rfl)
            try simp only [Act.put, List.setIfInBounds_toArray, List.set_cons_zero, List.set_cons_succ]
            refine wpAnyH_take (i := 22) (oi := ⟨some 88, _, _, _, _, _⟩) (v := ?_) rfl (by kernel_rfl) (by kernel_rfl) (by kernel_rfl) (fun _ _ _ h => h) (Or.inl ⟨by rfl, ?_⟩) (by assumption) ?_
            rotate_left
            focus (intro w hSw; (try dsimp only at hSw); go_simp; first | done | with_reducible rfl)
            try simp only [Act.put, List.setIfInBounds_toArray, List.set_cons_zero, List.set_cons_succ]
            refine wpAnyH_ready (rs := [20]) (by kernel_rfl) (by simp) ?_
            refine AllReadyH.cons (o := ⟨some 86, _, _, _, _, _⟩) rfl (fun K hK => ?_) AllReadyH.nil
            go_simp
            have hc := sameB_any (1000 + d) _ _ u tb _ ((TBU.out.below hHeld.1.out).turn); (with_reducible refine hc.mono ?_); rintro e g5 ⟨rfl, hb⟩; rw [G4.out]; clear hc
            go_wp2_with fail
            refine hK.out _ _ (by exact ⟨Lib.hid (hHeld.1.out.trans (hb.mono hHeld.1.out.size)), keep_cell hb hHeld.2.1, keep_cell hb hHeld.2.2.1, keep_cell hb hHeld.2.2.2.1, keep_cell hb hHeld.2.2.2.2.1, keep_cell hb hHeld.2.2.2.2.2.1, keep_cell hb hHeld.2.2.2.2.2.2.1, keep_cell hb hHeld.2.2.2.2.2.2.2.1, keep_cell hb hHeld.2.2.2.2.2.2.2.2.1, keep_cell hb hHeld.2.2.2.2.2.2.2.2.2.1, keep_cell hb hHeld.2.2.2.2.2.2.2.2.2.2.1, keep_cell hb hHeld.2.2.2.2.2.2.2.2.2.2.2.1, keep_cell hb hHeld.2.2.2.2.2.2.2.2.2.2.2.2.1, keep_cell hb hHeld.2.2.2.2.2.2.2.2.2.2.2.2.2.1, keep_cell hb hHeld.2.2.2.2.2.2.2.2.2.2.2.2.2.2.1, keep_cell hb hHeld.2.2.2.2.2.2.2.2.2.2.2.2.2.2.2⟩) (fun hNew => ?_)
            clear hK K
            clear hHeld hb; have hHeld := hNew; clear hNew
            try simp only [Act.put, List.setIfInBounds_toArray, List.set_cons_zero, List.set_cons_succ]
            refine wpAnyH_ready (rs := [23]) (by kernel_rfl) (by simp) ?_
            refine AllReadyH.cons (o := ⟨some 89, _, _, _, _, _⟩) rfl (fun K hK => ?_) AllReadyH.nil
            go_simp
            have hc := aboveB_any (1000 + d) _ _ ta tb _ ((TAB.out.below hHeld.1.out)); (with_reducible refine hc.mono ?_); rintro e g6 ⟨rfl, hb⟩; skip; clear hc
            go_wp2_with fail
            refine hK.out _ _ (by exact ⟨Lib.hid (hHeld.1.out.trans (hb.mono hHeld.1.out.size)), keep_cell hb hHeld.2.1, keep_cell hb hHeld.2.2.1, keep_cell hb hHeld.2.2.2.1, keep_cell hb hHeld.2.2.2.2.1, keep_cell hb hHeld.2.2.2.2.2.1, keep_cell hb hHeld.2.2.2.2.2.2.1, keep_cell hb hHeld.2.2.2.2.2.2.2.1, keep_cell hb hHeld.2.2.2.2.2.2.2.2.1, keep_cell hb hHeld.2.2.2.2.2.2.2.2.2.1, keep_cell hb hHeld.2.2.2.2.2.2.2.2.2.2.1, keep_cell hb hHeld.2.2.2.2.2.2.2.2.2.2.2.1, keep_cell hb hHeld.2.2.2.2.2.2.2.2.2.2.2.2.1, keep_cell hb hHeld.2.2.2.2.2.2.2.2.2.2.2.2.2.1, keep_cell hb hHeld.2.2.2.2.2.2.2.2.2.2.2.2.2.2.1, keep_cell hb hHeld.2.2.2.2.2.2.2.2.2.2.2.2.2.2.2⟩) (fun hNew => ?_)
            clear hK K
            clear hHeld hb; have hHeld := hNew; clear hNew
            try simp only [Act.put, List.setIfInBounds_toArray, List.set_cons_zero, List.set_cons_succ]
            refine wpAnyH_take (i := 24) (oi := ⟨some 90, _, _, _, _, _⟩) (v := .bool true) rfl (by kernel_rfl) (by kernel_rfl) (by kernel_rfl) (fun _ _ _ h => h) (Or.inl ⟨by rfl, ?_⟩) (by assumption) ?_
            focus (intro w hSw; (try dsimp only at hSw); go_simp; first | done | simp)
            try simp only [Act.put, List.setIfInBounds_toArray, List.set_cons_zero, List.set_cons_succ]
            refine wpAnyH_take (i := 25) (oi := ⟨some 91, _, _, _, _, _⟩) (v := ?_) rfl (by kernel_rfl) (by kernel_rfl) (by kernel_rfl) (fun _ _ _ h => h) (Or.inl ⟨by rfl, ?_⟩) (by assumption) ?_
            rotate_left
            focus (intro w hSw; (try dsimp only at hSw); go_simp; first | done | with_reducible rfl)
            try simp only [Act.put, List.setIfInBounds_toArray, List.set_cons_zero, List.set_cons_succ]
            refine wpAnyH_take (i := 26) (oi := ⟨some 92, _, _, _, _, _⟩) (v := ?_) rfl (by kernel_rfl) (by kernel_rfl) (by kernel_rfl) (fun _ _ _ h => h) (Or.inl ⟨by rfl, ?_⟩) (by assumption) ?_
            rotate_left
            focus (intro w hSw; (try dsimp only at hSw); go_simp; first | done | with_reducible rfl)
            try simp only [Act.put, List.setIfInBounds_toArray, List.set_cons_zero, List.set_cons_succ]
            refine wpAnyH_ready (rs := [27]) (by kernel_rfl) (by simp) ?_
            refine AllReadyH.cons (o := ⟨some 93, _, _, _, _, _⟩) rfl (fun K hK => ?_) AllReadyH.nil
            go_simp
            have hc := alive_any; (with_reducible refine (hc _).mono ?_); rintro e g7 ⟨rfl, hb⟩; clear hc
            go_wp2_with fail
            refine hK.out _ _ (by exact ⟨Lib.hid (hHeld.1.out.trans (hb.mono hHeld.1.out.size)), keep_cell hb hHeld.2.1, keep_cell hb hHeld.2.2.1, keep_cell hb hHeld.2.2.2.1, keep_cell hb hHeld.2.2.2.2.1, keep_cell hb hHeld.2.2.2.2.2.1, keep_cell hb hHeld.2.2.2.2.2.2.1, keep_cell hb hHeld.2.2.2.2.2.2.2.1, keep_cell hb hHeld.2.2.2.2.2.2.2.2.1, keep_cell hb hHeld.2.2.2.2.2.2.2.2.2.1, keep_cell hb hHeld.2.2.2.2.2.2.2.2.2.2.1, keep_cell hb hHeld.2.2.2.2.2.2.2.2.2.2.2.1, keep_cell hb hHeld.2.2.2.2.2.2.2.2.2.2.2.2.1, keep_cell hb hHeld.2.2.2.2.2.2.2.2.2.2.2.2.2.1, keep_cell hb hHeld.2.2.2.2.2.2.2.2.2.2.2.2.2.2.1, keep_cell hb hHeld.2.2.2.2.2.2.2.2.2.2.2.2.2.2.2⟩) (fun hNew => ?_)
            clear hK K
            clear hHeld hb; have hHeld := hNew; clear hNew
            try simp only [Act.put, List.setIfInBounds_toArray, List.set_cons_zero, List.set_cons_succ]
            refine wpAnyH_take (i := 28) (oi := ⟨some 94, _, _, _, _, _⟩) (v := ?_) rfl (by kernel_rfl) (by kernel_rfl) (by kernel_rfl) (fun _ _ _ h => h) (Or.inl ⟨by rfl, ?_⟩) (by assumption) ?_
            rotate_left
            focus (intro w hSw; (try dsimp only at hSw); go_simp; first | done | with_reducible rfl)
            try simp only [Act.put, List.setIfInBounds_toArray, List.set_cons_zero, List.set_cons_succ]
            refine wpAnyH_take (i := 29) (oi := ⟨some 4, _, _, _, _, _⟩) (v := ?_) rfl (by kernel_rfl) (by kernel_rfl) (by kernel_rfl) (fun _ _ _ h => h) (Or.inl ⟨by rfl, ?_⟩) (by assumption) ?_
            rotate_left
            focus (intro w hSw; (try dsimp only at hSw); go_simp; first | done | with_reducible rfl)
            try simp only [Act.put, List.setIfInBounds_toArray, List.set_cons_zero, List.set_cons_succ]
            refine wpAnyH_done (by kernel_rfl) ?_ _
            skip
            have HBW := Lib.hid hHeld.1.out
            clear hHeld
            go_wp2
            go_ret
            have h9 := HBR.out.trans (HBX.out.mono HBR.out.size)
            have h10 := h9.trans (HBZ.out.mono h9.size)
            exact ⟨rfl, h10.trans (HBW.out.mono h10.size)⟩
          · have HBX := Lib.hid (hb5.trans ((below_alloc w5 (.cells #[.int .i64 0, .string ⟨#[]⟩, .string ⟨#[]⟩, .int .i64 0, .slice none 0 0] 36)).mono hb5.size))
            clear hB hu hbig hb5
            generalize w5.alloc (.cells #[.int .i64 0, .string ⟨#[]⟩, .string ⟨#[]⟩, .int .i64 0, .slice none 0 0] 36) = WM at *
            have HBY := Lib.hid (Below.refl WM.heap.size WM)
            go_wp2_with (first
              | (go_at_call 15; (with_reducible refine (no13_any _ _).mono ?_); rintro e w7 ⟨rfl, hb7⟩; have HBY := Lib.hid (HBY.out.trans (hb7.mono HBY.out.size)); clear hb7)
              | (go_at_call 34; ((with_reducible refine (alive_any _).mono ?_); rintro e w8 ⟨rfl, hb8⟩; have HBY := Lib.hid (HBY.out.trans (hb8.mono HBY.out.size)); clear hb8)))
            go_ret
            have h9 := HBR.out.trans (HBX.out.mono HBR.out.size)
            exact ⟨rfl, h9.trans (HBY.out.mono h9.size)⟩
end Go.Proofs.YtncebhddcokkoaaDoor
/- Arguments by value: a term; what the row assumes of the listed variables is met by the door's own heap. -/
namespace Go.Proofs.YtncebhddcokkoaaDoor
open Go.ChangeShapes Go.WideShapes Go.ChangeAt Go.RowKit
theorem ownKn : ownKnob Tryd.prog.godebug = none := by kernel_rfl
theorem laidTry : laidOutB Tryd.prog = true := by kernel_rfl
set_option maxRecDepth 100000
section
variable {H : Type} {enc : TypeId × Value → H} {W : World} {base : Nat} {v : Value} {d : DataW H} {p : List MemPlace}
theorem arg_t (hval : Value.okWide Tryd.prog W .any base 36 v) (h : DataW.Trod enc Tryd.prog W 0 (fun _ => true) true 36 v d p) : ∃ (m : Nat) (t : Tm), IsT W m v t := by
  obtain ⟨cs, rfl, hsz⟩ := okWide_struct Tryd.underlying36 hval
  obtain ⟨fuel, hf⟩ := h
  obtain ⟨k, p', n, N, s, t, e, ht⟩ := trod_term fuel _ _ hf
  obtain ⟨l⟩ := cs
  simp [Value.cells] at e
  subst e
  exact ⟨fuel, t, ht⟩
end
end Go.Proofs.YtncebhddcokkoaaDoor
namespace Go.Proofs.YtncebhddcokkoaaDoor
open Go.ChangeShapes Go.WideShapes Go.ChangeAt Go.RowKit
open Go.ChangeMaps (open_string shut_string)
set_option linter.unusedVariables false

theorem door_met_schemeMeets (os : Os) (args : Array Value) : laidMetH Tryd.prog Rows.schemeMeetsRow.laid ((World.doorLaid Tryd.prog 61 os).forCall (fun _ _ => 0) ⟨#[], args, []⟩).memory :=
  laidMetH_of_parts3 (fuel := 8) (laidMet_of_run' 8 (by kernel_rfl) (by kernel_rfl)) (by kernel_rfl) (by kernel_rfl)
set_option maxRecDepth 100000 in
theorem schemeMeets_lifted (os : Os) (started : os.Started) (H : Type) (enc : TypeId × Value → H) :
    ReturnsInHanded {} Tryd.checked os 9 .any (fun w args => (Rows.schemeMeetsSpec.pre enc Tryd.prog Tryd.f9 [] false w args ∧ laidMetH Tryd.prog Rows.schemeMeetsRow.laid w) ∧ sizedMet enc Tryd.prog Tryd.f9 (OpenSpec.ofChange Rows.schemeMeetsSpec) false w args)
      (Rows.schemeMeetsSpec.post enc Tryd.prog Tryd.f9 false true false false) := by
  refine returnsInHanded_of_change_and (C := Tryd.checked) (X := fun w _ => laidMetH Tryd.prog Rows.schemeMeetsRow.laid w) (fun _ _ _ hh h => h.of_heap hh) ownKn started (by kernel_rfl) Tryd.func9
    (ChangeSpec.witness_shaped (enc := enc) (C := Tryd.checked) (os := os) (X := fun w _ => laidMetH Tryd.prog Rows.schemeMeetsRow.laid w) false (World.doorLaid Tryd.prog 61 os) #[.agg #[.int .i64 0, .string ⟨#[]⟩, .string ⟨#[]⟩, .int .i64 0, .slice none 0 0], .agg #[.int .i64 0, .string ⟨#[]⟩, .string ⟨#[]⟩, .int .i64 0, .slice none 0 0]] 8 rfl (World.shaped_of_RefB (by kernel_rfl) (by kernel_rfl)) (by kernel_rfl) (by kernel_rfl) (by kernel_rfl) (door_met_schemeMeets os _)) ?_
  intro W base args ds gs before hval0 hW _ _ _ _
  have hval : ∀ (j : Nat) t v, Tryd.f9.params[j]? = some t → args[j]? = some v → Value.okWide Tryd.prog W .any base t v := hval0
  have hW' := hW
  obtain ⟨p, q, hA0, hV, rfl, hfz, hnd⟩ := hW
  have hA : DataW.TrodAll enc Tryd.prog W 0 (fun _ => true) true Tryd.f9.params.toList args.toList ds p := hA0
  rw [Tryd.params9] at hA hval
  obtain ⟨v0, vs0, d0, ds0, p0, q0, hargs, rfl, rfl, h0, r0⟩ := trodAll_cons hA
  obtain ⟨v1, vs1, d1, ds1, p1, q1, rfl, rfl, rfl, h1, r1⟩ := trodAll_cons r0
  obtain ⟨rfl, rfl, rfl⟩ := trodAll_nil r1
  obtain rfl : args = #[v0, v1] := by cases args; simp_all
  obtain ⟨rfl, rfl⟩ := trodVars_none hV
  have lt0 : ∀ x ∈ p0, x.block < W.heap.size := by obtain ⟨m, hm⟩ := h0; exact DataW.trod_lt m _ _ _ hm
  have lt1 : ∀ x ∈ p1, x.block < W.heap.size := by obtain ⟨m, hm⟩ := h1; exact DataW.trod_lt m _ _ _ hm
  have k0 := h0
  obtain ⟨m0, t0, i0⟩ := arg_t (hval 0 36 v0 rfl rfl) h0
  have k1 := h1
  obtain ⟨m1, t1, i1⟩ := arg_t (hval 1 36 v1 rfl rfl) h1
  clear hA0 hval0
  refine (meets14_walk (max m0 m1) v0 v1 t0 t1 W (i0.more (Nat.le_max_left _ _)) (i1.more (Nat.le_max_right _ _))).mono fun e W' ⟨he, bel⟩ => ?_
  subst he
  exact ⟨_, rfl, _, _, _, [], _, [], hW', trodAll_mk1 (shut_bool Tryd.underlying4 _),
    (trodAll_cons_mk (Below.trod laidTry (by kernel_rfl) (of_decide_eq_true (by kernel_rfl)) k0 bel lt0) (trodAll_cons_mk (Below.trod laidTry (by kernel_rfl) (of_decide_eq_true (by kernel_rfl)) k1 bel lt1) trodAll_mk0)), rfl, bel.frame _, fun h => by cases h⟩

theorem schemeMeets_over : Rows.schemeMeetsRow.holds Tryd.pinned (OpenSpec.ofChange Rows.schemeMeetsSpec) :=
  OpenClaim.holds_of_wide 9 Tryd.f9 rfl rfl rfl rfl rfl rfl rfl ⟨rfl, rfl, rfl, rfl, rfl⟩ rfl rfl rfl rfl rfl (by kernel_rfl) Tryd.func9 (by kernel_rfl)
    (of_decide_eq_true (by kernel_rfl)) (by unfold Func.isWrapper; first | (rw [if_pos (by decide +kernel)]; kernel_rfl) | (rw [if_neg (by decide +kernel)]; exact ⟨rfl, rfl⟩))
    (fun os started H enc _ => schemeMeets_lifted os started H enc)

theorem schemeMeets_holds : Rows.SchemeMeetsCardSaid :=
  Claim7.holds_tied_plain_at .later [] [.data, .data, .data] true (true, "3a2698fb15da91183cb3374ff1f1514770f54da29af30bfa1aaf08037a5b66b4") false
    schemeMeets_over (fun _ h => by cases h) (by kernel_rfl) (fun _ h => by cases h) schemeMeets_row_tie rfl ⟨rfl, rfl⟩ (by kernel_rfl) rfl
    (fun f fn hf hfn => by
      obtain rfl : f = 9 := Option.some.inj ((show Tryd.prog.funcNamed "touchstone/touchstonelaw14.SchemeMeets" = some 9 by kernel_rfl).symm.trans hf) |>.symm
      obtain rfl : fn = Tryd.f9 := (Option.some.inj (Tryd.func9.symm.trans hfn)).symm
      exact ⟨by kernel_rfl, fun j t ht => by
        rw [Tryd.params9] at ht
        have hm : t ∈ [36, 36] := by simpa using Array.mem_of_getElem? ht
        have hall : ([36, 36].all fun u => !Tryd.prog.wantsStandIn u) = true := by kernel_rfl
        exact (show Tryd.prog.wantsStandIn t = false by simpa using List.all_eq_true.1 hall t hm)⟩)
    (by kernel_rfl)
#print axioms schemeMeets_holds
end Go.Proofs.YtncebhddcokkoaaDoor
