/- The document's text of a pin. -/
import Derived.Test.YtfbfdkjimoomlaaQ7
import Derived.Deep.RegionHeld3
import Derived.StillTailTactics
import Derived.Outline
namespace Go.Proofs.Ytfbfdkjimoomlaa
open Go.RowKit
theorem keep_cell {w w' : World} {a : Addr} {v : Value} (hb : Below w.heap.size w w') (h : w.cell? a = some v) : w'.cell? a = some v := by
  rw [hb.cell (block_lt_of_cell h), h]
set_option maxRecDepth 100000 in
set_option maxHeartbeats 4000000 in
theorem told_any (x : Cm.Pn) (w : World) (hs : x.p.size ≤ 4000) (hv : (0 ≤ x.v.a ∧ x.v.a ≤ 999999) ∧ (0 ≤ x.v.b ∧ x.v.b ≤ 999999) ∧ 0 ≤ x.v.c ∧ x.v.c ≤ 999999) : Calls Try.prog 29 #[pinv x] w fun e w' => e = .returned (.string (str (Cm.pinB x))) ∧ Below w.heap.size w w' := by
  have HV := Lib.hid hv
  clear hv
  go_enter Try.func29, Try.ntmps29
  go_upto_region 1 with fail
  obtain ⟨⟨a0, a1⟩, ⟨b0, b1⟩, c0, c1⟩ := HV.out
  have HP := Lib.hid (refText_any x.p (by omega))
  have HA := Lib.hid (refNumber_any x.v.a a0 (by omega))
  have HB := Lib.hid (refNumber_any x.v.b b0 (by omega))
  have HC := Lib.hid (refNumber_any x.v.c c0 (by omega))
  have s0 : (str (txt x.p)).size ≤ 4010 := by rw [str_size, txt_len]; have := uv_small x.p.size (by omega); omega
  have s1 : (str (Cm.num x.v.a)).size ≤ 10 := by rw [str_size]; exact uv_small _ (by omega)
  have s2 : (str (Cm.num x.v.b)).size ≤ 10 := by rw [str_size]; exact uv_small _ (by omega)
  have s3 : (str (Cm.num x.v.c)).size ≤ 10 := by rw [str_size]; exact uv_small _ (by omega)
  have HT : RowKit.Hid (str (txt x.p) ++ str (Cm.num x.v.a) ++ str (Cm.num x.v.b) ++ str (Cm.num x.v.c) = str (Cm.pinB x)) := Lib.hid (by
    rw [str_append, str_append, str_append]; unfold Cm.pinB; simp only [List.append_assoc])
  clear a0 a1 b0 b1 c0 c1
  generalize str (txt x.p) = A at *
  generalize str (Cm.num x.v.a) = B at *
  generalize str (Cm.num x.v.b) = C at *
  generalize str (Cm.num x.v.c) = D at *
  have HX := hb_new w (.cells #[.string x.p, .int .i64 x.v.a, .int .i64 x.v.b, .int .i64 x.v.c] 25)
  have HW : RowKit.Hid (Below w.heap.size w (w.alloc (.cells #[.string x.p, .int .i64 x.v.a, .int .i64 x.v.b, .int .i64 x.v.c] 25))) := Lib.hid (below_alloc w _)
  generalize hWW : w.alloc (.cells #[.string x.p, .int .i64 x.v.a, .int .i64 x.v.b, .int .i64 x.v.c] 25) = W at *
  have HWW := Lib.hid hWW
  clear hWW
  have x0 := hb_at HX 0 rfl
  have x1 := hb_at HX 1 rfl
  have x2 := hb_at HX 2 rfl
  have x3 := hb_at HX 3 rfl
  clear HX
  refine wp_region_held_drew (S := (fun w' => RowKit.Hid (Below W.heap.size W w') ∧ w'.cell? ⟨w.heap.size, 0, none⟩ = some (.string x.p) ∧ w'.cell? ⟨w.heap.size, 1, none⟩ = some (.int .i64 x.v.a) ∧ w'.cell? ⟨w.heap.size, 2, none⟩ = some (.int .i64 x.v.b) ∧ w'.cell? ⟨w.heap.size, 3, none⟩ = some (.int .i64 x.v.c))) (by kernel_rfl) (by exact ⟨Lib.hid (below_drewN (Below.refl _ _) 1), x0, x1, x2, x3⟩) (fun hHeld => ?_)
  refine wpAnyH_take (i := 0) (oi := ⟨some 3, _, _, _, _, _⟩) (v := ?_) rfl (by kernel_rfl) (by kernel_rfl) (by kernel_rfl) (fun _ _ _ h => h) (Or.inl ⟨by rfl, ?_⟩) (by assumption) ?_
  rotate_left
  focus (intro w hSw; (try dsimp only at hSw); go_simp; first | done | with_reducible rfl)
  try simp only [Act.put, List.setIfInBounds_toArray, List.set_cons_zero, List.set_cons_succ]
  refine wpAnyH_take (i := 1) (oi := ⟨some 4, _, _, _, _, _⟩) (v := ?_) rfl (by kernel_rfl) (by kernel_rfl) (by kernel_rfl) (fun _ _ _ h => h) (Or.inl ⟨by rfl, ?_⟩) (by assumption) ?_
  rotate_left
  focus (intro w hSw; (try dsimp only at hSw); go_simp; first | done | with_reducible rfl)
  try simp only [Act.put, List.setIfInBounds_toArray, List.set_cons_zero, List.set_cons_succ]
  refine wpAnyH_take (i := 3) (oi := ⟨some 6, _, _, _, _, _⟩) (v := ?_) rfl (by kernel_rfl) (by kernel_rfl) (by kernel_rfl) (fun _ _ _ h => h) (Or.inl ⟨by rfl, ?_⟩) (by assumption) ?_
  rotate_left
  focus (intro w hSw; (try dsimp only at hSw); go_simp; first | done | with_reducible rfl)
  try simp only [Act.put, List.setIfInBounds_toArray, List.set_cons_zero, List.set_cons_succ]
  refine wpAnyH_take (i := 4) (oi := ⟨some 7, _, _, _, _, _⟩) (v := ?_) rfl (by kernel_rfl) (by kernel_rfl) (by kernel_rfl) (fun _ _ _ h => h) (Or.inl ⟨by rfl, ?_⟩) (by assumption) ?_
  rotate_left
  focus (intro w hSw; (try dsimp only at hSw); go_simp; first | done | with_reducible rfl)
  try simp only [Act.put, List.setIfInBounds_toArray, List.set_cons_zero, List.set_cons_succ]
  refine wpAnyH_take (i := 5) (oi := ⟨some 8, _, _, _, _, _⟩) (v := ?_) rfl (by kernel_rfl) (by kernel_rfl) (by kernel_rfl) (fun _ _ _ h => h) (Or.inl ⟨by rfl, ?_⟩) (by assumption) ?_
  rotate_left
  focus (intro w hSw; (try dsimp only at hSw); go_simp; first | done | with_reducible rfl)
  try simp only [Act.put, List.setIfInBounds_toArray, List.set_cons_zero, List.set_cons_succ]
  refine wpAnyH_take (i := 8) (oi := ⟨some 11, _, _, _, _, _⟩) (v := ?_) rfl (by kernel_rfl) (by kernel_rfl) (by kernel_rfl) (fun _ _ _ h => h) (Or.inl ⟨by rfl, ?_⟩) (by assumption) ?_
  rotate_left
  focus (intro w hSw; (try dsimp only at hSw); go_simp; first | done | with_reducible rfl)
  try simp only [Act.put, List.setIfInBounds_toArray, List.set_cons_zero, List.set_cons_succ]
  refine wpAnyH_take (i := 9) (oi := ⟨some 12, _, _, _, _, _⟩) (v := ?_) rfl (by kernel_rfl) (by kernel_rfl) (by kernel_rfl) (fun _ _ _ h => h) (Or.inl ⟨by rfl, ?_⟩) (by assumption) ?_
  rotate_left
  focus (intro w hSw; (try dsimp only at hSw); go_simp; first | done | with_reducible rfl)
  try simp only [Act.put, List.setIfInBounds_toArray, List.set_cons_zero, List.set_cons_succ]
  refine wpAnyH_take (i := 10) (oi := ⟨some 13, _, _, _, _, _⟩) (v := ?_) rfl (by kernel_rfl) (by kernel_rfl) (by kernel_rfl) (fun _ _ _ h => h) (Or.inl ⟨by rfl, ?_⟩) (by assumption) ?_
  rotate_left
  focus (intro w hSw; (try dsimp only at hSw); go_simp; first | done | with_reducible rfl)
  try simp only [Act.put, List.setIfInBounds_toArray, List.set_cons_zero, List.set_cons_succ]
  refine wpAnyH_take (i := 13) (oi := ⟨some 16, _, _, _, _, _⟩) (v := ?_) rfl (by kernel_rfl) (by kernel_rfl) (by kernel_rfl) (fun _ _ _ h => h) (Or.inl ⟨by rfl, ?_⟩) (by assumption) ?_
  rotate_left
  focus (intro w hSw; (try dsimp only at hSw); go_simp; first | done | with_reducible rfl)
  try simp only [Act.put, List.setIfInBounds_toArray, List.set_cons_zero, List.set_cons_succ]
  refine wpAnyH_take (i := 14) (oi := ⟨some 17, _, _, _, _, _⟩) (v := ?_) rfl (by kernel_rfl) (by kernel_rfl) (by kernel_rfl) (fun _ _ _ h => h) (Or.inl ⟨by rfl, ?_⟩) (by assumption) ?_
  rotate_left
  focus (intro w hSw; (try dsimp only at hSw); go_simp; first | done | with_reducible rfl)
  try simp only [Act.put, List.setIfInBounds_toArray, List.set_cons_zero, List.set_cons_succ]
  refine wpAnyH_take (i := 15) (oi := ⟨some 18, _, _, _, _, _⟩) (v := ?_) rfl (by kernel_rfl) (by kernel_rfl) (by kernel_rfl) (fun _ _ _ h => h) (Or.inl ⟨by rfl, ?_⟩) (by assumption) ?_
  rotate_left
  focus (intro w hSw; (try dsimp only at hSw); go_simp; first | done | with_reducible rfl)
  try simp only [Act.put, List.setIfInBounds_toArray, List.set_cons_zero, List.set_cons_succ]
  refine wpAnyH_ready (rs := [2]) (by kernel_rfl) (by simp) ?_
  refine AllReadyH.cons (o := ⟨some 5, _, _, _, _, _⟩) rfl (fun K hK => ?_) AllReadyH.nil
  go_simp
  ((with_reducible refine (HP.out _).mono ?_); rintro e w3 ⟨rfl, hb⟩)
  go_wp2_with fail
  refine hK.out _ _ (by exact ⟨Lib.hid (hHeld.1.out.trans (hb.mono hHeld.1.out.size)), keep_cell hb hHeld.2.1, keep_cell hb hHeld.2.2.1, keep_cell hb hHeld.2.2.2.1, keep_cell hb hHeld.2.2.2.2⟩) (fun hNew => ?_)
  clear hK K
  clear hHeld hb; have hHeld := hNew; clear hNew
  try simp only [Act.put, List.setIfInBounds_toArray, List.set_cons_zero, List.set_cons_succ]
  refine wpAnyH_ready (rs := [6]) (by kernel_rfl) (by simp) ?_
  refine AllReadyH.cons (o := ⟨some 9, _, _, _, _, _⟩) rfl (fun K hK => ?_) AllReadyH.nil
  go_simp
  ((with_reducible refine (HA.out _).mono ?_); rintro e w3 ⟨rfl, hb⟩)
  go_wp2_with fail
  refine hK.out _ _ (by exact ⟨Lib.hid (hHeld.1.out.trans (hb.mono hHeld.1.out.size)), keep_cell hb hHeld.2.1, keep_cell hb hHeld.2.2.1, keep_cell hb hHeld.2.2.2.1, keep_cell hb hHeld.2.2.2.2⟩) (fun hNew => ?_)
  clear hK K
  clear hHeld hb; have hHeld := hNew; clear hNew
  try simp only [Act.put, List.setIfInBounds_toArray, List.set_cons_zero, List.set_cons_succ]
  refine wpAnyH_take (i := 7) (oi := ⟨some 10, _, _, _, _, _⟩) (v := ?_) rfl (by kernel_rfl) (by kernel_rfl) (by kernel_rfl) (fun _ _ _ h => h) (Or.inl ⟨by rfl, ?_⟩) (by assumption) ?_
  rotate_left
  focus (intro w hSw; (try dsimp only at hSw); go_simp; first | done | (rw [if_neg (by first | omega | (simp [ByteArray.size_append]; omega))]) | with_reducible rfl)
  try simp only [Act.put, List.setIfInBounds_toArray, List.set_cons_zero, List.set_cons_succ]
  refine wpAnyH_ready (rs := [11]) (by kernel_rfl) (by simp) ?_
  refine AllReadyH.cons (o := ⟨some 14, _, _, _, _, _⟩) rfl (fun K hK => ?_) AllReadyH.nil
  go_simp
  ((with_reducible refine (HB.out _).mono ?_); rintro e w3 ⟨rfl, hb⟩)
  go_wp2_with fail
  refine hK.out _ _ (by exact ⟨Lib.hid (hHeld.1.out.trans (hb.mono hHeld.1.out.size)), keep_cell hb hHeld.2.1, keep_cell hb hHeld.2.2.1, keep_cell hb hHeld.2.2.2.1, keep_cell hb hHeld.2.2.2.2⟩) (fun hNew => ?_)
  clear hK K
  clear hHeld hb; have hHeld := hNew; clear hNew
  try simp only [Act.put, List.setIfInBounds_toArray, List.set_cons_zero, List.set_cons_succ]
  refine wpAnyH_take (i := 12) (oi := ⟨some 15, _, _, _, _, _⟩) (v := ?_) rfl (by kernel_rfl) (by kernel_rfl) (by kernel_rfl) (fun _ _ _ h => h) (Or.inl ⟨by rfl, ?_⟩) (by assumption) ?_
  rotate_left
  focus (intro w hSw; (try dsimp only at hSw); go_simp; first | done | (rw [if_neg (by first | omega | (simp [ByteArray.size_append]; omega))]) | with_reducible rfl)
  try simp only [Act.put, List.setIfInBounds_toArray, List.set_cons_zero, List.set_cons_succ]
  refine wpAnyH_ready (rs := [16]) (by kernel_rfl) (by simp) ?_
  refine AllReadyH.cons (o := ⟨some 19, _, _, _, _, _⟩) rfl (fun K hK => ?_) AllReadyH.nil
  go_simp
  ((with_reducible refine (HC.out _).mono ?_); rintro e w3 ⟨rfl, hb⟩)
  go_wp2_with fail
  refine hK.out _ _ (by exact ⟨Lib.hid (hHeld.1.out.trans (hb.mono hHeld.1.out.size)), keep_cell hb hHeld.2.1, keep_cell hb hHeld.2.2.1, keep_cell hb hHeld.2.2.2.1, keep_cell hb hHeld.2.2.2.2⟩) (fun hNew => ?_)
  clear hK K
  clear hHeld hb; have hHeld := hNew; clear hNew
  try simp only [Act.put, List.setIfInBounds_toArray, List.set_cons_zero, List.set_cons_succ]
  refine wpAnyH_take (i := 17) (oi := ⟨some 20, _, _, _, _, _⟩) (v := ?_) rfl (by kernel_rfl) (by kernel_rfl) (by kernel_rfl) (fun _ _ _ h => h) (Or.inl ⟨by rfl, ?_⟩) (by assumption) ?_
  rotate_left
  focus (intro w hSw; (try dsimp only at hSw); go_simp; first | done | (rw [if_neg (by first | omega | (simp [ByteArray.size_append]; omega))]) | with_reducible rfl)
  try simp only [Act.put, List.setIfInBounds_toArray, List.set_cons_zero, List.set_cons_succ]
  refine wpAnyH_take (i := 18) (oi := ⟨some 2, _, _, _, _, _⟩) (v := ?_) rfl (by kernel_rfl) (by kernel_rfl) (by kernel_rfl) (fun _ _ _ h => h) (Or.inl ⟨by rfl, ?_⟩) (by assumption) ?_
  rotate_left
  focus (intro w hSw; (try dsimp only at hSw); go_simp; first | done | with_reducible rfl)
  try simp only [Act.put, List.setIfInBounds_toArray, List.set_cons_zero, List.set_cons_succ]
  refine wpAnyH_done (by kernel_rfl) ?_ _
  go_wp2
  go_ret
  exact ⟨by rw [← HT.out]; rfl, HW.out.trans (hHeld.1.out.mono HW.out.size)⟩
end Go.Proofs.Ytfbfdkjimoomlaa
