/- Texts in a row: Mc Md Me. -/
import Derived.Test.YtncebhddcokkoaaDoorZR26
/- The law's examples, run. -/
namespace Go.Proofs.YtncebhddcokkoaaDoor
open Go.RowKit Go.Maps
set_option linter.unusedSimpArgs false
set_option linter.unusedVariables false
theorem vat_row {w : World} {g : Nat} {fr : Nat × Nat} (h : w.heap[g]? = some (.cells #[.string ⟨#[97]⟩, .int .i64 2, .string ⟨#[]⟩, .string ⟨#[105, 110, 116]⟩, .int .i64 0, .slice none 0 0, .string ⟨#[98]⟩, .int .i64 2, .string ⟨#[]⟩, .string ⟨#[105, 110, 116]⟩, .int .i64 0, .slice none 0 0] 38 fr)) : VAt w 1000 (.slice (some ⟨g, 0, none⟩) 2 2) solL := by
  refine ⟨_, 2, rfl, by decide, fun i x hx => ?_⟩
  match i, hx with
  | 0, hx =>
    obtain rfl := Option.some.inj hx
    exact ⟨g, 2, ⟨#[]⟩, ⟨#[105, 110, 116]⟩, 0, _, rfl, hb_at h 0 rfl, by decide, ⟨hb_at h 1 rfl, hb_at h 2 rfl, hb_at h 3 rfl, hb_at h 4 rfl, hb_at h 5 rfl⟩, isT_c w ⟨#[105, 110, 116]⟩ (by decide) 999⟩
  | 1, hx =>
    obtain rfl := Option.some.inj hx
    exact ⟨g, 2, ⟨#[]⟩, ⟨#[105, 110, 116]⟩, 0, _, rfl, hb_at h 6 rfl, by decide, ⟨hb_at h 7 rfl, hb_at h 8 rfl, hb_at h 9 rfl, hb_at h 10 rfl, hb_at h 11 rfl⟩, isT_c w ⟨#[105, 110, 116]⟩ (by decide) 999⟩
  | i + 2, hx => simp [solL] at hx
set_option maxRecDepth 100000 in
set_option maxHeartbeats 4000000 in
theorem alive13_any (w : World) : Calls Tryd.prog 11 #[] w (fun e w' => e = .returned (.bool true) ∧ Below w.heap.size w w') := by
  have F1 := Lib.hid (fun W => fun13_any W 1 (tv 1 ⟨#[]⟩ ⟨#[97]⟩ 0 (.slice none 0 0)) (tv 2 ⟨#[]⟩ ⟨#[105, 110, 116]⟩ 0 (.slice none 0 0)) (vN sA) cInt (isT_v W sA (by decide) 0) (isT_c W ⟨#[105, 110, 116]⟩ (by decide) 0))
  have F2 := Lib.hid (fun W => fun13_any W 1 (tv 1 ⟨#[]⟩ ⟨#[98]⟩ 0 (.slice none 0 0)) (tv 1 ⟨#[]⟩ ⟨#[98]⟩ 0 (.slice none 0 0)) (vN sB) (vN sB) (isT_v W sB (by decide) 0) (isT_v W sB (by decide) 0))
  have F3 := Lib.hid (fun W => fun13_any W 1 (tv 2 ⟨#[]⟩ ⟨#[116, 101, 120, 116]⟩ 0 (.slice none 0 0)) (tv 1 ⟨#[]⟩ ⟨#[98]⟩ 0 (.slice none 0 0)) cText (vN sB) (isT_c W ⟨#[116, 101, 120, 116]⟩ (by decide) 0) (isT_v W sB (by decide) 0))
  have F4 := Lib.hid (fun W => fun13_any W 1 (tv 2 ⟨#[]⟩ ⟨#[116, 101, 120, 116]⟩ 0 (.slice none 0 0)) (tv 2 ⟨#[]⟩ ⟨#[105, 110, 116]⟩ 0 (.slice none 0 0)) cText cInt (isT_c W ⟨#[116, 101, 120, 116]⟩ (by decide) 0) (isT_c W ⟨#[105, 110, 116]⟩ (by decide) 0))
  have HBL := Lib.hid (Below.refl w.heap.size w)
  go_enter Tryd.func11, Tryd.ntmps11
  go_upto_region 2 with (first
    | (go_at_call 31; (with_reducible refine (tv13_any _ _).mono ?_); rintro e w0 ⟨rfl, hb⟩; have HBL := Lib.hid (HBL.out.trans (hb.mono HBL.out.size)); (try have HI1 := Lib.hid (HI1.out.below hb)); clear hb)
    | (go_at_call 39; (with_reducible refine (con13_any _ _ _ _ _).mono ?_); rintro e w0 ⟨rfl, hb⟩; have HBL := Lib.hid (HBL.out.trans (hb.mono HBL.out.size)); clear hb)
    | (go_at_call 32; (with_reducible refine (F1.out _).mono ?_); rintro e w1 ⟨q1, c1, rfl, hi, hb⟩; have HBL := Lib.hid (HBL.out.trans (hb.mono HBL.out.size)); have HI1 := Lib.hid hi; clear hi hb)
    | (go_at_call 32; (with_reducible refine (F2.out _).mono ?_); rintro e w2 ⟨q2, c2, rfl, hi, hb⟩; have HBL := Lib.hid (HBL.out.trans (hb.mono HBL.out.size)); have HI1 := Lib.hid (HI1.out.below hb); have HS := Lib.hid (sol1_any _ _ (eqAt_new HI1.out hi)); have HBL := Lib.hid (HBL.out.alloc HBL.out.size (.cells #[.int .i64 3, .string ⟨#[]⟩, .string ⟨#[]⟩, .int .i64 0, .slice q1 2 c1, .int .i64 3, .string ⟨#[]⟩, .string ⟨#[]⟩, .int .i64 0, .slice q2 2 c2] 43)); clear hi hb)
    | (go_at_call 12; (with_reducible refine HS.out.mono ?_); rintro e w3 ⟨hb, qv, cv, rfl, hv⟩; have HBL := Lib.hid (HBL.out.trans (hb.mono HBL.out.size)); have HV := Lib.hid hv; clear hb hv))
  clear HS HI1
  have HV := Lib.hid (fun W (hb : Below w3.heap.size w3 W) => HV.out.below hb)
  have HB3 := Lib.hid (Below.refl w3.heap.size w3)
  go_upto_region 3 with (first
    | (go_at_call 31; (with_reducible refine (tv13_any _ _).mono ?_); rintro e w4 ⟨rfl, hb⟩; have HB3 := Lib.hid (HB3.out.trans (hb.mono HB3.out.size)); clear hb)
    | (go_at_call 39; (with_reducible refine (con13_any _ _ _ _ _).mono ?_); rintro e w5 ⟨rfl, hb⟩; have hrow := hb_below (hb_new w4 (.cells #[.int .i64 1, .string ⟨#[]⟩, .string ⟨#[97]⟩, .int .i64 0, .slice none 0 0] 36)) hb (by simp); have hi := isT_list (cc := 1) (m := ⟨#[108, 105, 115, 116]⟩) (by decide) hrow (isT_v w5 ⟨#[97]⟩ (by decide) 0); have HS := Lib.hid (sol2_any _ _ (eqAt_new (isT_v w5 ⟨#[97]⟩ (by decide) 1) hi)); have HB3 := Lib.hid (((HB3.out.alloc HB3.out.size _).trans (hb.mono (HB3.out.alloc HB3.out.size _).size)).alloc ((HB3.out.alloc HB3.out.size _).trans (hb.mono (HB3.out.alloc HB3.out.size _).size)).size (.cells #[.int .i64 1, .string ⟨#[]⟩, .string ⟨#[97]⟩, .int .i64 0, .slice none 0 0, .int .i64 2, .string ⟨#[]⟩, .string ⟨#[108, 105, 115, 116]⟩, .int .i64 0, .slice (some ⟨w4.heap.size, 0, none⟩) 1 1] 43)); clear hb hrow hi)
    | (go_at_call 12; (with_reducible refine HS.out.mono ?_); rintro e w6 ⟨hb, rfl⟩; have HB3 := Lib.hid (HB3.out.trans (hb.mono HB3.out.size)); clear hb))
  clear HS
  go_upto_region 4 with (first
    | (go_at_call 31; (with_reducible refine (tv13_any _ _).mono ?_); rintro e w7 ⟨rfl, hb⟩; have HB3 := Lib.hid (HB3.out.trans (hb.mono HB3.out.size)); (try have HI1 := Lib.hid (HI1.out.below hb)); clear hb)
    | (go_at_call 39; (with_reducible refine (con13_any _ _ _ _ _).mono ?_); rintro e w7 ⟨rfl, hb⟩; have HB3 := Lib.hid (HB3.out.trans (hb.mono HB3.out.size)); (try have HI1 := Lib.hid (HI1.out.below hb)); clear hb)
    | (go_at_call 32; (with_reducible refine (F1.out _).mono ?_); rintro e w8 ⟨q1, c1, rfl, hi, hb⟩; have HB3 := Lib.hid (HB3.out.trans (hb.mono HB3.out.size)); have HI1 := Lib.hid hi; clear hi hb)
    | (go_at_call 32; (with_reducible refine (F3.out _).mono ?_); rintro e w9 ⟨q2, c2, rfl, hi, hb⟩; have HB3 := Lib.hid (HB3.out.trans (hb.mono HB3.out.size)); have HI1 := Lib.hid (HI1.out.below hb); have HM := Lib.hid (met3_any _ _ _ HI1.out hi); clear hi hb)
    | (go_at_call 20; (with_reducible refine HM.out.mono ?_); rintro e w10 ⟨hb, k, I, p, m, q, l, c, rfl, hi⟩; have HB3 := Lib.hid (HB3.out.trans (hb.mono HB3.out.size)); have HU := Lib.hid hi; clear hb hi))
  clear HM HI1
  have HV := Lib.hid (fun W' (hb : Below (w10.alloc (.cells #[.int .i64 k, .string p, .string m, .int .i64 I, .slice q l c] 36)).heap.size (w10.alloc (.cells #[.int .i64 k, .string p, .string m, .int .i64 I, .slice q l c] 36)) W') => HV.out W' ((HB3.out.alloc HB3.out.size _).trans (hb.mono (HB3.out.alloc HB3.out.size _).size)))
  have HU := Lib.hid (fun W' (hb : Below (w10.alloc (.cells #[.int .i64 k, .string p, .string m, .int .i64 I, .slice q l c] 36)).heap.size (w10.alloc (.cells #[.int .i64 k, .string p, .string m, .int .i64 I, .slice q l c] 36)) W') => (HU.out.below (below_alloc _ _)).below hb)
  have HBL := Lib.hid (HBL.out.trans ((HB3.out.alloc HB3.out.size (.cells #[.int .i64 k, .string p, .string m, .int .i64 I, .slice q l c] 36)).mono HBL.out.size))
  have hk := hb_new w10 (.cells #[.int .i64 k, .string p, .string m, .int .i64 I, .slice q l c] 36)
  have x0 := hb_at hk 0 rfl
  have x1 := hb_at hk 1 rfl
  have x2 := hb_at hk 2 rfl
  have x3 := hb_at hk 3 rfl
  have x4 := hb_at hk 4 rfl
  clear hk HB3
  generalize w10.alloc (.cells #[.int .i64 k, .string p, .string m, .int .i64 I, .slice q l c] 36) = W at *
  go_upto_region 4 with (fail)
  refine wp_region_held_drew (S := (fun w' => RowKit.Hid (Below W.heap.size W w') ∧ w'.cell? ⟨w10.heap.size, 0, none⟩ = some (.int .i64 k) ∧ w'.cell? ⟨w10.heap.size, 1, none⟩ = some (.string p) ∧ w'.cell? ⟨w10.heap.size, 2, none⟩ = some (.string m) ∧ w'.cell? ⟨w10.heap.size, 3, none⟩ = some (.int .i64 I) ∧ w'.cell? ⟨w10.heap.size, 4, none⟩ = some (.slice q l c))) (by kernel_rfl) (by exact ⟨Lib.hid (below_drewN (Below.refl _ _) 1), x0, x1, x2, x3, x4⟩) (fun hHeld => ?_)
  refine wpAnyH_take (i := 0) (oi := ⟨some 39, _, _, _, _, _⟩) (v := ?_) rfl (by kernel_rfl) (by kernel_rfl) (by kernel_rfl) (fun _ _ _ h => h) (Or.inl ⟨by rfl, ?_⟩) (by assumption) ?_
  rotate_left
  focus (intro w hSw; (try dsimp only at hSw); go_simp; first | done | with_reducible rfl)
  try simp only [Act.put, List.setIfInBounds_toArray, List.set_cons_zero, List.set_cons_succ]
  refine wpAnyH_take (i := 2) (oi := ⟨some 41, _, _, _, _, _⟩) (v := ?_) rfl (by kernel_rfl) (by kernel_rfl) (by kernel_rfl) (fun _ _ _ h => h) (Or.inl ⟨by rfl, ?_⟩) (by assumption) ?_
  rotate_left
  focus (intro w hSw; (try dsimp only at hSw); go_simp; first | done | with_reducible rfl)
  try simp only [Act.put, List.setIfInBounds_toArray, List.set_cons_zero, List.set_cons_succ]
  refine wpAnyH_ready (rs := [1]) (by kernel_rfl) (by simp) ?_
  refine AllReadyH.cons (o := ⟨some 40, _, _, _, _, _⟩) rfl (fun K hK => ?_) AllReadyH.nil
  go_simp
  (with_reducible refine (no13_any _ _).mono ?_); rintro e v1 ⟨rfl, hb⟩
  go_wp2_with fail
  refine hK.out _ _ (by exact ⟨Lib.hid (hHeld.1.out.trans (hb.mono hHeld.1.out.size)), keep_cell hb hHeld.2.1, keep_cell hb hHeld.2.2.1, keep_cell hb hHeld.2.2.2.1, keep_cell hb hHeld.2.2.2.2.1, keep_cell hb hHeld.2.2.2.2.2⟩) (fun hNew => ?_)
  clear hK K
  clear hHeld hb; have hHeld := hNew; clear hNew
  try simp only [Act.put, List.setIfInBounds_toArray, List.set_cons_zero, List.set_cons_succ]
  refine wpAnyH_ready (rs := [3]) (by kernel_rfl) (by simp) ?_
  refine AllReadyH.cons (o := ⟨some 42, _, _, _, _, _⟩) rfl (fun K hK => ?_) AllReadyH.nil
  go_simp
  (with_reducible refine (no13_any _ _).mono ?_); rintro e v2 ⟨rfl, hb⟩
  go_wp2_with fail
  refine hK.out _ _ (by exact ⟨Lib.hid (hHeld.1.out.trans (hb.mono hHeld.1.out.size)), keep_cell hb hHeld.2.1, keep_cell hb hHeld.2.2.1, keep_cell hb hHeld.2.2.2.1, keep_cell hb hHeld.2.2.2.2.1, keep_cell hb hHeld.2.2.2.2.2⟩) (fun hNew => ?_)
  clear hK K
  clear hHeld hb; have hHeld := hNew; clear hNew
  try simp only [Act.put, List.setIfInBounds_toArray, List.set_cons_zero, List.set_cons_succ]
  refine wpAnyH_take (i := 4) (oi := ⟨some 43, _, _, _, _, _⟩) (v := .int .i64 0) rfl (by kernel_rfl) (by kernel_rfl) (by kernel_rfl) (fun _ _ _ h => h) (Or.inl ⟨by rfl, ?_⟩) (by assumption) ?_
  focus (intro w hSw; (try dsimp only at hSw); go_simp; first | done | rfl | (simp; done) | decide)
  try simp only [Act.put, List.setIfInBounds_toArray, List.set_cons_zero, List.set_cons_succ]
  refine wpAnyH_take (i := 5) (oi := ⟨some 44, _, _, _, _, _⟩) (v := .bool true) rfl (by kernel_rfl) (by kernel_rfl) (by kernel_rfl) (fun _ _ _ h => h) (Or.inl ⟨by rfl, ?_⟩) (by assumption) ?_
  focus (intro w hSw; (try dsimp only at hSw); go_simp; first | done | rfl | (simp; done) | decide)
  try simp only [Act.put, List.setIfInBounds_toArray, List.set_cons_zero, List.set_cons_succ]
  refine wpAnyH_take (i := 6) (oi := ⟨some 45, _, _, _, _, _⟩) (v := ?_) rfl (by kernel_rfl) (by kernel_rfl) (by kernel_rfl) (fun _ _ _ h => h) (Or.inl ⟨by rfl, ?_⟩) (by assumption) ?_
  rotate_left
  focus (intro w hSw; (try dsimp only at hSw); go_simp; first | done | with_reducible rfl)
  try simp only [Act.put, List.setIfInBounds_toArray, List.set_cons_zero, List.set_cons_succ]
  refine wpAnyH_take (i := 7) (oi := ⟨some 46, _, _, _, _, _⟩) (v := ?_) rfl (by kernel_rfl) (by kernel_rfl) (by kernel_rfl) (fun _ _ _ h => h) (Or.inl ⟨by rfl, ?_⟩) (by assumption) ?_
  rotate_left
  focus (intro w hSw; (try dsimp only at hSw); go_simp; first | done | with_reducible rfl)
  try simp only [Act.put, List.setIfInBounds_toArray, List.set_cons_zero, List.set_cons_succ]
  refine wpAnyH_ready (rs := [8]) (by kernel_rfl) (by simp) ?_
  refine AllReadyH.cons (o := ⟨some 47, _, _, _, _, _⟩) rfl (fun K hK => ?_) AllReadyH.nil
  go_simp
  (with_reducible refine (con13_any _ _ _ _ _).mono ?_); rintro e v3 ⟨rfl, hb⟩
  go_wp2_with fail
  refine hK.out _ _ (by exact ⟨Lib.hid (hHeld.1.out.trans (hb.mono hHeld.1.out.size)), keep_cell hb hHeld.2.1, keep_cell hb hHeld.2.2.1, keep_cell hb hHeld.2.2.2.1, keep_cell hb hHeld.2.2.2.2.1, keep_cell hb hHeld.2.2.2.2.2⟩) (fun hNew => ?_)
  clear hK K
  clear hHeld hb; have hHeld := hNew; clear hNew
  try simp only [Act.put, List.setIfInBounds_toArray, List.set_cons_zero, List.set_cons_succ]
  refine wpAnyH_take (i := 9) (oi := ⟨some 48, _, _, _, _, _⟩) (v := ?_) rfl (by kernel_rfl) (by kernel_rfl) (by kernel_rfl) (fun _ _ _ h => h) (Or.inl ⟨by rfl, ?_⟩) (by assumption) ?_
  rotate_left
  focus (intro w hSw; (try dsimp only at hSw); go_simp; first | done | with_reducible rfl)
  try simp only [Act.put, List.setIfInBounds_toArray, List.set_cons_zero, List.set_cons_succ]
  refine wpAnyH_ready (rs := [10]) (by kernel_rfl) (by simp) ?_
  refine AllReadyH.cons (o := ⟨some 49, _, _, _, _, _⟩) rfl (fun K hK => ?_) AllReadyH.nil
  go_simp
  (with_reducible refine (con13_any _ _ _ _ _).mono ?_); rintro e v4 ⟨rfl, hb⟩
  go_wp2_with fail
  refine hK.out _ _ (by exact ⟨Lib.hid (hHeld.1.out.trans (hb.mono hHeld.1.out.size)), keep_cell hb hHeld.2.1, keep_cell hb hHeld.2.2.1, keep_cell hb hHeld.2.2.2.1, keep_cell hb hHeld.2.2.2.2.1, keep_cell hb hHeld.2.2.2.2.2⟩) (fun hNew => ?_)
  clear hK K
  clear hHeld hb; have hHeld := hNew; clear hNew
  try simp only [Act.put, List.setIfInBounds_toArray, List.set_cons_zero, List.set_cons_succ]
  refine wpAnyH_take (i := 11) (oi := ⟨some 50, _, _, _, _, _⟩) (v := ?_) rfl (by kernel_rfl) (by kernel_rfl) (by kernel_rfl) (fun _ _ _ h => h) (Or.inl ⟨by rfl, ?_⟩) (by assumption) ?_
  rotate_left
  focus (intro w hSw; (try dsimp only at hSw); go_simp; first | done | with_reducible rfl)
  try simp only [Act.put, List.setIfInBounds_toArray, List.set_cons_zero, List.set_cons_succ]
  refine wpAnyH_ready (rs := [12]) (by kernel_rfl) (by simp) ?_
  refine AllReadyH.cons (o := ⟨some 51, _, _, _, _, _⟩) rfl (fun K hK => ?_) AllReadyH.nil
  go_simp
  have hb := below_alloc v4 (.cells #[.string ⟨#[97]⟩, .int .i64 2, .string ⟨#[]⟩, .string ⟨#[105, 110, 116]⟩, .int .i64 0, .slice none 0 0, .string ⟨#[98]⟩, .int .i64 2, .string ⟨#[]⟩, .string ⟨#[105, 110, 116]⟩, .int .i64 0, .slice none 0 0] 38); have HSM := Lib.hid (usame_any 1000 _ _ solL _ (HV.out _ (hHeld.1.out.trans (hb.mono hHeld.1.out.size))) (vat_row (hb_new v4 (.cells #[.string ⟨#[97]⟩, .int .i64 2, .string ⟨#[]⟩, .string ⟨#[105, 110, 116]⟩, .int .i64 0, .slice none 0 0, .string ⟨#[98]⟩, .int .i64 2, .string ⟨#[]⟩, .string ⟨#[105, 110, 116]⟩, .int .i64 0, .slice none 0 0] 38))))
  go_wp2_with fail
  refine hK.out _ _ (by exact ⟨Lib.hid (hHeld.1.out.trans (hb.mono hHeld.1.out.size)), keep_cell hb hHeld.2.1, keep_cell hb hHeld.2.2.1, keep_cell hb hHeld.2.2.2.1, keep_cell hb hHeld.2.2.2.2.1, keep_cell hb hHeld.2.2.2.2.2⟩) (fun hNew => ?_)
  clear hK K
  clear hHeld hb; have hHeld := hNew; clear hNew
  try simp only [Act.put, List.setIfInBounds_toArray, List.set_cons_zero, List.set_cons_succ]
  refine wpAnyH_ready (rs := [13]) (by kernel_rfl) (by simp) ?_
  refine AllReadyH.cons (o := ⟨some 52, _, _, _, _, _⟩) rfl (fun K hK => ?_) AllReadyH.nil
  go_simp
  (with_reducible refine HSM.out.mono ?_); rintro e v5 ⟨rfl, hb⟩
  go_wp2_with fail
  refine hK.out _ _ (by exact ⟨Lib.hid (hHeld.1.out.trans (hb.mono hHeld.1.out.size)), keep_cell hb hHeld.2.1, keep_cell hb hHeld.2.2.1, keep_cell hb hHeld.2.2.2.1, keep_cell hb hHeld.2.2.2.2.1, keep_cell hb hHeld.2.2.2.2.2⟩) (fun hNew => ?_)
  clear hK K
  clear hHeld hb; have hHeld := hNew; clear hNew
  try simp only [Act.put, List.setIfInBounds_toArray, List.set_cons_zero, List.set_cons_succ]
  refine wpAnyH_take (i := 14) (oi := ⟨some 53, _, _, _, _, _⟩) (v := ?_) rfl (by kernel_rfl) (by kernel_rfl) (by kernel_rfl) (fun _ _ _ h => h) (Or.inl ⟨by rfl, ?_⟩) (by assumption) ?_
  rotate_left
  focus (intro w hSw; (try dsimp only at hSw); go_simp; first | done | with_reducible rfl)
  try simp only [Act.put, List.setIfInBounds_toArray, List.set_cons_zero, List.set_cons_succ]
  refine wpAnyH_take (i := 15) (oi := ⟨some 54, _, _, _, _, _⟩) (v := ?_) rfl (by kernel_rfl) (by kernel_rfl) (by kernel_rfl) (fun _ _ _ h => h) (Or.inl ⟨by rfl, ?_⟩) (by assumption) ?_
  rotate_left
  focus (intro w hSw; (try dsimp only at hSw); go_simp; first | done | with_reducible rfl)
  try simp only [Act.put, List.setIfInBounds_toArray, List.set_cons_zero, List.set_cons_succ]
  refine wpAnyH_take (i := 16) (oi := ⟨some 55, _, _, _, _, _⟩) (v := ?_) rfl (by kernel_rfl) (by kernel_rfl) (by kernel_rfl) (fun _ _ _ h => h) (Or.inl ⟨by rfl, ?_⟩) (by assumption) ?_
  rotate_left
  focus (intro w hSw; (try dsimp only at hSw); go_simp; first | done | with_reducible rfl)
  try simp only [Act.put, List.setIfInBounds_toArray, List.set_cons_zero, List.set_cons_succ]
  refine wpAnyH_ready (rs := [17]) (by kernel_rfl) (by simp) ?_
  refine AllReadyH.cons (o := ⟨some 56, _, _, _, _, _⟩) rfl (fun K hK => ?_) AllReadyH.nil
  go_simp
  (with_reducible refine (no13_any _ _).mono ?_); rintro e v6 ⟨rfl, hb⟩
  go_wp2_with fail
  refine hK.out _ _ (by exact ⟨Lib.hid (hHeld.1.out.trans (hb.mono hHeld.1.out.size)), keep_cell hb hHeld.2.1, keep_cell hb hHeld.2.2.1, keep_cell hb hHeld.2.2.2.1, keep_cell hb hHeld.2.2.2.2.1, keep_cell hb hHeld.2.2.2.2.2⟩) (fun hNew => ?_)
  clear hK K
  clear hHeld hb; have hHeld := hNew; clear hNew
  try simp only [Act.put, List.setIfInBounds_toArray, List.set_cons_zero, List.set_cons_succ]
  refine wpAnyH_take (i := 18) (oi := ⟨some 57, _, _, _, _, _⟩) (v := .bool true) rfl (by kernel_rfl) (by kernel_rfl) (by kernel_rfl) (fun _ _ _ h => h) (Or.inl ⟨by rfl, ?_⟩) (by assumption) ?_
  focus (intro w hSw; (try dsimp only at hSw); go_simp; first | done | rfl | (simp; done) | decide)
  try simp only [Act.put, List.setIfInBounds_toArray, List.set_cons_zero, List.set_cons_succ]
  refine wpAnyH_take (i := 19) (oi := ⟨some 58, _, _, _, _, _⟩) (v := ?_) rfl (by kernel_rfl) (by kernel_rfl) (by kernel_rfl) (fun _ _ _ h => h) (Or.inl ⟨by rfl, ?_⟩) (by assumption) ?_
  rotate_left
  focus (intro w hSw; (try dsimp only at hSw); go_simp; first | done | with_reducible rfl)
  try simp only [Act.put, List.setIfInBounds_toArray, List.set_cons_zero, List.set_cons_succ]
  refine wpAnyH_take (i := 20) (oi := ⟨some 59, _, _, _, _, _⟩) (v := ?_) rfl (by kernel_rfl) (by kernel_rfl) (by kernel_rfl) (fun _ _ _ h => h) (Or.inl ⟨by rfl, ?_⟩) (by assumption) ?_
  rotate_left
  focus (intro w hSw; (try dsimp only at hSw); go_simp; first | done | with_reducible rfl)
  try simp only [Act.put, List.setIfInBounds_toArray, List.set_cons_zero, List.set_cons_succ]
  refine wpAnyH_take (i := 21) (oi := ⟨some 60, _, _, _, _, _⟩) (v := ?_) rfl (by kernel_rfl) (by kernel_rfl) (by kernel_rfl) (fun _ _ _ h => h) (Or.inl ⟨by rfl, ?_⟩) (by assumption) ?_
  rotate_left
  focus (intro w hSw; (try dsimp only at hSw); go_simp; first | done | with_reducible rfl)
  try simp only [Act.put, List.setIfInBounds_toArray, List.set_cons_zero, List.set_cons_succ]
  refine wpAnyH_ready (rs := [22]) (by kernel_rfl) (by simp) ?_
  refine AllReadyH.cons (o := ⟨some 61, _, _, _, _, _⟩) rfl (fun K hK => ?_) AllReadyH.nil
  go_simp
  (with_reducible refine (con13_any _ _ _ _ _).mono ?_); rintro e v7 ⟨rfl, hb⟩
  go_wp2_with fail
  refine hK.out _ _ (by exact ⟨Lib.hid (hHeld.1.out.trans (hb.mono hHeld.1.out.size)), keep_cell hb hHeld.2.1, keep_cell hb hHeld.2.2.1, keep_cell hb hHeld.2.2.2.1, keep_cell hb hHeld.2.2.2.2.1, keep_cell hb hHeld.2.2.2.2.2⟩) (fun hNew => ?_)
  clear hK K
  clear hHeld hb; have hHeld := hNew; clear hNew
  try simp only [Act.put, List.setIfInBounds_toArray, List.set_cons_zero, List.set_cons_succ]
  refine wpAnyH_ready (rs := [23]) (by kernel_rfl) (by simp) ?_
  refine AllReadyH.cons (o := ⟨some 62, _, _, _, _, _⟩) rfl (fun K hK => ?_) AllReadyH.nil
  go_simp
  (with_reducible refine (con13_any _ _ _ _ _).mono ?_); rintro e v8 ⟨rfl, hb⟩
  go_wp2_with fail
  refine hK.out _ _ (by exact ⟨Lib.hid (hHeld.1.out.trans (hb.mono hHeld.1.out.size)), keep_cell hb hHeld.2.1, keep_cell hb hHeld.2.2.1, keep_cell hb hHeld.2.2.2.1, keep_cell hb hHeld.2.2.2.2.1, keep_cell hb hHeld.2.2.2.2.2⟩) (fun hNew => ?_)
  clear hK K
  clear hHeld hb; have hHeld := hNew; clear hNew
  try simp only [Act.put, List.setIfInBounds_toArray, List.set_cons_zero, List.set_cons_succ]
  refine wpAnyH_ready (rs := [24]) (by kernel_rfl) (by simp) ?_
  refine AllReadyH.cons (o := ⟨some 63, _, _, _, _, _⟩) rfl (fun K hK => ?_) AllReadyH.nil
  go_simp
  (with_reducible refine (F4.out _).mono ?_); rintro e v9 ⟨q9, c9, rfl, hi, hb⟩; have HI9 := Lib.hid hi; clear hi
  go_wp2_with fail
  refine hK.out _ _ (by exact ⟨Lib.hid (hHeld.1.out.trans (hb.mono hHeld.1.out.size)), keep_cell hb hHeld.2.1, keep_cell hb hHeld.2.2.1, keep_cell hb hHeld.2.2.2.1, keep_cell hb hHeld.2.2.2.2.1, keep_cell hb hHeld.2.2.2.2.2⟩) (fun hNew => ?_)
  clear hK K
  clear hHeld hb; have hHeld := hNew; clear hNew
  try simp only [Act.put, List.setIfInBounds_toArray, List.set_cons_zero, List.set_cons_succ]
  refine wpAnyH_ready (rs := [25]) (by kernel_rfl) (by simp) ?_
  refine AllReadyH.cons (o := ⟨some 64, _, _, _, _, _⟩) rfl (fun K hK => ?_) AllReadyH.nil
  go_simp
  have hsm := refSame_any 1000 _ _ _ _ v9 (HU.out _ hHeld.1.out) (HI9.out.more (by decide)); (with_reducible refine hsm.mono ?_); rintro e v10 ⟨he, hb⟩; rw [same_self] at he; subst he; clear hsm
  go_wp2_with fail
  refine hK.out _ _ (by exact ⟨Lib.hid (hHeld.1.out.trans (hb.mono hHeld.1.out.size)), keep_cell hb hHeld.2.1, keep_cell hb hHeld.2.2.1, keep_cell hb hHeld.2.2.2.1, keep_cell hb hHeld.2.2.2.2.1, keep_cell hb hHeld.2.2.2.2.2⟩) (fun hNew => ?_)
  clear hK K
  clear hHeld hb; have hHeld := hNew; clear hNew
  try simp only [Act.put, List.setIfInBounds_toArray, List.set_cons_zero, List.set_cons_succ]
  refine wpAnyH_take (i := 26) (oi := ⟨some 65, _, _, _, _, _⟩) (v := ?_) rfl (by kernel_rfl) (by kernel_rfl) (by kernel_rfl) (fun _ _ _ h => h) (Or.inl ⟨by rfl, ?_⟩) (by assumption) ?_
  rotate_left
  focus (intro w hSw; (try dsimp only at hSw); go_simp; first | done | with_reducible rfl)
  try simp only [Act.put, List.setIfInBounds_toArray, List.set_cons_zero, List.set_cons_succ]
  refine wpAnyH_take (i := 27) (oi := ⟨some 0, _, _, _, _, _⟩) (v := ?_) rfl (by kernel_rfl) (by kernel_rfl) (by kernel_rfl) (fun _ _ _ h => h) (Or.inl ⟨by rfl, ?_⟩) (by assumption) ?_
  rotate_left
  focus (intro w hSw; (try dsimp only at hSw); go_simp; first | done | with_reducible rfl)
  try simp only [Act.put, List.setIfInBounds_toArray, List.set_cons_zero, List.set_cons_succ]
  refine wpAnyH_done (by kernel_rfl) ?_ _
  go_wp2
  go_ret
  exact ⟨rfl, HBL.out.trans (hHeld.1.out.mono HBL.out.size)⟩
end Go.Proofs.YtncebhddcokkoaaDoor
/- A rigid type, two variables and a function: what becomes of them. -/
namespace Go.Proofs.YtncebhddcokkoaaDoor
open Go.RowKit Go.Maps
set_option linter.unusedSimpArgs false
set_option linter.unusedVariables false
namespace Abs
def rigI : Inf := ⟨5, ⟨#[]⟩, ⟨#[]⟩, []⟩
def funI : Inf := ⟨3, ⟨#[]⟩, ⟨#[]⟩, [3, 0]⟩
def lR : List Inf := [rigI, rigI, varI, varI, funI, varI]
def lvR (lv o : Int) (i : Nat) : Int := if i = 0 ∨ i = 1 then o else if i = 4 then 0 else lv
/-- The store: nothing has become another one. -/
def R0 (lv o : Int) : Abs := ⟨lR, id, lvR lv o⟩
/-- One variable has become the rigid type. -/
def R1 (lv o : Int) : Abs := (R0 lv o).bind 2 0 (lvR lv o)
/-- Another one the function's type. -/
def R2 (lv o : Int) : Abs := (R1 lv o).bind 5 4 (lvR lv o)
theorem r0_inv (lv o : Int) : Inv (R0 lv o) [] := by
  have hW : Wf lR := by
    refine ⟨fun i x hx y hy => ?_, fun i x hx hk => ?_⟩
    · match i, hx with
      | 0, hx => cases hx; cases hy
      | 1, hx => cases hx; cases hy
      | 2, hx => cases hx; cases hy
      | 3, hx => cases hx; cases hy
      | 4, hx =>
        cases hx
        have hy : y ∈ [3, 0] := hy
        simp at hy
        omega
      | 5, hx => cases hx; cases hy
      | i + 6, hx => cases hx
    · match i, hx with
      | 0, hx => cases hx; rfl
      | 1, hx => cases hx; rfl
      | 2, hx => cases hx; rfl
      | 3, hx => cases hx; rfl
      | 4, hx =>
        cases hx
        rcases hk with hk | hk <;> cases hk
      | 5, hx => cases hx; rfl
      | i + 6, hx => cases hx
  exact idinv (fun _ => rfl) hW
theorem reach0 {A : Abs} (hl : A.l = lR) (h0 : A.r 0 = 0) {z : Nat} (h : Reach A 0 z) : z = 0 := by
  cases h with
  | here => exact h0
  | kid hx hy _ => rw [h0, hl] at hx; cases hx; cases hy
theorem reach3 {A : Abs} (hl : A.l = lR) (h0 : A.r 3 = 3) {z : Nat} (h : Reach A 3 z) : z = 3 := by
  cases h with
  | here => exact h0
  | kid hx hy _ => rw [h0, hl] at hx; cases hx; cases hy
theorem reach4 {A : Abs} (hl : A.l = lR) (h4 : A.r 4 = 4) (h3 : A.r 3 = 3) (h0 : A.r 0 = 0) {z : Nat} (h : Reach A 4 z) : z = 4 ∨ z = 3 ∨ z = 0 := by
  cases h with
  | here => exact .inl h4
  | kid hx hy h =>
    rename_i y x
    rw [h4, hl] at hx
    cases hx
    have hy : y ∈ [3, 0] := hy
    simp only [List.mem_cons, List.not_mem_nil, or_false] at hy
    rcases hy with rfl | rfl
    · exact .inr (.inl (reach3 hl h3 h))
    · exact .inr (.inr (reach0 hl h0 h))
theorem lR_kd {A : Abs} (hl : A.l = lR) {i : Nat} {x : Inf} (hi : A.r i = i) (hx : lR[i]? = some x) : A.kd i = x.k := kd_some (by rw [hi, hl]; exact hx)
theorem rig_clash {A : Abs} (hl : A.l = lR) (h0 : A.r 0 = 0) (h1 : A.r 1 = 1) : Step A [.pr 0 1] none :=
  .clash (x := rigI) (y := rigI) (by rw [h0, h1]; decide) (by rw [h0, hl]; rfl) (by rw [h1, hl]; rfl) (by decide) (by decide) (fun h => h.2.1 rfl)
theorem turn20 {A : Abs} (hl : A.l = lR) (h2 : A.r 2 = 2) (h0 : A.r 0 = 0) : A.turn 2 0 = (2, 0) := by
  have e2 : A.kd 2 = 1 := lR_kd hl h2 rfl
  have e0 : A.kd 0 = 5 := lR_kd hl h0 rfl
  unfold turn
  rw [e2, e0]
  rfl
theorem turn54 {A : Abs} (hl : A.l = lR) (h5 : A.r 5 = 5) (h4 : A.r 4 = 4) : A.turn 5 4 = (5, 4) := by
  have e2 : A.kd 5 = 1 := lR_kd hl h5 rfl
  have e0 : A.kd 4 = 3 := lR_kd hl h4 rfl
  unfold turn
  rw [e2, e0]
  rfl
theorem turn34 {A : Abs} (hl : A.l = lR) (h3 : A.r 3 = 3) (h4 : A.r 4 = 4) : A.turn 3 4 = (3, 4) := by
  have e2 : A.kd 3 = 1 := lR_kd hl h3 rfl
  have e0 : A.kd 4 = 3 := lR_kd hl h4 rfl
  unfold turn
  rw [e2, e0]
  rfl
theorem v_bad {A : Abs} (hl : A.l = lR) (h2 : A.r 2 = 2) (h0 : A.r 0 = 0) (hlt : A.lv 2 < A.lv 0) : Step A [.pr 2 0] none := by
  have ht := turn20 hl h2 h0
  have e0 : A.kd 0 = 5 := lR_kd hl h0 rfl
  have hr : Reach A 0 0 := by have := Reach.here (A := A) 0; rw [h0] at this; exact this
  refine .bad (by rw [h2, h0]; decide) (.inl (lR_kd hl h2 rfl)) ?_
  rw [h2, h0, ht]
  exact .inr ⟨0, hr, e0, hlt⟩
theorem v_bnd {A : Abs} (hl : A.l = lR) (h2 : A.r 2 = 2) (h0 : A.r 0 = 0) (hlt : ¬ A.lv 2 < A.lv 0) : Step A [.pr 2 0] (some (A.bind 2 0 A.lv, [])) := by
  have ht := turn20 hl h2 h0
  have e0 : A.kd 0 = 5 := lR_kd hl h0 rfl
  have hlow : ∀ m, A.low 0 m = A.lv := fun m => by
    funext i
    unfold low
    rw [if_neg]
    rintro ⟨hr, hk⟩
    rw [reach0 hl h0 hr, e0] at hk
    cases hk
  have h := Step.bnd (A := A) (u := 2) (v := 0) (l := []) (by rw [h2, h0]; decide) (.inl (lR_kd hl h2 rfl)) (by
    rw [h2, h0, ht]
    rintro (hr | ⟨i, hr, _, hlt'⟩)
    · have := reach0 hl h0 hr
      simp at this
    · rw [reach0 hl h0 hr] at hlt'
      exact hlt hlt')
  rw [h2, h0, ht, hlow] at h
  exact h
theorem f_bad {A : Abs} (hl : A.l = lR) (h5 : A.r 5 = 5) (h4 : A.r 4 = 4) (h0 : A.r 0 = 0) (hlt : A.lv 5 < A.lv 0) : Step A [.pr 5 4] none := by
  have ht := turn54 hl h5 h4
  have e0 : A.kd 0 = 5 := lR_kd hl h0 rfl
  have hr : Reach A 0 0 := by have := Reach.here (A := A) 0; rw [h0] at this; exact this
  have hr4 : Reach A 4 0 := .kid (x := funI) (y := 0) (by rw [h4, hl]; rfl) (by simp [funI]) hr
  refine .bad (by rw [h5, h4]; decide) (.inl (lR_kd hl h5 rfl)) ?_
  rw [h5, h4, ht]
  exact .inr ⟨0, hr4, e0, hlt⟩
theorem f_bnd {A : Abs} (hl : A.l = lR) (h5 : A.r 5 = 5) (h4 : A.r 4 = 4) (h3 : A.r 3 = 3) (h0 : A.r 0 = 0) (hlt : ¬ A.lv 5 < A.lv 0) (h35 : A.lv 3 = A.lv 5) : Step A [.pr 5 4] (some (A.bind 5 4 A.lv, [])) := by
  have ht := turn54 hl h5 h4
  have e0 : A.kd 0 = 5 := lR_kd hl h0 rfl
  have e4 : A.kd 4 = 3 := lR_kd hl h4 rfl
  have e3 : A.kd 3 = 1 := lR_kd hl h3 rfl
  have hlow : A.low 4 (A.lv 5) = A.lv := by
    funext i
    unfold low
    split
    · rename_i h
      rcases reach4 hl h4 h3 h0 h.1 with rfl | rfl | rfl
      · have := h.2; rw [e4] at this; cases this
      · rw [h35]; exact Int.min_self _
      · have := h.2; rw [e0] at this; cases this
    · rfl
  have h := Step.bnd (A := A) (u := 5) (v := 4) (l := []) (by rw [h5, h4]; decide) (.inl (lR_kd hl h5 rfl)) (by
    rw [h5, h4, ht]
    rintro (hr | ⟨i, hr, hk, hlt'⟩)
    · rcases reach4 hl h4 h3 h0 hr with h | h | h <;> simp at h
    · rcases reach4 hl h4 h3 h0 hr with rfl | rfl | rfl
      · rw [e4] at hk; cases hk
      · rw [e3] at hk; cases hk
      · exact hlt hlt')
  rw [h5, h4, ht] at h
  dsimp only at h
  rw [hlow] at h
  exact h
theorem w_bad {A : Abs} (hl : A.l = lR) (h3 : A.r 3 = 3) (h4 : A.r 4 = 4) : Step A [.pr 3 4] none := by
  have ht := turn34 hl h3 h4
  have hr : Reach A 3 3 := by have := Reach.here (A := A) 3; rw [h3] at this; exact this
  have hr4 : Reach A 4 3 := .kid (x := funI) (y := 3) (by rw [h4, hl]; rfl) (by simp [funI]) hr
  refine .bad (by rw [h3, h4]; decide) (.inl (lR_kd hl h3 rfl)) ?_
  rw [h3, h4, ht]
  exact .inl hr4
/-- A run that fails at once leaves the store. -/
theorem path_none {A B : Abs} {l l' : List Item} (h : Step A l none) (hp : Path A l B l') : B = A := by
  cases hp with
  | refl => rfl
  | step h2 _ => cases h.det h2
end Abs
end Go.Proofs.YtncebhddcokkoaaDoor
/- Stores of the rigid example. -/
namespace Go.Proofs.YtncebhddcokkoaaDoor
open Go.RowKit Go.Maps
set_option linter.unusedSimpArgs false
set_option linter.unusedVariables false
def ndV (lv : Int) : Nd := ⟨⟨1, ⟨#[]⟩, ⟨#[]⟩, []⟩, .slice none 0 0, lv, false, -1, false, 0⟩
def ndR (o : Int) : Nd := ⟨⟨5, ⟨#[]⟩, ⟨#[]⟩, []⟩, .slice none 0 0, o, false, -1, false, 0⟩
theorem var_n (i : Int) {c : Cfg} {v : Value} {L : List Nd} {w : World} (lv : Int) (h : StL c v L w) (hi : (L.length : Int) = i) (hn : L.length < 100000) (hf : c.full = false) (hb : (L.length : Int) < c.bud) :
    Calls Tryd.prog 25 #[.pointer (some ⟨c.B, 0, none⟩), .int .i64 lv] w fun e w' => e = .returned (.int .i64 i) ∧ ∃ v', StL c v' (L ++ [ndV lv]) w' ∧ Kp c w w' := by
  rw [← hi]
  exact var_any c v L w lv h hn hf hb
theorem rig_n (i : Int) {c : Cfg} {v : Value} {L : List Nd} {w : World} (lv : Int) (h : StL c v L w) (hi : (L.length : Int) = i) (hn : L.length < 100000) (hf : c.full = false) (hb : (L.length : Int) < c.bud) :
    Calls Tryd.prog 24 #[.pointer (some ⟨c.B, 0, none⟩), .int .i64 lv] w fun e w' => e = .returned (.int .i64 i) ∧ ∃ v', StL c v' (L ++ [ndR lv]) w' ∧ Kp c w w' := by
  rw [← hi]
  exact rigid_any c v L w lv h hn hf hb
/-- The function's type. -/
theorem make_n {c : Cfg} {v : Value} {o lv : Int} {w : World} (h : StL c v [ndR o, ndR o, ndV lv, ndV lv] w) (hf : c.full = false) (hb : (4 : Int) < c.bud) :
    Calls Tryd.prog 26 #[.pointer (some ⟨c.B, 0, none⟩), .int .i64 3, .string ⟨#[]⟩, .string ⟨#[]⟩, .slice (some ⟨w.heap.size, 0, none⟩) 2 2] (w.alloc (.cells #[.int .i64 3, .int .i64 0] 3)) fun e w' => e = .returned (.int .i64 4) ∧
      ∃ v' ks, StL c v' [ndR o, ndR o, ndV lv, ndV lv, ⟨Abs.funI, ks, 0, false, -1, false, 0⟩] w' ∧ Kp c w w' := by
  have hb1 := below_alloc w (.cells #[.int .i64 3, .int .i64 0] 3)
  have hn := hb_new w (.cells #[.int .i64 3, .int .i64 0] 3)
  have hblw : c.b0 ≤ w.heap.size := Nat.le_trans h.hb (Nat.le_of_lt h.lt)
  refine (make_any c v _ _ 3 ⟨#[]⟩ ⟨#[]⟩ _ [3, 0] 2 (h.below hb1) (.inr (.inl rfl)) ?_ (fun y hy => ?_) (by simp) (by simp) hf hb).mono ?_
  · intro j y hy
    match j, hy with
    | 0, hy => cases hy; exact ⟨_, 0, rfl, hb_at hn 0 rfl⟩
    | 1, hy => cases hy; exact ⟨_, 0, rfl, hb_at hn 1 rfl⟩
    | j + 2, hy => cases hy
  · simp only [List.mem_cons, List.not_mem_nil, or_false] at hy
    rcases hy with rfl | rfl <;> simp
  · rintro e w' ⟨rfl, v', ks, pl, h1, k1, hp, _⟩
    have hpl : pl = false := by
      cases pl with
      | false => rfl
      | true =>
        obtain ⟨x, hx, hxp⟩ := hp rfl 3 (by simp)
        cases hx
        cases hxp
    subst hpl
    exact ⟨rfl, v', ks, h1, (Kp.of_below hblw hb1).trans k1⟩
/-- The whole store. -/
theorem st_R0 {c : Cfg} {v ks : Value} {o lv : Int} {w : World} (h : StL c v [ndR o, ndR o, ndV lv, ndV lv, ⟨Abs.funI, ks, 0, false, -1, false, 0⟩, ndV lv] w) (hw : 0 ≤ c.wks) : St c (Abs.R0 lv o) w := by
  refine ⟨v, _, id, h, ⟨rfl, fun i x hx => ?_, fun i x hx => ?_⟩, ⟨fun i x hx hp => ?_, fun x hx => ?_⟩⟩
  · match i, hx with
    | 0, hx => cases hx; rfl
    | 1, hx => cases hx; rfl
    | 2, hx => cases hx; rfl
    | 3, hx => cases hx; rfl
    | 4, hx => cases hx; rfl
    | 5, hx => cases hx; rfl
    | i + 6, hx => cases hx
  · match i, hx with
    | 0, hx => cases hx; exact .inl ⟨(by decide : (-1 : Int) < 0), rfl⟩
    | 1, hx => cases hx; exact .inl ⟨(by decide : (-1 : Int) < 0), rfl⟩
    | 2, hx => cases hx; exact .inl ⟨(by decide : (-1 : Int) < 0), rfl⟩
    | 3, hx => cases hx; exact .inl ⟨(by decide : (-1 : Int) < 0), rfl⟩
    | 4, hx => cases hx; exact .inl ⟨(by decide : (-1 : Int) < 0), rfl⟩
    | 5, hx => cases hx; exact .inl ⟨(by decide : (-1 : Int) < 0), rfl⟩
    | i + 6, hx => cases hx
  · match i, hx with
    | 0, hx => cases hx; cases hp
    | 1, hx => cases hx; cases hp
    | 2, hx => cases hx; cases hp
    | 3, hx => cases hx; cases hp
    | 4, hx => cases hx; cases hp
    | 5, hx => cases hx; cases hp
    | i + 6, hx => cases hx
  · simp only [List.mem_cons, List.not_mem_nil, or_false] at hx
    rcases hx with rfl | rfl | rfl | rfl | rfl | rfl <;> exact hw
/-- Two that can't be the same. -/
theorem uni_none {c : Cfg} {A : Abs} {w : World} {u v : Nat} (hI : Abs.Inv A []) (h : St c A w) (hl : A.l = Abs.lR) (hu : u < 6) (hv : v < 6) (hf : c.full = false) (hw0 : 0 ≤ c.wks) (hw1 : c.wks ≤ 1000) (hs : Abs.Step A [.pr u v] none) :
    Calls Tryd.prog 27 #[.pointer (some ⟨c.B, 0, none⟩), .int .i64 (u : Nat), .int .i64 (v : Nat)] w fun e w' => e = .returned (.bool false) ∧ ∃ k : Int, 0 ≤ k ∧ k ≤ c.wks + 7 ∧ Kp c w w' ∧ St { c with wks := k } A w' := by
  have hlen : A.l.length = 6 := by rw [hl]; rfl
  refine (unify_any c A w u v 1 none hI h (by omega) (by omega) hf hw0 (by omega) (by rw [hl]; decide) (.fail hs)).mono ?_
  rintro e w' ⟨k, h1, h2, h3, rfl, B, l', hp, _, h4⟩
  cases Abs.path_none hs hp
  exact ⟨rfl, k, h1, by omega, h3, h4⟩
/-- Two that become the same. -/
theorem uni_some {c : Cfg} {A B : Abs} {w : World} {u v : Nat} (hI : Abs.Inv A []) (h : St c A w) (hl : A.l = Abs.lR) (hu : u < 6) (hv : v < 6) (hf : c.full = false) (hw0 : 0 ≤ c.wks) (hw1 : c.wks ≤ 1000) (hs : Abs.Step A [.pr u v] (some (B, []))) :
    Calls Tryd.prog 27 #[.pointer (some ⟨c.B, 0, none⟩), .int .i64 (u : Nat), .int .i64 (v : Nat)] w fun e w' => e = .returned (.bool true) ∧ ∃ k : Int, 0 ≤ k ∧ k ≤ c.wks + 7 ∧ Kp c w w' ∧ St { c with wks := k } B w' ∧ Abs.Inv B [] := by
  have hlen : A.l.length = 6 := by rw [hl]; rfl
  refine (unify_any c A w u v 1 (some B) hI h (by omega) (by omega) hf hw0 (by omega) (by rw [hl]; decide) (.step hs (.done _ _))).mono ?_
  rintro e w' ⟨k, h1, h2, h3, rfl, h4, h5⟩
  exact ⟨rfl, k, h1, by omega, h3, h4, h5⟩
end Go.Proofs.YtncebhddcokkoaaDoor
