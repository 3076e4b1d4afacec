/- Texts in a row: Mc Ml Mm. -/
import Derived.Test.YtncebhddcokkoaaDoorZD28
import Derived.Deep.QuietTactic
import Derived.BigQuiet
import Derived.Deep.DeepCutAuto
import Derived.Outline
/- The law's examples, run. -/
namespace Go.Proofs.YtncebhddcokkoaaDoor
open Go.RowKit Go.Maps
set_option linter.unusedSimpArgs false
set_option linter.unusedVariables false
theorem vat_row {w : World} {g : Nat} {fr : Nat × Nat} (h : w.heap[g]? = some (.cells #[.string ⟨#[97]⟩, .int .i64 2, .string ⟨#[]⟩, .string ⟨#[105, 110, 116]⟩, .int .i64 0, .slice none 0 0, .string ⟨#[98]⟩, .int .i64 2, .string ⟨#[]⟩, .string ⟨#[105, 110, 116]⟩, .int .i64 0, .slice none 0 0] 38 fr)) : VAt w 1000 (.slice (some ⟨g, 0, none⟩) 2 2) solL := by
  refine ⟨_, 2, rfl, by decide, fun i x hx => ?_⟩
  match i, hx with
  | 0, hx =>
    obtain rfl := Option.some.inj hx
    exact ⟨g, 2, ⟨#[]⟩, ⟨#[105, 110, 116]⟩, 0, _, rfl, hb_at h 0 rfl, by decide, ⟨hb_at h 1 rfl, hb_at h 2 rfl, hb_at h 3 rfl, hb_at h 4 rfl, hb_at h 5 rfl⟩, isT_c w ⟨#[105, 110, 116]⟩ (by decide) 999⟩
  | 1, hx =>
    obtain rfl := Option.some.inj hx
    exact ⟨g, 2, ⟨#[]⟩, ⟨#[105, 110, 116]⟩, 0, _, rfl, hb_at h 6 rfl, by decide, ⟨hb_at h 7 rfl, hb_at h 8 rfl, hb_at h 9 rfl, hb_at h 10 rfl, hb_at h 11 rfl⟩, isT_c w ⟨#[105, 110, 116]⟩ (by decide) 999⟩
  | i + 2, hx => simp [solL] at hx
set_option maxRecDepth 100000 in
set_option maxHeartbeats 4000000 in
theorem alive13_any (w : World) : Calls Tryd.prog 11 #[] w (fun e w' => e = .returned (.bool true) ∧ Below w.heap.size w w') := by
  have F1 := Lib.hid (fun W => fun13_any W 1 (tv 1 ⟨#[]⟩ ⟨#[97]⟩ 0 (.slice none 0 0)) (tv 2 ⟨#[]⟩ ⟨#[105, 110, 116]⟩ 0 (.slice none 0 0)) (vN sA) cInt (isT_v W sA (by decide) 0) (isT_c W ⟨#[105, 110, 116]⟩ (by decide) 0))
  have F2 := Lib.hid (fun W => fun13_any W 1 (tv 1 ⟨#[]⟩ ⟨#[98]⟩ 0 (.slice none 0 0)) (tv 1 ⟨#[]⟩ ⟨#[98]⟩ 0 (.slice none 0 0)) (vN sB) (vN sB) (isT_v W sB (by decide) 0) (isT_v W sB (by decide) 0))
  have F3 := Lib.hid (fun W => fun13_any W 1 (tv 2 ⟨#[]⟩ ⟨#[116, 101, 120, 116]⟩ 0 (.slice none 0 0)) (tv 1 ⟨#[]⟩ ⟨#[98]⟩ 0 (.slice none 0 0)) cText (vN sB) (isT_c W ⟨#[116, 101, 120, 116]⟩ (by decide) 0) (isT_v W sB (by decide) 0))
  have F4 := Lib.hid (fun W => fun13_any W 1 (tv 2 ⟨#[]⟩ ⟨#[116, 101, 120, 116]⟩ 0 (.slice none 0 0)) (tv 2 ⟨#[]⟩ ⟨#[105, 110, 116]⟩ 0 (.slice none 0 0)) cText cInt (isT_c W ⟨#[116, 101, 120, 116]⟩ (by decide) 0) (isT_c W ⟨#[105, 110, 116]⟩ (by decide) 0))
  have HBL := Lib.hid (Below.refl w.heap.size w)
  go_enter Tryd.func11, Tryd.ntmps11
  go_upto_region 2 with (first
    | (go_at_call 31; (with_reducible refine (tv13_any _ _).mono ?_); rintro e w0 ⟨rfl, hb⟩; have HBL := Lib.hid (HBL.out.trans (hb.mono HBL.out.size)); (try have HI1 := Lib.hid (HI1.out.below hb)); clear hb)
    | (go_at_call 39; (with_reducible refine (con13_any _ _ _ _ _).mono ?_); rintro e w0 ⟨rfl, hb⟩; have HBL := Lib.hid (HBL.out.trans (hb.mono HBL.out.size)); clear hb)
    | (go_at_call 32; (with_reducible refine (F1.out _).mono ?_); rintro e w1 ⟨q1, c1, rfl, hi, hb⟩; have HBL := Lib.hid (HBL.out.trans (hb.mono HBL.out.size)); have HI1 := Lib.hid hi; clear hi hb)
    | (go_at_call 32; (with_reducible refine (F2.out _).mono ?_); rintro e w2 ⟨q2, c2, rfl, hi, hb⟩; have HBL := Lib.hid (HBL.out.trans (hb.mono HBL.out.size)); have HI1 := Lib.hid (HI1.out.below hb); have HS := Lib.hid (sol1_any _ _ (eqAt_new HI1.out hi)); have HBL := Lib.hid (HBL.out.alloc HBL.out.size (.cells #[.int .i64 3, .string ⟨#[]⟩, .string ⟨#[]⟩, .int .i64 0, .slice q1 2 c1, .int .i64 3, .string ⟨#[]⟩, .string ⟨#[]⟩, .int .i64 0, .slice q2 2 c2] 43)); clear hi hb)
    | (go_at_call 12; (with_reducible refine HS.out.mono ?_); rintro e w3 ⟨hb, qv, cv, rfl, hv⟩; have HBL := Lib.hid (HBL.out.trans (hb.mono HBL.out.size)); have HV := Lib.hid hv; clear hb hv))
  clear HS HI1
  have HV := Lib.hid (fun W (hb : Below w3.heap.size w3 W) => HV.out.below hb)
  have HB3 := Lib.hid (Below.refl w3.heap.size w3)
  go_upto_region 3 with (first
    | (go_at_call 31; (with_reducible refine (tv13_any _ _).mono ?_); rintro e w4 ⟨rfl, hb⟩; have HB3 := Lib.hid (HB3.out.trans (hb.mono HB3.out.size)); clear hb)
    | (go_at_call 39; (with_reducible refine (con13_any _ _ _ _ _).mono ?_); rintro e w5 ⟨rfl, hb⟩; have hrow := hb_below (hb_new w4 (.cells #[.int .i64 1, .string ⟨#[]⟩, .string ⟨#[97]⟩, .int .i64 0, .slice none 0 0] 36)) hb (by simp); have hi := isT_list (cc := 1) (m := ⟨#[108, 105, 115, 116]⟩) (by decide) hrow (isT_v w5 ⟨#[97]⟩ (by decide) 0); have HS := Lib.hid (sol2_any _ _ (eqAt_new (isT_v w5 ⟨#[97]⟩ (by decide) 1) hi)); have HB3 := Lib.hid (((HB3.out.alloc HB3.out.size _).trans (hb.mono (HB3.out.alloc HB3.out.size _).size)).alloc ((HB3.out.alloc HB3.out.size _).trans (hb.mono (HB3.out.alloc HB3.out.size _).size)).size (.cells #[.int .i64 1, .string ⟨#[]⟩, .string ⟨#[97]⟩, .int .i64 0, .slice none 0 0, .int .i64 2, .string ⟨#[]⟩, .string ⟨#[108, 105, 115, 116]⟩, .int .i64 0, .slice (some ⟨w4.heap.size, 0, none⟩) 1 1] 43)); clear hb hrow hi)
    | (go_at_call 12; (with_reducible refine HS.out.mono ?_); rintro e w6 ⟨hb, rfl⟩; have HB3 := Lib.hid (HB3.out.trans (hb.mono HB3.out.size)); clear hb))
  clear HS
  go_upto_region 4 with (first
    | (go_at_call 31; (with_reducible refine (tv13_any _ _).mono ?_); rintro e w7 ⟨rfl, hb⟩; have HB3 := Lib.hid (HB3.out.trans (hb.mono HB3.out.size)); (try have HI1 := Lib.hid (HI1.out.below hb)); clear hb)
    | (go_at_call 39; (with_reducible refine (con13_any _ _ _ _ _).mono ?_); rintro e w7 ⟨rfl, hb⟩; have HB3 := Lib.hid (HB3.out.trans (hb.mono HB3.out.size)); (try have HI1 := Lib.hid (HI1.out.below hb)); clear hb)
    | (go_at_call 32; (with_reducible refine (F1.out _).mono ?_); rintro e w8 ⟨q1, c1, rfl, hi, hb⟩; have HB3 := Lib.hid (HB3.out.trans (hb.mono HB3.out.size)); have HI1 := Lib.hid hi; clear hi hb)
    | (go_at_call 32; (with_reducible refine (F3.out _).mono ?_); rintro e w9 ⟨q2, c2, rfl, hi, hb⟩; have HB3 := Lib.hid (HB3.out.trans (hb.mono HB3.out.size)); have HI1 := Lib.hid (HI1.out.below hb); have HM := Lib.hid (met3_any _ _ _ HI1.out hi); clear hi hb)
    | (go_at_call 20; (with_reducible refine HM.out.mono ?_); rintro e w10 ⟨hb, k, I, p, m, q, l, c, rfl, hi⟩; have HB3 := Lib.hid (HB3.out.trans (hb.mono HB3.out.size)); have HU := Lib.hid hi; clear hb hi))
  clear HM HI1
  have HV := Lib.hid (fun W' (hb : Below (w10.alloc (.cells #[.int .i64 k, .string p, .string m, .int .i64 I, .slice q l c] 36)).heap.size (w10.alloc (.cells #[.int .i64 k, .string p, .string m, .int .i64 I, .slice q l c] 36)) W') => HV.out W' ((HB3.out.alloc HB3.out.size _).trans (hb.mono (HB3.out.alloc HB3.out.size _).size)))
  have HU := Lib.hid (fun W' (hb : Below (w10.alloc (.cells #[.int .i64 k, .string p, .string m, .int .i64 I, .slice q l c] 36)).heap.size (w10.alloc (.cells #[.int .i64 k, .string p, .string m, .int .i64 I, .slice q l c] 36)) W') => (HU.out.below (below_alloc _ _)).below hb)
  have HBL := Lib.hid (HBL.out.trans ((HB3.out.alloc HB3.out.size (.cells #[.int .i64 k, .string p, .string m, .int .i64 I, .slice q l c] 36)).mono HBL.out.size))
  have hk := hb_new w10 (.cells #[.int .i64 k, .string p, .string m, .int .i64 I, .slice q l c] 36)
  have x0 := hb_at hk 0 rfl
  have x1 := hb_at hk 1 rfl
  have x2 := hb_at hk 2 rfl
  have x3 := hb_at hk 3 rfl
  have x4 := hb_at hk 4 rfl
  clear hk HB3
  generalize w10.alloc (.cells #[.int .i64 k, .string p, .string m, .int .i64 I, .slice q l c] 36) = W at *
  go_upto_region 4 with (fail)
  refine wp_region_held_drew (S := (fun w' => RowKit.Hid (Below W.heap.size W w') ∧ w'.cell? ⟨w10.heap.size, 0, none⟩ = some (.int .i64 k) ∧ w'.cell? ⟨w10.heap.size, 1, none⟩ = some (.string p) ∧ w'.cell? ⟨w10.heap.size, 2, none⟩ = some (.string m) ∧ w'.cell? ⟨w10.heap.size, 3, none⟩ = some (.int .i64 I) ∧ w'.cell? ⟨w10.heap.size, 4, none⟩ = some (.slice q l c))) (by kernel_rfl) (by exact ⟨Lib.hid (below_drewN (Below.refl _ _) 1), x0, x1, x2, x3, x4⟩) (fun hHeld => ?_)
  refine wpAnyH_take (i := 0) (oi := ⟨some 39, _, _, _, _, _⟩) (v := ?_) rfl (by kernel_rfl) (by kernel_rfl) (by kernel_rfl) (fun _ _ _ h => h) (Or.inl ⟨by rfl, ?_⟩) (by assumption) ?_
  rotate_left
  focus (intro w hSw; (try dsimp only at hSw); go_simp; first | done | with_reducible rfl)
  try simp only [Act.put, List.setIfInBounds_toArray, List.set_cons_zero, List.set_cons_succ]
  refine wpAnyH_take (i := 2) (oi := ⟨some 41, _, _, _, _, _⟩) (v := ?_) rfl (by kernel_rfl) (by kernel_rfl) (by kernel_rfl) (fun _ _ _ h => h) (Or.inl ⟨by rfl, ?_⟩) (by assumption) ?_
  rotate_left
  focus (intro w hSw; (try dsimp only at hSw); go_simp; first | done | with_reducible rfl)
  try simp only [Act.put, List.setIfInBounds_toArray, List.set_cons_zero, List.set_cons_succ]
  refine wpAnyH_ready (rs := [1]) (by kernel_rfl) (by simp) ?_
  refine AllReadyH.cons (o := ⟨some 40, _, _, _, _, _⟩) rfl (fun K hK => ?_) AllReadyH.nil
  go_simp
  (with_reducible refine (no13_any _ _).mono ?_); rintro e v1 ⟨rfl, hb⟩
  go_wp2_with fail
  refine hK.out _ _ (by exact ⟨Lib.hid (hHeld.1.out.trans (hb.mono hHeld.1.out.size)), keep_cell hb hHeld.2.1, keep_cell hb hHeld.2.2.1, keep_cell hb hHeld.2.2.2.1, keep_cell hb hHeld.2.2.2.2.1, keep_cell hb hHeld.2.2.2.2.2⟩) (fun hNew => ?_)
  clear hK K
  clear hHeld hb; have hHeld := hNew; clear hNew
  try simp only [Act.put, List.setIfInBounds_toArray, List.set_cons_zero, List.set_cons_succ]
  refine wpAnyH_ready (rs := [3]) (by kernel_rfl) (by simp) ?_
  refine AllReadyH.cons (o := ⟨some 42, _, _, _, _, _⟩) rfl (fun K hK => ?_) AllReadyH.nil
  go_simp
  (with_reducible refine (no13_any _ _).mono ?_); rintro e v2 ⟨rfl, hb⟩
  go_wp2_with fail
  refine hK.out _ _ (by exact ⟨Lib.hid (hHeld.1.out.trans (hb.mono hHeld.1.out.size)), keep_cell hb hHeld.2.1, keep_cell hb hHeld.2.2.1, keep_cell hb hHeld.2.2.2.1, keep_cell hb hHeld.2.2.2.2.1, keep_cell hb hHeld.2.2.2.2.2⟩) (fun hNew => ?_)
  clear hK K
  clear hHeld hb; have hHeld := hNew; clear hNew
  try simp only [Act.put, List.setIfInBounds_toArray, List.set_cons_zero, List.set_cons_succ]
  refine wpAnyH_take (i := 4) (oi := ⟨some 43, _, _, _, _, _⟩) (v := .int .i64 0) rfl (by kernel_rfl) (by kernel_rfl) (by kernel_rfl) (fun _ _ _ h => h) (Or.inl ⟨by rfl, ?_⟩) (by assumption) ?_
  focus (intro w hSw; (try dsimp only at hSw); go_simp; first | done | rfl | (simp; done) | decide)
  try simp only [Act.put, List.setIfInBounds_toArray, List.set_cons_zero, List.set_cons_succ]
  refine wpAnyH_take (i := 5) (oi := ⟨some 44, _, _, _, _, _⟩) (v := .bool true) rfl (by kernel_rfl) (by kernel_rfl) (by kernel_rfl) (fun _ _ _ h => h) (Or.inl ⟨by rfl, ?_⟩) (by assumption) ?_
  focus (intro w hSw; (try dsimp only at hSw); go_simp; first | done | rfl | (simp; done) | decide)
  try simp only [Act.put, List.setIfInBounds_toArray, List.set_cons_zero, List.set_cons_succ]
  refine wpAnyH_take (i := 6) (oi := ⟨some 45, _, _, _, _, _⟩) (v := ?_) rfl (by kernel_rfl) (by kernel_rfl) (by kernel_rfl) (fun _ _ _ h => h) (Or.inl ⟨by rfl, ?_⟩) (by assumption) ?_
  rotate_left
  focus (intro w hSw; (try dsimp only at hSw); go_simp; first | done | with_reducible rfl)
  try simp only [Act.put, List.setIfInBounds_toArray, List.set_cons_zero, List.set_cons_succ]
  refine wpAnyH_take (i := 7) (oi := ⟨some 46, _, _, _, _, _⟩) (v := ?_) rfl (by kernel_rfl) (by kernel_rfl) (by kernel_rfl) (fun _ _ _ h => h) (Or.inl ⟨by rfl, ?_⟩) (by assumption) ?_
  rotate_left
  focus (intro w hSw; (try dsimp only at hSw); go_simp; first | done | with_reducible rfl)
  try simp only [Act.put, List.setIfInBounds_toArray, List.set_cons_zero, List.set_cons_succ]
  refine wpAnyH_ready (rs := [8]) (by kernel_rfl) (by simp) ?_
  refine AllReadyH.cons (o := ⟨some 47, _, _, _, _, _⟩) rfl (fun K hK => ?_) AllReadyH.nil
  go_simp
  (with_reducible refine (con13_any _ _ _ _ _).mono ?_); rintro e v3 ⟨rfl, hb⟩
  go_wp2_with fail
  refine hK.out _ _ (by exact ⟨Lib.hid (hHeld.1.out.trans (hb.mono hHeld.1.out.size)), keep_cell hb hHeld.2.1, keep_cell hb hHeld.2.2.1, keep_cell hb hHeld.2.2.2.1, keep_cell hb hHeld.2.2.2.2.1, keep_cell hb hHeld.2.2.2.2.2⟩) (fun hNew => ?_)
  clear hK K
  clear hHeld hb; have hHeld := hNew; clear hNew
  try simp only [Act.put, List.setIfInBounds_toArray, List.set_cons_zero, List.set_cons_succ]
  refine wpAnyH_take (i := 9) (oi := ⟨some 48, _, _, _, _, _⟩) (v := ?_) rfl (by kernel_rfl) (by kernel_rfl) (by kernel_rfl) (fun _ _ _ h => h) (Or.inl ⟨by rfl, ?_⟩) (by assumption) ?_
  rotate_left
  focus (intro w hSw; (try dsimp only at hSw); go_simp; first | done | with_reducible rfl)
  try simp only [Act.put, List.setIfInBounds_toArray, List.set_cons_zero, List.set_cons_succ]
  refine wpAnyH_ready (rs := [10]) (by kernel_rfl) (by simp) ?_
  refine AllReadyH.cons (o := ⟨some 49, _, _, _, _, _⟩) rfl (fun K hK => ?_) AllReadyH.nil
  go_simp
  (with_reducible refine (con13_any _ _ _ _ _).mono ?_); rintro e v4 ⟨rfl, hb⟩
  go_wp2_with fail
  refine hK.out _ _ (by exact ⟨Lib.hid (hHeld.1.out.trans (hb.mono hHeld.1.out.size)), keep_cell hb hHeld.2.1, keep_cell hb hHeld.2.2.1, keep_cell hb hHeld.2.2.2.1, keep_cell hb hHeld.2.2.2.2.1, keep_cell hb hHeld.2.2.2.2.2⟩) (fun hNew => ?_)
  clear hK K
  clear hHeld hb; have hHeld := hNew; clear hNew
  try simp only [Act.put, List.setIfInBounds_toArray, List.set_cons_zero, List.set_cons_succ]
  refine wpAnyH_take (i := 11) (oi := ⟨some 50, _, _, _, _, _⟩) (v := ?_) rfl (by kernel_rfl) (by kernel_rfl) (by kernel_rfl) (fun _ _ _ h => h) (Or.inl ⟨by rfl, ?_⟩) (by assumption) ?_
  rotate_left
  focus (intro w hSw; (try dsimp only at hSw); go_simp; first | done | with_reducible rfl)
  try simp only [Act.put, List.setIfInBounds_toArray, List.set_cons_zero, List.set_cons_succ]
  refine wpAnyH_ready (rs := [12]) (by kernel_rfl) (by simp) ?_
  refine AllReadyH.cons (o := ⟨some 51, _, _, _, _, _⟩) rfl (fun K hK => ?_) AllReadyH.nil
  go_simp
  have hb := below_alloc v4 (.cells #[.string ⟨#[97]⟩, .int .i64 2, .string ⟨#[]⟩, .string ⟨#[105, 110, 116]⟩, .int .i64 0, .slice none 0 0, .string ⟨#[98]⟩, .int .i64 2, .string ⟨#[]⟩, .string ⟨#[105, 110, 116]⟩, .int .i64 0, .slice none 0 0] 38); have HSM := Lib.hid (usame_any 1000 _ _ solL _ (HV.out _ (hHeld.1.out.trans (hb.mono hHeld.1.out.size))) (vat_row (hb_new v4 (.cells #[.string ⟨#[97]⟩, .int .i64 2, .string ⟨#[]⟩, .string ⟨#[105, 110, 116]⟩, .int .i64 0, .slice none 0 0, .string ⟨#[98]⟩, .int .i64 2, .string ⟨#[]⟩, .string ⟨#[105, 110, 116]⟩, .int .i64 0, .slice none 0 0] 38))))
  go_wp2_with fail
  refine hK.out _ _ (by exact ⟨Lib.hid (hHeld.1.out.trans (hb.mono hHeld.1.out.size)), keep_cell hb hHeld.2.1, keep_cell hb hHeld.2.2.1, keep_cell hb hHeld.2.2.2.1, keep_cell hb hHeld.2.2.2.2.1, keep_cell hb hHeld.2.2.2.2.2⟩) (fun hNew => ?_)
  clear hK K
  clear hHeld hb; have hHeld := hNew; clear hNew
  try simp only [Act.put, List.setIfInBounds_toArray, List.set_cons_zero, List.set_cons_succ]
  refine wpAnyH_ready (rs := [13]) (by kernel_rfl) (by simp) ?_
  refine AllReadyH.cons (o := ⟨some 52, _, _, _, _, _⟩) rfl (fun K hK => ?_) AllReadyH.nil
  go_simp
  (with_reducible refine HSM.out.mono ?_); rintro e v5 ⟨rfl, hb⟩
  go_wp2_with fail
  refine hK.out _ _ (by exact ⟨Lib.hid (hHeld.1.out.trans (hb.mono hHeld.1.out.size)), keep_cell hb hHeld.2.1, keep_cell hb hHeld.2.2.1, keep_cell hb hHeld.2.2.2.1, keep_cell hb hHeld.2.2.2.2.1, keep_cell hb hHeld.2.2.2.2.2⟩) (fun hNew => ?_)
  clear hK K
  clear hHeld hb; have hHeld := hNew; clear hNew
  try simp only [Act.put, List.setIfInBounds_toArray, List.set_cons_zero, List.set_cons_succ]
  refine wpAnyH_take (i := 14) (oi := ⟨some 53, _, _, _, _, _⟩) (v := ?_) rfl (by kernel_rfl) (by kernel_rfl) (by kernel_rfl) (fun _ _ _ h => h) (Or.inl ⟨by rfl, ?_⟩) (by assumption) ?_
  rotate_left
  focus (intro w hSw; (try dsimp only at hSw); go_simp; first | done | with_reducible rfl)
  try simp only [Act.put, List.setIfInBounds_toArray, List.set_cons_zero, List.set_cons_succ]
  refine wpAnyH_take (i := 15) (oi := ⟨some 54, _, _, _, _, _⟩) (v := ?_) rfl (by kernel_rfl) (by kernel_rfl) (by kernel_rfl) (fun _ _ _ h => h) (Or.inl ⟨by rfl, ?_⟩) (by assumption) ?_
  rotate_left
  focus (intro w hSw; (try dsimp only at hSw); go_simp; first | done | with_reducible rfl)
  try simp only [Act.put, List.setIfInBounds_toArray, List.set_cons_zero, List.set_cons_succ]
  refine wpAnyH_take (i := 16) (oi := ⟨some 55, _, _, _, _, _⟩) (v := ?_) rfl (by kernel_rfl) (by kernel_rfl) (by kernel_rfl) (fun _ _ _ h => h) (Or.inl ⟨by rfl, ?_⟩) (by assumption) ?_
  rotate_left
  focus (intro w hSw; (try dsimp only at hSw); go_simp; first | done | with_reducible rfl)
  try simp only [Act.put, List.setIfInBounds_toArray, List.set_cons_zero, List.set_cons_succ]
  refine wpAnyH_ready (rs := [17]) (by kernel_rfl) (by simp) ?_
  refine AllReadyH.cons (o := ⟨some 56, _, _, _, _, _⟩) rfl (fun K hK => ?_) AllReadyH.nil
  go_simp
  (with_reducible refine (no13_any _ _).mono ?_); rintro e v6 ⟨rfl, hb⟩
  go_wp2_with fail
  refine hK.out _ _ (by exact ⟨Lib.hid (hHeld.1.out.trans (hb.mono hHeld.1.out.size)), keep_cell hb hHeld.2.1, keep_cell hb hHeld.2.2.1, keep_cell hb hHeld.2.2.2.1, keep_cell hb hHeld.2.2.2.2.1, keep_cell hb hHeld.2.2.2.2.2⟩) (fun hNew => ?_)
  clear hK K
  clear hHeld hb; have hHeld := hNew; clear hNew
  try simp only [Act.put, List.setIfInBounds_toArray, List.set_cons_zero, List.set_cons_succ]
  refine wpAnyH_take (i := 18) (oi := ⟨some 57, _, _, _, _, _⟩) (v := .bool true) rfl (by kernel_rfl) (by kernel_rfl) (by kernel_rfl) (fun _ _ _ h => h) (Or.inl ⟨by rfl, ?_⟩) (by assumption) ?_
  focus (intro w hSw; (try dsimp only at hSw); go_simp; first | done | rfl | (simp; done) | decide)
  try simp only [Act.put, List.setIfInBounds_toArray, List.set_cons_zero, List.set_cons_succ]
  refine wpAnyH_take (i := 19) (oi := ⟨some 58, _, _, _, _, _⟩) (v := ?_) rfl (by kernel_rfl) (by kernel_rfl) (by kernel_rfl) (fun _ _ _ h => h) (Or.inl ⟨by rfl, ?_⟩) (by assumption) ?_
  rotate_left
  focus (intro w hSw; (try dsimp only at hSw); go_simp; first | done | with_reducible rfl)
  try simp only [Act.put, List.setIfInBounds_toArray, List.set_cons_zero, List.set_cons_succ]
  refine wpAnyH_take (i := 20) (oi := ⟨some 59, _, _, _, _, _⟩) (v := ?_) rfl (by kernel_rfl) (by kernel_rfl) (by kernel_rfl) (fun _ _ _ h => h) (Or.inl ⟨by rfl, ?_⟩) (by assumption) ?_
  rotate_left
  focus (intro w hSw; (try dsimp only at hSw); go_simp; first | done | with_reducible rfl)
  try simp only [Act.put, List.setIfInBounds_toArray, List.set_cons_zero, List.set_cons_succ]
  refine wpAnyH_take (i := 21) (oi := ⟨some 60, _, _, _, _, _⟩) (v := ?_) rfl (by kernel_rfl) (by kernel_rfl) (by kernel_rfl) (fun _ _ _ h => h) (Or.inl ⟨by rfl, ?_⟩) (by assumption) ?_
  rotate_left
  focus (intro w hSw; (try dsimp only at hSw); go_simp; first | done | with_reducible rfl)
  try simp only [Act.put, List.setIfInBounds_toArray, List.set_cons_zero, List.set_cons_succ]
  refine wpAnyH_ready (rs := [22]) (by kernel_rfl) (by simp) ?_
  refine AllReadyH.cons (o := ⟨some 61, _, _, _, _, _⟩) rfl (fun K hK => ?_) AllReadyH.nil
  go_simp
  (with_reducible refine (con13_any _ _ _ _ _).mono ?_); rintro e v7 ⟨rfl, hb⟩
  go_wp2_with fail
  refine hK.out _ _ (by exact ⟨Lib.hid (hHeld.1.out.trans (hb.mono hHeld.1.out.size)), keep_cell hb hHeld.2.1, keep_cell hb hHeld.2.2.1, keep_cell hb hHeld.2.2.2.1, keep_cell hb hHeld.2.2.2.2.1, keep_cell hb hHeld.2.2.2.2.2⟩) (fun hNew => ?_)
  clear hK K
  clear hHeld hb; have hHeld := hNew; clear hNew
  try simp only [Act.put, List.setIfInBounds_toArray, List.set_cons_zero, List.set_cons_succ]
  refine wpAnyH_ready (rs := [23]) (by kernel_rfl) (by simp) ?_
  refine AllReadyH.cons (o := ⟨some 62, _, _, _, _, _⟩) rfl (fun K hK => ?_) AllReadyH.nil
  go_simp
  (with_reducible refine (con13_any _ _ _ _ _).mono ?_); rintro e v8 ⟨rfl, hb⟩
  go_wp2_with fail
  refine hK.out _ _ (by exact ⟨Lib.hid (hHeld.1.out.trans (hb.mono hHeld.1.out.size)), keep_cell hb hHeld.2.1, keep_cell hb hHeld.2.2.1, keep_cell hb hHeld.2.2.2.1, keep_cell hb hHeld.2.2.2.2.1, keep_cell hb hHeld.2.2.2.2.2⟩) (fun hNew => ?_)
  clear hK K
  clear hHeld hb; have hHeld := hNew; clear hNew
  try simp only [Act.put, List.setIfInBounds_toArray, List.set_cons_zero, List.set_cons_succ]
  refine wpAnyH_ready (rs := [24]) (by kernel_rfl) (by simp) ?_
  refine AllReadyH.cons (o := ⟨some 63, _, _, _, _, _⟩) rfl (fun K hK => ?_) AllReadyH.nil
  go_simp
  (with_reducible refine (F4.out _).mono ?_); rintro e v9 ⟨q9, c9, rfl, hi, hb⟩; have HI9 := Lib.hid hi; clear hi
  go_wp2_with fail
  refine hK.out _ _ (by exact ⟨Lib.hid (hHeld.1.out.trans (hb.mono hHeld.1.out.size)), keep_cell hb hHeld.2.1, keep_cell hb hHeld.2.2.1, keep_cell hb hHeld.2.2.2.1, keep_cell hb hHeld.2.2.2.2.1, keep_cell hb hHeld.2.2.2.2.2⟩) (fun hNew => ?_)
  clear hK K
  clear hHeld hb; have hHeld := hNew; clear hNew
  try simp only [Act.put, List.setIfInBounds_toArray, List.set_cons_zero, List.set_cons_succ]
  refine wpAnyH_ready (rs := [25]) (by kernel_rfl) (by simp) ?_
  refine AllReadyH.cons (o := ⟨some 64, _, _, _, _, _⟩) rfl (fun K hK => ?_) AllReadyH.nil
  go_simp
  have hsm := refSame_any 1000 _ _ _ _ v9 (HU.out _ hHeld.1.out) (HI9.out.more (by decide)); (with_reducible refine hsm.mono ?_); rintro e v10 ⟨he, hb⟩; rw [same_self] at he; subst he; clear hsm
  go_wp2_with fail
  refine hK.out _ _ (by exact ⟨Lib.hid (hHeld.1.out.trans (hb.mono hHeld.1.out.size)), keep_cell hb hHeld.2.1, keep_cell hb hHeld.2.2.1, keep_cell hb hHeld.2.2.2.1, keep_cell hb hHeld.2.2.2.2.1, keep_cell hb hHeld.2.2.2.2.2⟩) (fun hNew => ?_)
  clear hK K
  clear hHeld hb; have hHeld := hNew; clear hNew
  try simp only [Act.put, List.setIfInBounds_toArray, List.set_cons_zero, List.set_cons_succ]
  refine wpAnyH_take (i := 26) (oi := ⟨some 65, _, _, _, _, _⟩) (v := ?_) rfl (by kernel_rfl) (by kernel_rfl) (by kernel_rfl) (fun _ _ _ h => h) (Or.inl ⟨by rfl, ?_⟩) (by assumption) ?_
  rotate_left
  focus (intro w hSw; (try dsimp only at hSw); go_simp; first | done | with_reducible rfl)
  try simp only [Act.put, List.setIfInBounds_toArray, List.set_cons_zero, List.set_cons_succ]
  refine wpAnyH_take (i := 27) (oi := ⟨some 0, _, _, _, _, _⟩) (v := ?_) rfl (by kernel_rfl) (by kernel_rfl) (by kernel_rfl) (fun _ _ _ h => h) (Or.inl ⟨by rfl, ?_⟩) (by assumption) ?_
  rotate_left
  focus (intro w hSw; (try dsimp only at hSw); go_simp; first | done | with_reducible rfl)
  try simp only [Act.put, List.setIfInBounds_toArray, List.set_cons_zero, List.set_cons_succ]
  refine wpAnyH_done (by kernel_rfl) ?_ _
  go_wp2
  go_ret
  exact ⟨rfl, HBL.out.trans (hHeld.1.out.mono HBL.out.size)⟩
end Go.Proofs.YtncebhddcokkoaaDoor
/- Equations are gone through. -/
namespace Go.Proofs.YtncebhddcokkoaaDoor
open Go.RowKit Go.Maps
set_option linter.unusedSimpArgs false
set_option linter.unusedVariables false
/-- The sides of the first equations, in a row of one's own. -/
structure EqsI (w : World) (E : List (Tm × Tm)) (d j : Nat) (tv' : Value) (ts : List T5) (wr : World) : Prop where
  row : wr.ownsRow w.heap.size 36 5 tv' ts.length (flatC ts)
  len : ts.length = (two (E.take j)).length
  bel : Below w.heap.size w wr
  trm : ∀ (i : Nat) (y : Tm), (two (E.take j))[i]? = some y → ∃ t, ts[i]? = some t ∧ IsT w d (t5v t) y
theorem EqsI.below {w wr w' : World} {E : List (Tm × Tm)} {d j : Nat} {tv' : Value} {ts : List T5} (h : EqsI w E d j tv' ts wr) (hb : Below wr.heap.size wr w') : EqsI w E d j tv' ts w' :=
  ⟨own_kept h.row fun g x hg hx => hb_below hx hb (hb_lt hx), h.len, h.bel.trans (hb.mono h.bel.size), h.trm⟩
end Go.Proofs.YtncebhddcokkoaaDoor
/- Equations turned. -/
namespace Go.Proofs.YtncebhddcokkoaaDoor
open Go.RowKit Go.Maps
set_option linter.unusedSimpArgs false
set_option linter.unusedVariables false
theorem mem_two {E : List (Tm × Tm)} {t : Tm} : t ∈ two E ↔ ∃ x ∈ E, t = x.1 ∨ t = x.2 := by
  induction E with
  | nil => simp [two]
  | cons y E ih => simp [two, ih, or_assoc]
theorem mem_nmsE {d : Nat} {E : List (Tm × Tm)} {n : ByteArray} : n ∈ nmsE d E ↔ ∃ x ∈ E, hasV d x.1 n ∨ hasV d x.2 n := by
  unfold nmsE
  rw [← inN_iffL, inN_foldV (inN_varsT d)]
  constructor
  · rintro (h | ⟨t, ht, h⟩)
    · simp [inN] at h
    · obtain ⟨x, hx, rfl | rfl⟩ := mem_two.1 ht
      · exact ⟨x, hx, .inl h⟩
      · exact ⟨x, hx, .inr h⟩
  · rintro ⟨x, hx, h | h⟩
    · exact .inr ⟨_, mem_two.2 ⟨x, hx, .inl rfl⟩, h⟩
    · exact .inr ⟨_, mem_two.2 ⟨x, hx, .inr rfl⟩, h⟩
/-- The same equations, in another order, some with their sides turned. -/
def Turn (E F : List (Tm × Tm)) : Prop := (∀ x ∈ F, x ∈ E ∨ (x.2, x.1) ∈ E) ∧ ∀ x ∈ E, x ∈ F ∨ (x.2, x.1) ∈ F
theorem Turn.sol {E F : List (Tm × Tm)} (h : Turn E F) (τ : ByteArray → Tm) : SolE E τ ↔ SolE F τ := by
  constructor
  · intro hs x hx
    rcases h.1 x hx with hx | hx
    · exact hs x hx
    · obtain ⟨u, h1, h2⟩ := hs _ hx
      exact ⟨u, h2, h1⟩
  · intro hs x hx
    rcases h.2 x hx with hx | hx
    · exact hs x hx
    · obtain ⟨u, h1, h2⟩ := hs _ hx
      exact ⟨u, h2, h1⟩
theorem Turn.nms {E F : List (Tm × Tm)} (h : Turn E F) (d : Nat) (n : ByteArray) : n ∈ nmsE d E ↔ n ∈ nmsE d F := by
  rw [mem_nmsE, mem_nmsE]
  constructor
  · rintro ⟨x, hx, hv⟩
    rcases h.2 x hx with hx | hx
    · exact ⟨x, hx, hv⟩
    · exact ⟨_, hx, hv.symm⟩
  · rintro ⟨x, hx, hv⟩
    rcases h.1 x hx with hx | hx
    · exact ⟨x, hx, hv⟩
    · exact ⟨_, hx, hv.symm⟩
theorem foldl_tot {α : Type} (f : α → Nat) : ∀ (l : List α) (n : Nat), l.foldl (fun n t => n + f t) n = n + (l.map f).sum
  | [], n => by simp
  | x :: l, n => by rw [List.foldl_cons, foldl_tot f l]; simp; omega
end Go.Proofs.YtncebhddcokkoaaDoor
