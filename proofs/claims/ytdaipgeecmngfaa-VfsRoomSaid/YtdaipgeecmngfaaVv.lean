/- The law's own look at the store, the chapter's example, answers true: whatever memory there is, on every order that Go leaves open. -/
import Derived.Test.YtdaipgeecmngfaaVs
namespace Go.Proofs.Ytdaipgeecmngfaa
open Go.RowKit Go.Maps

set_option maxRecDepth 100000 in
set_option maxHeartbeats 400000 in
theorem alive_ok (w : World) : Calls Try.prog 12 #[] w fun e w' => e = .returned (.bool true) ∧ Below w.heap.size w w' := by
  go_enter Try.func12, Try.ntmps12
  go_upto_region 2 with (first
    | (go_at_call 9; refine (new_ok 4 _ (by decide) (by decide)).mono ?_; rintro e w1 ⟨rfl, h1⟩)
    | go_in)
  have H1 := Lib.hid h1
  clear h1
  have kc := fun (w : World) (C : Array Value) (n c : Nat) => Lib.run_convert_bytes_const (P := Try.prog) w 45 5 C n c Try.underlying45 Try.underlying5
  go_upto_region 4 with (first
    | (go_at_call 11; refine (no_any _ _).mono ?_; rintro e w' ⟨rfl, rfl⟩)
    | (go_at_call 25; refine (write_a w w1 H1.out).mono ?_; rintro e w2 ⟨rfl, hR⟩)
    | go_in)
  clear kc
  obtain ⟨X, B, cb, hm⟩ : ∃ X B cb, Made (w.heap.size + 2) X B cb w2 := by
    obtain ⟨N, L, T, c, X, B, cb, cur, curb, h⟩ := hR.all
    exact ⟨X, B, cb, N, L, T, c, cur, curb, h⟩
  have HM := Lib.hid hm
  have HR := Lib.hid hR.below
  clear hm hR
  obtain ⟨F, hF⟩ : ∃ F, F = w.heap.size + 2 := ⟨_, rfl⟩
  rw [← hF] at HM ⊢
  clear hF H1
  go_upto_region 5 with (first
    | ((go_at_call 20; with_reducible refine (crashA w2 HM.out).mono ?_); rintro e w3 ⟨FA, rfl, h3⟩; have HM3 := Lib.hid (HM.out.below h3.below); have HA := Lib.hid h3; clear h3)
    | ((go_at_call 20; with_reducible refine (crashB w3 HM3.out).mono ?_); rintro e w4 ⟨FB, rfl, h4⟩; have HM4 := Lib.hid (HM3.out.below h4.below); have HB := Lib.hid h4; clear h4)
    | ((go_at_call 20; with_reducible refine (crashC w4 HM4.out).mono ?_); rintro e w5 ⟨FC, rfl, h5⟩; have HC := Lib.hid h5; clear h5))
  have rB : Calls Try.prog 19 #[.pointer (some ⟨FB, 0, none⟩), .string ⟨#[97]⟩] w5 fun e w' => e = .returned (.tuple #[.slice none 0 0, .int .i64 0]) ∧ w' = w5 := by
    obtain ⟨N2, L2, X2, hF, hN, hX⟩ := HB.out.all
    exact read_nil FB N2 L2 X2 4 0 1 _ _ w5 (by decide) (hb_below hF HC.out.below (hb_lt hF)) (hb_below hN HC.out.below (hb_lt hN)) (hb_below hX HC.out.below (hb_lt hX))
  have rC : Calls Try.prog 19 #[.pointer (some ⟨FC, 0, none⟩), .string ⟨#[97]⟩] w5 fun e w' => ∃ g2 c2, e = .returned (.tuple #[.slice (some ⟨g2, 0, none⟩) 1 c2, .int .i64 0]) ∧ NewRow (.slice (some ⟨g2, 0, none⟩) 1 c2) 1 [.int .u8 120] w5 w' := by
    obtain ⟨N2, L2, X2, g, c, lv, hF, hN, hX, hr⟩ := HC.out.all
    exact read_one FC N2 L2 X2 4 1 1 g c lv _ 120 w5 (by decide) hF hN hX hr
  have RB := Lib.hid rB
  have RC := Lib.hid rC
  clear rB rC
  go_upto_region 9 with (first
    | ((go_at_call 19; with_reducible refine (RB.out).mono ?_); rintro e w' ⟨rfl, rfl⟩)
    | ((go_at_call 19; with_reducible refine (RC.out).mono ?_); rintro e w6 ⟨g2, c2, rfl, h6⟩; have H6 := Lib.hid h6; clear h6)
    | go_in)
  have HA6 : Hid (Left0 FA 4 w2 w6) := by
    obtain ⟨⟨N2, L2, hF, hN⟩, hb⟩ := HA.out
    have h1 := hb_below (hb_below (hb_below hF HB.out.below (hb_lt hF)) HC.out.below (hb_lt (hb_below hF HB.out.below (hb_lt hF)))) H6.out.below (hb_lt (hb_below (hb_below hF HB.out.below (hb_lt hF)) HC.out.below (hb_lt (hb_below hF HB.out.below (hb_lt hF)))))
    have h2 := hb_below (hb_below (hb_below hN HB.out.below (hb_lt hN)) HC.out.below (hb_lt (hb_below hN HB.out.below (hb_lt hN)))) H6.out.below (hb_lt (hb_below (hb_below hN HB.out.below (hb_lt hN)) HC.out.below (hb_lt (hb_below hN HB.out.below (hb_lt hN)))))
    have s3 := HB.out.below.size
    have s4 := HC.out.below.size
    have s2 := hb.size
    exact ⟨⟨N2, L2, h1, h2⟩, ((hb.trans (HB.out.below.mono (by omega))).trans (HC.out.below.mono (by omega))).trans (H6.out.below.mono (by omega))⟩
  have HM6 := Lib.hid ((HM4.out.below HC.out.below).below H6.out.below)
  have nA : Calls Try.prog 22 #[.pointer (some ⟨FA, 0, none⟩)] w6 fun e w' => e = .returned (.slice none 0 0) ∧ Below w6.heap.size w6 w' := by
    obtain ⟨⟨N2, L2, hF, hN⟩, _⟩ := HA6.out
    exact names_none FA N2 L2 4 0 _ w6 (by decide) hF hN
  have NA := Lib.hid nA
  clear nA
  go_wp2_with (first
    | ((go_at_call 22; with_reducible refine (NA.out).mono ?_); rintro e w7 ⟨rfl, h7⟩; have H7 := Lib.hid h7; have HM7 := Lib.hid (HM6.out.below h7); have k7 := conv_one w7 g2 c2 (row_cell0 (own_kept (own_base0 H6.out.own) (fun g x _ hx => hb_below hx h7 (hb_lt hx)))); clear h7)
    | (go_at_call 11; refine (no_any _ _).mono ?_; rintro e w' ⟨rfl, rfl⟩)
    | ((go_at_call 24; with_reducible refine (used_made w7 HM7.out).mono ?_); rintro e w' ⟨rfl, rfl⟩)
    | go_in)
  go_ret
  have s1 := HR.out.size
  have s2 := HA6.out.below.size
  exact ⟨rfl, (HR.out.trans (HA6.out.below.mono s1)).trans (H7.out.mono (by omega))⟩
end Go.Proofs.Ytdaipgeecmngfaa
