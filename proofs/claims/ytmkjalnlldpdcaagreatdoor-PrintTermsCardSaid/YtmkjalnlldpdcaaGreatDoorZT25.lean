/- Texts in a row: Pn Po Pp Pq. -/
import Derived.Test.YtmkjalnlldpdcaaGreatDoorZT24
set_option maxHeartbeats 16000000
set_option maxRecDepth 100000
namespace Go.Proofs.YtmkjalnlldpdcaaGreatDoor
open Go.RowKit
set_option linter.unusedSimpArgs false
set_option linter.unusedVariables false
theorem annP_one {E : Nat} {one : Ts → Res Tm} {ts ts' : Ts} {l : List Tm} (hB : isB 8 sColon ts = true) (h : annP E one ts = .ok (l, ts')) : ∃ x, l = [x] := by
 unfold annP at h
 rw [if_pos hB] at h
 cases hx : one ts.tail with
 | error e => rw [hx] at h; cases h
 | ok y =>
  rw [hx] at h
  cases h
  exact ⟨_, rfl⟩
theorem next_kd (r E : Nat) (ts : Ts) (w : World) (hR : Rd r E w ts) : Calls Tryz.prog 173 #[rp r] w fun e w' => (∃ z n a, e = .returned (.agg #[.int .i64 (kd ts), .string z, .int .i64 n, .int .i64 a])) ∧ Below w.heap.size w w' := by
 refine (next_any r E ts w hR).mono ?_
 rintro e w' ⟨rfl, hb⟩
 have h : kd ts = (nx E ts).1.k := by cases ts <;> rfl
 exact ⟨⟨(nx E ts).1.s, (nx E ts).1.n, ((nx E ts).2 : Nat), by rw [h]; rfl⟩, hb⟩
theorem atom_any (r E g d : Nat) (hd : d + g = 41) (IH : ExprC r E g d) (ts : Ts) (w : World) (hR : Rd r E w ts) : Calls Tryz.prog 136 #[rp r, .int .i64 (d : Nat)] w (Got r E TmV w (atomP E (exprP E g) (typP E g) ts)) := by
 have HIH := Hd IH
 have HM := Hd (exprP_mono E g)
 have HCF : RowKit.Hid (∀ W, (callFunc 187 #[bp w.heap.size, bp (w.heap.size + 1)]).run Tryz.prog W = .ok (.enter 187 #[bp w.heap.size, bp (w.heap.size + 1)]) W) := Hd (fun W => by kernel_rfl)
 clear IH
 have HR0 := Hd hR
 have hrl := hR.lt
 have HG0 : RowKit.Hid (Rg r w w) := Hd (Rg.refl r w)
 obtain ⟨S, hS⟩ : ∃ S, S = atomP E (exprP E g) (typP E g) ts := ⟨_, rfl⟩
 have HS0 := Hd hS
 rw [← hS]
 unfold atomP at HS0
 clear hR hS
 have HN0 := Hd (fun W hW => next_any r E ts W hW)
 have hnx : (nx E ts).1 = (nx 0 ts).1 := by cases ts <;> rfl
 unfold tokV at HN0
 unfold kd at HS0
 rw [← hnx] at HS0
 have HKD : RowKit.Hid (kd ts = (nx E ts).1.k) := Hd (by rw [hnx]; rfl)
 clear hnx
 generalize nx E ts = T at *
 obtain ⟨⟨nk, nz, nn⟩, na⟩ := T
 have HN : RowKit.Hid (∀ W, Rd r E W ts → Calls Tryz.prog 173 #[rp r] W fun e w' => e = .returned (.agg #[.int .i64 nk, .string nz, .int .i64 nn, .int .i64 (na : Nat)]) ∧ Below W.heap.size W w') := HN0
 clear HN0
 have hf0 := fld0 nk nn na nz
 by_cases h4 : nk = 4
 · have h := HS0.out
   rw [if_pos h4] at h
   have HSa := Hd h
   subst h4
   clear HS0 h 
   have HS1z := HSa
   have HS0 := HSa
   go_enter Tryz.func136, Tryz.ntmps136
   go_upto_region 1 with (fail)
   obtain ⟨c0, c1, c2, hz3, hb3⟩ := boxes3 w (.cells #[rp r] 107) (.cells #[.int .i64 (d : Nat)] 3) (.cells #[.int .i64 0, .string ⟨#[]⟩, .string ⟨#[]⟩, .int .i64 0, .slice none 0 0] 24)
   generalize hW1 : ((w.alloc (.cells #[rp r] 107)).alloc (.cells #[.int .i64 (d : Nat)] 3)).alloc (.cells #[.int .i64 0, .string ⟨#[]⟩, .string ⟨#[]⟩, .int .i64 0, .slice none 0 0] 24) = W1 at *
   have HBr1 := Hd c0
   have HBd1 := Hd c1
   have HBx1 := Hd c2
   have HR1 : RowKit.Hid (Rd r E W1 ts) := Hd (HR0.out.below hb3)
   have HG1 : RowKit.Hid (Rg r w W1) := Hd (Rg.of_below hb3)
   have HS1 := HS0
   have x0 := hb_at c0 0 rfl
   have x1 := hb_at c1 0 rfl
   have q0 := hb_lt c0
   have q1 := hb_lt c1
   have q2 := hb_lt c2
   clear hW1 c0 c1 c2 hb3
   go_wp2_with (first
    | (go_at_call 173; (with_reducible refine (HN.out _ Q14).mono ?_); rintro e w2 ⟨rfl, hb⟩; have HG2 : RowKit.Hid (Rg r w w2) := Hd Q26; have HR2 : RowKit.Hid (Rd r E w2 ts) := Hd Q34; have HD2 := Hd (Rg.of_below (r := r) hb); have HS2 := HS1; (have HBr2 := Hd (HD2.out.keep HBr1.out (by omega))); (have HBd2 := Hd (HD2.out.keep HBd1.out (by omega))); (have HBx2 := Hd (HD2.out.keep HBx1.out (by omega))); have u2a := hb_at HBr2.out 0 rfl; have u2b := hb_at HBd2.out 0 rfl; have u2c := hb_lt HBr2.out; have u2d := hb_lt HBd2.out; have u2e := hb_lt HBx2.out; obtain ⟨x20, x21, x22, x23, x24, y20, y21, y22, y23, y24⟩ := box5 HBx2.out; clear hb)
    | (go_at_call 180; (with_reducible refine (take_st r E 4 _ (by decide) _ Q15).mono ?_); rintro e w3 h3; rcases h3.step HS2.out with ⟨v3, a3, ts3, rfl, hV, hR, hg, hS, hx⟩ | ⟨y, rfl, hg, hSE⟩; rotate_left; (have hGE : Rg r w w3 := Q4); rotate_left; (obtain ⟨rfl, hst3⟩ := hV); (have HR3 := Hd hR; have HG3 : RowKit.Hid (Rg r w w3) := Hd Q4; have HS3 := Hd hS; have HX3 := Hd hx; have HD3 := Hd hg; clear hR hg hS hx); (have HBr3 := Hd (HD3.out.keep (hb_alloc HBr2.out _) (by omega))); (have HBd3 := Hd (HD3.out.keep (hb_alloc HBd2.out _) (by omega))); (have HBx3 := Hd (HD3.out.keep (hb_alloc HBx2.out _) (by omega))); have u3a := hb_at HBr3.out 0 rfl; have u3b := hb_at HBd3.out 0 rfl; have u3c := hb_lt HBr3.out; have u3d := hb_lt HBd3.out; have u3e := hb_lt HBx3.out; obtain ⟨x30, x31, x32, x33, x34, y30, y31, y32, y33, y34⟩ := box5 HBx3.out; (have HBt3 := Hd (HD3.out.keep (hb_new _ _) (by omega)); obtain ⟨s0, s1, s2, s3, _⟩ := box4 HBt3.out; have st := hb_lt HBt3.out)))
   all_goals first | exact ⟨rfl, hGE, rfl⟩ | exact ⟨rfl, hGE, by rw [hSE]⟩ | skip
   have hz2 := HD2.out.size
   have hz3 := HD3.out.size
   rw [World.size_alloc] at hz3
   exact fin5 (w0 := w) rfl rfl rfl HBx3.out (by omega) HG3.out hrl HR3.out HS3.out w3.heap.size (by omega) (by omega) ⟨_, leafX _ _ _ _ _ _ (by decide) (by decide)⟩
 by_cases h5 : nk = 5
 · have h := HS0.out
   rw [if_neg h4, if_pos h5] at h
   have HSa := Hd h
   subst h5
   clear HS0 h h4
   have HS1z := HSa
   have HS0 := HSa
   go_enter Tryz.func136, Tryz.ntmps136
   go_upto_region 1 with (fail)
   obtain ⟨c0, c1, c2, hz3, hb3⟩ := boxes3 w (.cells #[rp r] 107) (.cells #[.int .i64 (d : Nat)] 3) (.cells #[.int .i64 0, .string ⟨#[]⟩, .string ⟨#[]⟩, .int .i64 0, .slice none 0 0] 24)
   generalize hW1 : ((w.alloc (.cells #[rp r] 107)).alloc (.cells #[.int .i64 (d : Nat)] 3)).alloc (.cells #[.int .i64 0, .string ⟨#[]⟩, .string ⟨#[]⟩, .int .i64 0, .slice none 0 0] 24) = W1 at *
   have HBr1 := Hd c0
   have HBd1 := Hd c1
   have HBx1 := Hd c2
   have HR1 : RowKit.Hid (Rd r E W1 ts) := Hd (HR0.out.below hb3)
   have HG1 : RowKit.Hid (Rg r w W1) := Hd (Rg.of_below hb3)
   have HS1 := HS0
   have x0 := hb_at c0 0 rfl
   have x1 := hb_at c1 0 rfl
   have q0 := hb_lt c0
   have q1 := hb_lt c1
   have q2 := hb_lt c2
   clear hW1 c0 c1 c2 hb3
   go_wp2_with (first
    | (go_at_call 173; (with_reducible refine (HN.out _ Q14).mono ?_); rintro e w2 ⟨rfl, hb⟩; have HG2 : RowKit.Hid (Rg r w w2) := Hd Q26; have HR2 : RowKit.Hid (Rd r E w2 ts) := Hd Q34; have HD2 := Hd (Rg.of_below (r := r) hb); have HS2 := HS1; (have HBr2 := Hd (HD2.out.keep HBr1.out (by omega))); (have HBd2 := Hd (HD2.out.keep HBd1.out (by omega))); (have HBx2 := Hd (HD2.out.keep HBx1.out (by omega))); have u2a := hb_at HBr2.out 0 rfl; have u2b := hb_at HBd2.out 0 rfl; have u2c := hb_lt HBr2.out; have u2d := hb_lt HBd2.out; have u2e := hb_lt HBx2.out; obtain ⟨x20, x21, x22, x23, x24, y20, y21, y22, y23, y24⟩ := box5 HBx2.out; clear hb)
    | (go_at_call 180; (with_reducible refine (take_st r E 5 _ (by decide) _ Q15).mono ?_); rintro e w3 h3; rcases h3.step HS2.out with ⟨v3, a3, ts3, rfl, hV, hR, hg, hS, hx⟩ | ⟨y, rfl, hg, hSE⟩; rotate_left; (have hGE : Rg r w w3 := Q4); rotate_left; (obtain ⟨rfl, hst3⟩ := hV); (have HR3 := Hd hR; have HG3 : RowKit.Hid (Rg r w w3) := Hd Q4; have HS3 := Hd hS; have HX3 := Hd hx; have HD3 := Hd hg; clear hR hg hS hx); (have HBr3 := Hd (HD3.out.keep (hb_alloc HBr2.out _) (by omega))); (have HBd3 := Hd (HD3.out.keep (hb_alloc HBd2.out _) (by omega))); (have HBx3 := Hd (HD3.out.keep (hb_alloc HBx2.out _) (by omega))); have u3a := hb_at HBr3.out 0 rfl; have u3b := hb_at HBd3.out 0 rfl; have u3c := hb_lt HBr3.out; have u3d := hb_lt HBd3.out; have u3e := hb_lt HBx3.out; obtain ⟨x30, x31, x32, x33, x34, y30, y31, y32, y33, y34⟩ := box5 HBx3.out))
   all_goals first | exact ⟨rfl, hGE, rfl⟩ | exact ⟨rfl, hGE, by rw [hSE]⟩ | skip
   have hz2 := HD2.out.size
   have hz3 := HD3.out.size
   rw [World.size_alloc] at hz3
   exact fin5 (w0 := w) rfl rfl rfl HBx3.out (by omega) HG3.out hrl HR3.out HS3.out w3.heap.size (by omega) (by omega) ⟨_, leafX _ _ _ _ _ _ (by decide) hst3⟩
 by_cases h2 : nk = 2
 · have h := HS0.out
   rw [if_neg h4, if_neg h5, if_pos h2] at h
   have HSa := Hd h
   subst h2
   clear HS0 h h4 h5
   have HS1z := HSa
   have HS0 := HSa
   go_enter Tryz.func136, Tryz.ntmps136
   go_upto_region 1 with (fail)
   obtain ⟨c0, c1, c2, hz3, hb3⟩ := boxes3 w (.cells #[rp r] 107) (.cells #[.int .i64 (d : Nat)] 3) (.cells #[.int .i64 0, .string ⟨#[]⟩, .string ⟨#[]⟩, .int .i64 0, .slice none 0 0] 24)
   generalize hW1 : ((w.alloc (.cells #[rp r] 107)).alloc (.cells #[.int .i64 (d : Nat)] 3)).alloc (.cells #[.int .i64 0, .string ⟨#[]⟩, .string ⟨#[]⟩, .int .i64 0, .slice none 0 0] 24) = W1 at *
   have HBr1 := Hd c0
   have HBd1 := Hd c1
   have HBx1 := Hd c2
   have HR1 : RowKit.Hid (Rd r E W1 ts) := Hd (HR0.out.below hb3)
   have HG1 : RowKit.Hid (Rg r w W1) := Hd (Rg.of_below hb3)
   have HS1 := HS0
   have x0 := hb_at c0 0 rfl
   have x1 := hb_at c1 0 rfl
   have q0 := hb_lt c0
   have q1 := hb_lt c1
   have q2 := hb_lt c2
   clear hW1 c0 c1 c2 hb3
   go_wp2_with (first
    | (go_at_call 173; (with_reducible refine (HN.out _ Q14).mono ?_); rintro e w2 ⟨rfl, hb⟩; have HG2 : RowKit.Hid (Rg r w w2) := Hd Q26; have HR2 : RowKit.Hid (Rd r E w2 ts) := Hd Q34; have HD2 := Hd (Rg.of_below (r := r) hb); have HS2 := HS1; (have HBr2 := Hd (HD2.out.keep HBr1.out (by omega))); (have HBd2 := Hd (HD2.out.keep HBd1.out (by omega))); (have HBx2 := Hd (HD2.out.keep HBx1.out (by omega))); have u2a := hb_at HBr2.out 0 rfl; have u2b := hb_at HBd2.out 0 rfl; have u2c := hb_lt HBr2.out; have u2d := hb_lt HBd2.out; have u2e := hb_lt HBx2.out; obtain ⟨x20, x21, x22, x23, x24, y20, y21, y22, y23, y24⟩ := box5 HBx2.out; clear hb)
    | (go_at_call 188; (with_reducible refine (qualifier_any r E ts HKD.out _ Q15).mono ?_); rintro e w3 h3; rcases h3.step HS2.out with ⟨v3, a3, ts3, rfl, hV, hR, hg, hS, hx⟩ | ⟨y, rfl, hg, hSE⟩; rotate_left; (have hGE : Rg r w w3 := Q4); rotate_left; (obtain ⟨rfl, hst3⟩ := hV); (have HR3 := Hd hR; have HG3 : RowKit.Hid (Rg r w w3) := Hd Q4; have HS3 := Hd hS; have HX3 := Hd hx; have HD3 := Hd hg; clear hR hg hS hx); (have HBr3 := Hd (HD3.out.keep (hb_alloc HBr2.out _) (by omega))); (have HBd3 := Hd (HD3.out.keep (hb_alloc HBd2.out _) (by omega))); (have HBx3 := Hd (HD3.out.keep (hb_alloc HBx2.out _) (by omega))); have u3a := hb_at HBr3.out 0 rfl; have u3b := hb_at HBd3.out 0 rfl; have u3c := hb_lt HBr3.out; have u3d := hb_lt HBd3.out; have u3e := hb_lt HBx3.out; obtain ⟨x30, x31, x32, x33, x34, y30, y31, y32, y33, y34⟩ := box5 HBx3.out)
    | (go_at_call 189; (with_reducible refine (constructor_t 24 _ hst3 r E (exprP E g) 187 _ _ _ Q17 HM.out HCF.out ((atom1_any r E d g HIH.out _ _ w4 HBr4.out HBd4.out (by omega) (by omega)).at Q25)).mono ?_); rintro e w5 h5; rcases h5.step (HS4.out.trans (bnd_id _).symm) with ⟨v5, a5, ts5, rfl, hV, hR, hg, hS, hx⟩ | ⟨y, rfl, hg, hSE⟩; rotate_left; (have hGE : Rg r w w5 := Q6); rotate_left; (obtain ⟨k5, p5, n5, N5, q5, l5, c5, rfl⟩ := hV.shape; have HV5 := Hd hV); (have HR5 := Hd hR; have HG5 : RowKit.Hid (Rg r w w5) := Hd Q6; have HS5 := Hd hS; have HX5 := Hd hx; have HD5 := Hd hg; clear hR hg hS hx hV); (have HBr5 := Hd (HD5.out.keep HBr4.out (by omega))); (have HBd5 := Hd (HD5.out.keep HBd4.out (by omega))); (have HBx5 := Hd (HD5.out.keep HBx4.out (by omega))); have u5a := hb_at HBr5.out 0 rfl; have u5b := hb_at HBd5.out 0 rfl; have u5c := hb_lt HBr5.out; have u5d := hb_lt HBd5.out; have u5e := hb_lt HBx5.out; obtain ⟨x50, x51, x52, x53, x54, y50, y51, y52, y53, y54⟩ := box5 HBx5.out)
    | (go_at_call 180; (with_reducible refine (take_st r E 1 _ (by decide) _ Q17).mono ?_); rintro e w5 h5; rcases h5.step (show S = bnd (takeP E 1 ts3) _ from HS4.out) with ⟨v5, a5, ts5, rfl, hV, hR, hg, hS, hx⟩ | ⟨y, rfl, hg, hSE⟩; rotate_left; (have hGE : Rg r w w5 := Q6); rotate_left; (obtain ⟨rfl, hst5⟩ := hV); (have HR5 := Hd hR; have HG5 : RowKit.Hid (Rg r w w5) := Hd Q6; have HS5 := Hd hS; have HX5 := Hd hx; have HD5 := Hd hg; clear hR hg hS hx); (have HBr5 := Hd (HD5.out.keep HBr4.out (by omega))); (have HBd5 := Hd (HD5.out.keep HBd4.out (by omega))); (have HBx5 := Hd (HD5.out.keep HBx4.out (by omega))); have u5a := hb_at HBr5.out 0 rfl; have u5b := hb_at HBd5.out 0 rfl; have u5c := hb_lt HBr5.out; have u5d := hb_lt HBd5.out; have u5e := hb_lt HBx5.out; obtain ⟨x50, x51, x52, x53, x54, y50, y51, y52, y53, y54⟩ := box5 HBx5.out))
   all_goals first | exact ⟨rfl, hGE, rfl⟩ | skip
   go_at_call 173
   with_reducible refine (next_kd r E ts3 _ HR3.out).mono ?_
   rintro e w4 ⟨⟨mz, mn, ma, rfl⟩, hb⟩
   have HG4 : RowKit.Hid (Rg r w w4) := Hd (HG3.out.trans (Rg.of_below hb))
   have HR4 : RowKit.Hid (Rd r E w4 ts3) := Hd (HR3.out.below hb)
   have HD4 := Hd (Rg.of_below (r := r) hb)
   (have HBr4 := Hd (HD4.out.keep HBr3.out (by omega))); (have HBd4 := Hd (HD4.out.keep HBd3.out (by omega))); (have HBx4 := Hd (HD4.out.keep HBx3.out (by omega))); have u4a := hb_at HBr4.out 0 rfl; have u4b := hb_at HBd4.out 0 rfl; have u4c := hb_lt HBr4.out; have u4d := hb_lt HBd4.out; have u4e := hb_lt HBx4.out; obtain ⟨x40, x41, x42, x43, x44, y40, y41, y42, y43, y44⟩ := box5 HBx4.out
   have hS : S = (if kd ts3 = 2 then conP E 24 a3 (exprP E g) ts3 else varP E a3 ts3) := HS3.out
   by_cases hB : kd ts3 = 2
   · rw [if_pos hB] at hS
     have HS4 := Hd hS
     rw [hB]
     have hf4 := fld0 2 mn ma mz
     clear hS hb hB
     go_wp2_with ((go_at_call 189; (with_reducible refine (constructor_t 24 _ hst3 r E (exprP E g) 187 _ _ _ Q17 HM.out HCF.out ((atom1_any r E d g HIH.out _ _ w4 HBr4.out HBd4.out (by omega) (by omega)).at Q25)).mono ?_); rintro e w5 h5; rcases h5.step (HS4.out.trans (bnd_id _).symm) with ⟨v5, a5, ts5, rfl, hV, hR, hg, hS, hx⟩ | ⟨y, rfl, hg, hSE⟩; rotate_left; (have hGE : Rg r w w5 := Q6); rotate_left; (obtain ⟨k5, p5, n5, N5, q5, l5, c5, rfl⟩ := hV.shape; have HV5 := Hd hV); (have HR5 := Hd hR; have HG5 : RowKit.Hid (Rg r w w5) := Hd Q6; have HS5 := Hd hS; have HX5 := Hd hx; have HD5 := Hd hg; clear hR hg hS hx hV); (have HBr5 := Hd (HD5.out.keep HBr4.out (by omega))); (have HBd5 := Hd (HD5.out.keep HBd4.out (by omega))); (have HBx5 := Hd (HD5.out.keep HBx4.out (by omega))); have u5a := hb_at HBr5.out 0 rfl; have u5b := hb_at HBd5.out 0 rfl; have u5c := hb_lt HBr5.out; have u5d := hb_lt HBd5.out; have u5e := hb_lt HBx5.out; obtain ⟨x50, x51, x52, x53, x54, y50, y51, y52, y53, y54⟩ := box5 HBx5.out))
     all_goals first | exact ⟨rfl, hGE, rfl⟩ | exact ⟨rfl, hGE, by rw [hSE]⟩ | skip
     have hz2 := HG4.out.size
     exact fin5 (w0 := w) rfl rfl rfl HBx5.out (by omega) HG5.out hrl HR5.out HS5.out w4.heap.size (by omega) (by omega) HV5.out
   · rw [if_neg hB] at hS
     have HS4 := Hd hS
     have hd4 : (kd ts3 == 2) = false := by simpa using hB
     have hf4 := fld0 (kd ts3) mn ma mz
     clear hS hb hB
     have HS4v : RowKit.Hid (S = bnd (takeP E 1 ts3) fun s ts => .ok (.mk 21 a3 s 0 [], ts)) := HS4
     clear HS4
     have HS4 := HS4v
     go_wp2_with ((go_at_call 180; (with_reducible refine (take_st r E 1 _ (by decide) _ Q17).mono ?_); rintro e w5 h5; rcases h5.step HS4.out with ⟨v5, a5, ts5, rfl, hV, hR, hg, hS, hx⟩ | ⟨y, rfl, hg, hSE⟩; rotate_left; (have hGE : Rg r w w5 := Q6); rotate_left; (obtain ⟨rfl, hst5⟩ := hV); (have HR5 := Hd hR; have HG5 : RowKit.Hid (Rg r w w5) := Hd Q6; have HS5 := Hd hS; have HX5 := Hd hx; have HD5 := Hd hg; clear hR hg hS hx); (have HBr5 := Hd (HD5.out.keep HBr4.out (by omega))); (have HBd5 := Hd (HD5.out.keep HBd4.out (by omega))); (have HBx5 := Hd (HD5.out.keep HBx4.out (by omega))); have u5a := hb_at HBr5.out 0 rfl; have u5b := hb_at HBd5.out 0 rfl; have u5c := hb_lt HBr5.out; have u5d := hb_lt HBd5.out; have u5e := hb_lt HBx5.out; obtain ⟨x50, x51, x52, x53, x54, y50, y51, y52, y53, y54⟩ := box5 HBx5.out))
     all_goals first | exact ⟨rfl, hGE, rfl⟩ | exact ⟨rfl, hGE, by rw [hSE]⟩ | skip
     have hz5 := HD5.out.size
     exact fin5 (w0 := w) rfl rfl rfl HBx5.out (by omega) HG5.out hrl HR5.out HS5.out w5.heap.size (by omega) (by omega) ⟨_, leafX _ _ _ _ _ _ hst3 hst5⟩
 by_cases h1 : nk = 1
 · have h := HS0.out
   rw [if_neg h4, if_neg h5, if_neg h2, if_pos h1] at h
   have HSa := Hd h
   subst h1
   clear HS0 h h4 h5 h2
   have HS1z := HSa
   have HS0 : RowKit.Hid (S = bnd (takeP E 1 ts) fun s ts => .ok (.mk 21 e0 s 0 [], ts)) := HSa
   go_enter Tryz.func136, Tryz.ntmps136
   go_upto_region 1 with (fail)
   obtain ⟨c0, c1, c2, hz3, hb3⟩ := boxes3 w (.cells #[rp r] 107) (.cells #[.int .i64 (d : Nat)] 3) (.cells #[.int .i64 0, .string ⟨#[]⟩, .string ⟨#[]⟩, .int .i64 0, .slice none 0 0] 24)
   generalize hW1 : ((w.alloc (.cells #[rp r] 107)).alloc (.cells #[.int .i64 (d : Nat)] 3)).alloc (.cells #[.int .i64 0, .string ⟨#[]⟩, .string ⟨#[]⟩, .int .i64 0, .slice none 0 0] 24) = W1 at *
   have HBr1 := Hd c0
   have HBd1 := Hd c1
   have HBx1 := Hd c2
   have HR1 : RowKit.Hid (Rd r E W1 ts) := Hd (HR0.out.below hb3)
   have HG1 : RowKit.Hid (Rg r w W1) := Hd (Rg.of_below hb3)
   have HS1 := HS0
   have x0 := hb_at c0 0 rfl
   have x1 := hb_at c1 0 rfl
   have q0 := hb_lt c0
   have q1 := hb_lt c1
   have q2 := hb_lt c2
   clear hW1 c0 c1 c2 hb3
   go_wp2_with (first
    | (go_at_call 173; (with_reducible refine (HN.out _ Q14).mono ?_); rintro e w2 ⟨rfl, hb⟩; have HG2 : RowKit.Hid (Rg r w w2) := Hd Q26; have HR2 : RowKit.Hid (Rd r E w2 ts) := Hd Q34; have HD2 := Hd (Rg.of_below (r := r) hb); have HS2 := HS1; (have HBr2 := Hd (HD2.out.keep HBr1.out (by omega))); (have HBd2 := Hd (HD2.out.keep HBd1.out (by omega))); (have HBx2 := Hd (HD2.out.keep HBx1.out (by omega))); have u2a := hb_at HBr2.out 0 rfl; have u2b := hb_at HBd2.out 0 rfl; have u2c := hb_lt HBr2.out; have u2d := hb_lt HBd2.out; have u2e := hb_lt HBx2.out; obtain ⟨x20, x21, x22, x23, x24, y20, y21, y22, y23, y24⟩ := box5 HBx2.out; clear hb)
    | (go_at_call 180; (with_reducible refine (take_st r E 1 _ (by decide) _ Q15).mono ?_); rintro e w3 h3; rcases h3.step HS2.out with ⟨v3, a3, ts3, rfl, hV, hR, hg, hS, hx⟩ | ⟨y, rfl, hg, hSE⟩; rotate_left; (have hGE : Rg r w w3 := Q4); rotate_left; (obtain ⟨rfl, hst3⟩ := hV); (have HR3 := Hd hR; have HG3 : RowKit.Hid (Rg r w w3) := Hd Q4; have HS3 := Hd hS; have HX3 := Hd hx; have HD3 := Hd hg; clear hR hg hS hx); (have HBr3 := Hd (HD3.out.keep (hb_alloc HBr2.out _) (by omega))); (have HBd3 := Hd (HD3.out.keep (hb_alloc HBd2.out _) (by omega))); (have HBx3 := Hd (HD3.out.keep (hb_alloc HBx2.out _) (by omega))); have u3a := hb_at HBr3.out 0 rfl; have u3b := hb_at HBd3.out 0 rfl; have u3c := hb_lt HBr3.out; have u3d := hb_lt HBd3.out; have u3e := hb_lt HBx3.out; obtain ⟨x30, x31, x32, x33, x34, y30, y31, y32, y33, y34⟩ := box5 HBx3.out))
   all_goals first | exact ⟨rfl, hGE, rfl⟩ | exact ⟨rfl, hGE, by rw [hSE]⟩ | skip
   have hz2 := HD2.out.size
   have hz3 := HD3.out.size
   rw [World.size_alloc] at hz3
   exact fin5 (w0 := w) rfl rfl rfl HBx3.out (by omega) HG3.out hrl HR3.out HS3.out w3.heap.size (by omega) (by omega) ⟨_, leafX _ _ _ _ _ _ (by decide) hst3⟩
 have h := HS0.out
 rw [if_neg h4, if_neg h5, if_neg h2, if_neg h1] at h
 have HSa := Hd h
 have d4 : (nk == 4) = false := by simpa using h4
 have d5 : (nk == 5) = false := by simpa using h5
 have d2 : (nk == 2) = false := by simpa using h2
 have d1 : (nk == 1) = false := by simpa using h1
 clear HS0 h h1 h4 h5 h2
 have HS0 := HSa
 go_enter Tryz.func136, Tryz.ntmps136
 go_upto_region 1 with (fail)
 obtain ⟨c0, c1, c2, hz3, hb3⟩ := boxes3 w (.cells #[rp r] 107) (.cells #[.int .i64 (d : Nat)] 3) (.cells #[.int .i64 0, .string ⟨#[]⟩, .string ⟨#[]⟩, .int .i64 0, .slice none 0 0] 24)
 generalize hW1 : ((w.alloc (.cells #[rp r] 107)).alloc (.cells #[.int .i64 (d : Nat)] 3)).alloc (.cells #[.int .i64 0, .string ⟨#[]⟩, .string ⟨#[]⟩, .int .i64 0, .slice none 0 0] 24) = W1 at *
 have HBr1 := Hd c0
 have HBd1 := Hd c1
 have HBx1 := Hd c2
 have HR1 : RowKit.Hid (Rd r E W1 ts) := Hd (HR0.out.below hb3)
 have HG1 : RowKit.Hid (Rg r w W1) := Hd (Rg.of_below hb3)
 have HS1 := HS0
 have x0 := hb_at c0 0 rfl
 have x1 := hb_at c1 0 rfl
 have q0 := hb_lt c0
 have q1 := hb_lt c1
 have q2 := hb_lt c2
 clear hW1 c0 c1 c2 hb3
 go_upto_region 17 with (first
   | (go_at_call 173; (with_reducible refine (HN.out _ Q14).mono ?_); rintro e w2 ⟨rfl, hb⟩; have HG2 : RowKit.Hid (Rg r w w2) := Hd Q26; have HR2 : RowKit.Hid (Rd r E w2 ts) := Hd Q34; have HD2 := Hd (Rg.of_below (r := r) hb); have HS2 := HS1; (have HBr2 := Hd (HD2.out.keep HBr1.out (by omega))); (have HBd2 := Hd (HD2.out.keep HBd1.out (by omega))); (have HBx2 := Hd (HD2.out.keep HBx1.out (by omega))); have u2a := hb_at HBr2.out 0 rfl; have u2b := hb_at HBd2.out 0 rfl; have u2c := hb_lt HBr2.out; have u2d := hb_lt HBd2.out; have u2e := hb_lt HBx2.out; obtain ⟨x20, x21, x22, x23, x24, y20, y21, y22, y23, y24⟩ := box5 HBx2.out; clear hb)
   | (go_at_call 190; (with_reducible refine (opened_t r E (exprP E g) 187 _ _ _ Q15 HM.out HCF.out ((atom1_any r E d g HIH.out _ _ w2 HBr2.out HBd2.out (by omega) (by omega)).at Q25)).mono ?_); rintro e w3 h3; rcases h3.step HS2.out with ⟨v3, a3, ts3, rfl, hV, hR, hg, hS, hx⟩ | ⟨y, rfl, hg, hSE⟩; rotate_left; (have hGE : Rg r w w3 := Q4); rotate_left; (obtain ⟨q3, c3, hv⟩ := hV.1.shape; subst hv; have HV3 := Hd hV; have HL3 := Hd hV.2); (have HR3 := Hd hR; have HG3 : RowKit.Hid (Rg r w w3) := Hd Q4; have HS3 := Hd hS; have HX3 := Hd hx; have HD3 := Hd hg; clear hR hg hS hx hV); (have HBr3 := Hd (HD3.out.keep (hb_alloc HBr2.out _) (by omega))); (have HBd3 := Hd (HD3.out.keep (hb_alloc HBd2.out _) (by omega))); (have HBx3 := Hd (HD3.out.keep (hb_alloc HBx2.out _) (by omega))); have u3a := hb_at HBr3.out 0 rfl; have u3b := hb_at HBd3.out 0 rfl; have u3c := hb_lt HBr3.out; have u3d := hb_lt HBd3.out; have u3e := hb_lt HBx3.out; obtain ⟨x30, x31, x32, x33, x34, y30, y31, y32, y33, y34⟩ := box5 HBx3.out; have HV3b : RowKit.Hid (LsV w2 w3 (.slice q3 a3.length c3) a3) := Hd (HV3.out.up (by rw [World.size_alloc]; exact Nat.le_succ _)); have hz3 : w2.heap.size < w3.heap.size := (by have h := HD3.out.size; rw [World.size_alloc] at h; omega)))
 all_goals first | exact ⟨rfl, hGE, rfl⟩ | exact ⟨rfl, hGE, by rw [hSE]⟩ | skip
 have hz2 := HG2.out.size
 have hS : S = (if a3.length = 1 ∧ isB 8 sColon ts3 = true then bnd (annP E (typP E g) ts3) (fun a ts => shutP E 25 [.mk 30 e0 e0 0 (a3 ++ a)] ts) else shutP E 25 a3 ts3) := HS3.out
 clear HS3 HSa HS0 HS1 HS2
 have HI0 := Hd (fun W hW => is_any r E 8 sColon ts3 W hW)
 by_cases hl1 : a3.length = 1
 · have dl : ((a3.length : Int) == 1) = true := by rw [hl1]; rfl
   cases hB : isB 8 sColon ts3 with
   | false =>
    rw [if_neg (by rw [hB]; simp)] at hS
    have HS4 : RowKit.Hid (S = shutP E 25 a3 ts3) := Hd hS
    have HI : RowKit.Hid (∀ W, Rd r E W ts3 → Calls Tryz.prog 191 #[rp r, .int .i64 8, .string sColon] W fun e w' => e = .returned (.bool false) ∧ Below W.heap.size W w') := by rw [hB] at HI0; exact HI0
    clear hS hl1 hB HI0
    go_wp2_with (first
     | (go_at_call 191; (with_reducible refine (HI.out _ Q18).mono ?_); rintro e w4 ⟨rfl, hb⟩; have HD4 := Hd (Rg.of_below (r := r) hb); have HG4 : RowKit.Hid (Rg r w w4) := Hd Q29; have HR4 : RowKit.Hid (Rd r E w4 ts3) := Hd (HR3.out.below hb); have HV4 : RowKit.Hid (LsV w2 w4 (.slice q3 a3.length c3) a3) := Hd (HV3b.out.move (by omega) (Rg.of_below hb)); (have HBr4 := Hd (HD4.out.keep HBr3.out (by omega))); (have HBd4 := Hd (HD4.out.keep HBd3.out (by omega))); (have HBx4 := Hd (HD4.out.keep HBx3.out (by omega))); have u4a := hb_at HBr4.out 0 rfl; have u4b := hb_at HBd4.out 0 rfl; have u4c := hb_lt HBr4.out; have u4d := hb_lt HBd4.out; have u4e := hb_lt HBx4.out; obtain ⟨x40, x41, x42, x43, x44, y40, y41, y42, y43, y44⟩ := box5 HBx4.out; have hz4 : w3.heap.size ≤ w4.heap.size := hb.size; clear hb)
     | (go_at_call 192; (with_reducible refine (closed_t r E 25 _ _ w2 _ (by omega) (by omega) HV4.out _ Q17).mono ?_); rintro e w5 h5; rcases h5.step (HS4.out.trans (bnd_id _).symm) with ⟨v5, a5, ts5, rfl, hV, hR, hg, hS, hx⟩ | ⟨y, rfl, hg, hSE⟩; rotate_left; (have hGE : Rg r w w5 := Q6); rotate_left; (obtain ⟨k5, p5, n5, N5, q5, l5, c5, rfl⟩ := hV.shape; have HV5 := Hd hV); (have HR5 := Hd hR; have HG5 : RowKit.Hid (Rg r w w5) := Hd Q6; have HS5 := Hd hS; have HX5 := Hd hx; have HD5 := Hd hg; clear hR hg hS hx hV); (have HBr5 := Hd (HD5.out.keep HBr4.out (by omega))); (have HBd5 := Hd (HD5.out.keep HBd4.out (by omega))); (have HBx5 := Hd (HD5.out.keep HBx4.out (by omega))); have u5a := hb_at HBr5.out 0 rfl; have u5b := hb_at HBd5.out 0 rfl; have u5c := hb_lt HBr5.out; have u5d := hb_lt HBd5.out; have u5e := hb_lt HBx5.out; obtain ⟨x50, x51, x52, x53, x54, y50, y51, y52, y53, y54⟩ := box5 HBx5.out))
    all_goals first | exact ⟨rfl, hGE, rfl⟩ | exact ⟨rfl, hGE, by rw [hSE]⟩ | skip
    have hzz := HG5.out.size
    exact fin5 (w0 := w) rfl rfl rfl HBx5.out (by omega) HG5.out hrl HR5.out HS5.out w2.heap.size (by omega) (by omega) HV5.out
   | true =>
    rw [if_pos ⟨hl1, hB⟩] at hS
    have HS4 := Hd hS
    have HI : RowKit.Hid (∀ W, Rd r E W ts3 → Calls Tryz.prog 191 #[rp r, .int .i64 8, .string sColon] W fun e w' => e = .returned (.bool true) ∧ Below W.heap.size W w') := by rw [hB] at HI0; exact HI0
    have HBB := Hd hB
    have HL1 := Hd hl1
    clear hS hl1 hB HI0
    go_wp2_with (first
     | (go_at_call 191; (with_reducible refine (HI.out _ Q18).mono ?_); rintro e w4 ⟨rfl, hb⟩; have HD4 := Hd (Rg.of_below (r := r) hb); have HG4 : RowKit.Hid (Rg r w w4) := Hd Q29; have HR4 : RowKit.Hid (Rd r E w4 ts3) := Hd (HR3.out.below hb); have HV4 : RowKit.Hid (LsV w2 w4 (.slice q3 a3.length c3) a3) := Hd (HV3b.out.move (by omega) (Rg.of_below hb)); (have HBr4 := Hd (HD4.out.keep HBr3.out (by omega))); (have HBd4 := Hd (HD4.out.keep HBd3.out (by omega))); (have HBx4 := Hd (HD4.out.keep HBx3.out (by omega))); have u4a := hb_at HBr4.out 0 rfl; have u4b := hb_at HBd4.out 0 rfl; have u4c := hb_lt HBr4.out; have u4d := hb_lt HBd4.out; have u4e := hb_lt HBx4.out; obtain ⟨x40, x41, x42, x43, x44, y40, y41, y42, y43, y44⟩ := box5 HBx4.out; have hz4 : w3.heap.size ≤ w4.heap.size := hb.size; clear hb)
     | (go_at_call 181; (with_reducible refine (annotation_any r E g d hd _ _ Q17).mono ?_); rintro e w5 h5; rcases h5.step HS4.out with ⟨v5, a5, ts5, rfl, hV, hR, hg, hS, hx⟩ | ⟨y, rfl, hg, hSE⟩; rotate_left; (have hGE : Rg r w w5 := Q6); rotate_left; (obtain ⟨q5, c5, hv⟩ := hV.1.shape; subst hv; have HV5 := Hd hV; have HL5 := Hd hV.2); (have HR5 := Hd hR; have HG5 : RowKit.Hid (Rg r w w5) := Hd Q6; have HS5 := Hd hS; have HX5 := Hd hx; have HD5 := Hd hg; clear hR hg hS hx hV); (have HBr5 := Hd (HD5.out.keep HBr4.out (by omega))); (have HBd5 := Hd (HD5.out.keep HBd4.out (by omega))); (have HBx5 := Hd (HD5.out.keep HBx4.out (by omega))); have u5a := hb_at HBr5.out 0 rfl; have u5b := hb_at HBd5.out 0 rfl; have u5c := hb_lt HBr5.out; have u5d := hb_lt HBd5.out; have u5e := hb_lt HBx5.out; obtain ⟨x50, x51, x52, x53, x54, y50, y51, y52, y53, y54⟩ := box5 HBx5.out)
     | (at_builtin; refine (fun h : True → _ => h trivial) ?_))
    all_goals first | exact ⟨rfl, hGE, rfl⟩ | exact ⟨rfl, hGE, by rw [hSE]⟩ | skip
    intro _
    obtain ⟨x, rfl⟩ : ∃ x, a5 = [x] := annP_one HBB.out HX5.out
    obtain ⟨b5, o5, c5', k5, p5, n5, N5, s5, D5, he, hb5, hbl5, ht5, hX5⟩ := HV5.out.one
    have hq5 : q5 = some ⟨b5, o5, none⟩ := by cases he; rfl
    subst hq5
    have hl3 := HV4.out.2
    have hz5 := HD5.out.size
    have hX5s := hX5.shape
    obtain ⟨v', w6, hrun, hrow, hgr, hblk⟩ := RowG.append (K := termK) (ms := [x]) (wq := w5) HV4.out.1 (by omega) hz5 (fun b h1 h2 => HD5.out.same h2 (by omega)) (g := b5) (o := o5) (cc := c5)
     (fun i y hy => by
      match i, hy with
      | 0, hy =>
       obtain rfl : x = y := by simpa using hy
       refine ⟨[.int .i64 k5, .string p5, .string n5, .int .i64 N5, s5], fun j u hu => ?_, _, _, _, _, _, D5, rfl, hX5⟩
       have e : o5 + 0 * termK.size + j = o5 + j := by omega
       rw [e]
       obtain ⟨t0, t1, t2, t3, t4⟩ := ht5
       match j, hu with
       | 0, hu => cases hu; exact t0
       | 1, hu => cases hu; exact t1
       | 2, hu => cases hu; exact t2
       | 3, hu => cases hu; exact t3
       | 4, hu => cases hu; exact t4
       | j + 5, hu => simp at hu
      | i + 1, hy => simp at hy) (by omega) (by simp)
    refine wpList_append_at rfl _ _ rfl rfl rfl rfl hrun ?_
    obtain ⟨vq, vc, hv⟩ := hrow.shape
    subst hv
    have HR6 : RowKit.Hid (Rd r E w6 ts5) := Hd (HR5.out.grown hgr (fun k hk => by have := hblk k hk; omega))
    have HG6 : RowKit.Hid (Rg r w w6) := Hd (HG5.out.grown hgr (fun k hk => by have := hblk k hk; omega))
    have HBr6 := Hd (hb_grown HBr5.out hgr (fun e => by have := hblk _ e.symm; omega))
    have HBd6 := Hd (hb_grown HBd5.out hgr (fun e => by have := hblk _ e.symm; omega))
    have HBx6 := Hd (hb_grown HBx5.out hgr (fun e => by have := hblk _ e.symm; omega))
    have hz6 := hgr.size
    have HV6 : RowKit.Hid (TmV w2 w6 (tv 30 ⟨#[]⟩ ⟨#[]⟩ 0 (.slice vq (a3.length + 1) vc)) (.mk 30 e0 e0 0 (a3 ++ [x]))) := Hd (by have h := kids_of (k := 30) (N := 0) (p := ⟨#[]⟩) (n := ⟨#[]⟩) (hrow.all fun _ _ _ => rfl) Q69 (by decide) (by decide); rw [List.length_append] at h; exact h)
    have HS6 : RowKit.Hid (S = shutP E 25 [.mk 30 e0 e0 0 (a3 ++ [x])] ts5) := HS5
    have hlen : (a3 ++ [x]).length = a3.length + 1 := by simp
    have hr0 := HBr6.out
    have c60 := hb_at HBr6.out 0 rfl
    have c61 := hb_lt HBr6.out
    have c62 := hb_lt HBd6.out
    have c63 := hb_lt HBx6.out
    clear hgr hrun hblk hrow he ht5 hX5 hX5s hr0
    have HLN := Hd hlen
    clear hlen
    go_wp2_with ((go_at_call 192; (with_reducible refine (closed_t r E 25 [.mk 30 e0 e0 0 (a3 ++ [x])] _ w2 _ (by omega) Q57 (LsV.single HV6.out (by omega)) _ Q20).mono ?_); rintro e w7 h7; rcases h7.step (HS6.out.trans (bnd_id _).symm) with ⟨v7, a7, ts7, rfl, hV, hR, hg, hS, hx⟩ | ⟨y, rfl, hg, hSE⟩; rotate_left; (have hGE : Rg r w w7 := Q10); rotate_left; (obtain ⟨k7, p7, n7, N7, q7, l7, c7, rfl⟩ := hV.shape; have HV7 := Hd hV); (have HR7 := Hd hR; have HG7 : RowKit.Hid (Rg r w w7) := Hd Q10; have HS7 := Hd hS; have HX7 := Hd hx; have HD7 := Hd hg; clear hR hg hS hx hV); (have HBr7 := Hd (HD7.out.keep (hb_alloc HBr6.out _) (by omega))); (have HBd7 := Hd (HD7.out.keep (hb_alloc HBd6.out _) (by omega))); (have HBx7 := Hd (HD7.out.keep (hb_alloc HBx6.out _) (by omega))); have u7a := hb_at HBr7.out 0 rfl; have u7b := hb_at HBd7.out 0 rfl; have u7c := hb_lt HBr7.out; have u7d := hb_lt HBd7.out; have u7e := hb_lt HBx7.out; obtain ⟨x70, x71, x72, x73, x74, y70, y71, y72, y73, y74⟩ := box5 HBx7.out))
    all_goals first | exact ⟨rfl, hGE, rfl⟩ | exact ⟨rfl, hGE, by rw [hSE]⟩ | skip
    have hzz := HG7.out.size
    exact fin5 (w0 := w) rfl rfl rfl HBx7.out (by omega) HG7.out hrl HR7.out HS7.out w2.heap.size (by omega) (by omega) HV7.out
 · have dl : ((a3.length : Int) == 1) = false := by rw [beq_eq_false_iff_ne]; omega
   rw [if_neg (fun h => hl1 h.1)] at hS
   have HS3 : RowKit.Hid (S = shutP E 25 a3 ts3) := Hd hS
   clear hS hl1 HI0
   go_wp2_with (first
    | (go_at_call 192; (with_reducible refine (closed_t r E 25 _ _ w2 _ (by omega) (by omega) HV3b.out _ Q18).mono ?_); rintro e w4 h4; rcases h4.step (HS3.out.trans (bnd_id _).symm) with ⟨v4, a4, ts4, rfl, hV, hR, hg, hS, hx⟩ | ⟨y, rfl, hg, hSE⟩; rotate_left; (have hGE : Rg r w w4 := Q8); rotate_left; (obtain ⟨k4, p4, n4, N4, q4, l4, c4, rfl⟩ := hV.shape; have HV4 := Hd hV); (have HR4 := Hd hR; have HG4 : RowKit.Hid (Rg r w w4) := Hd Q8; have HS4 := Hd hS; have HX4 := Hd hx; have HD4 := Hd hg; clear hR hg hS hx hV); (have HBr4 := Hd (HD4.out.keep HBr3.out (by omega))); (have HBd4 := Hd (HD4.out.keep HBd3.out (by omega))); (have HBx4 := Hd (HD4.out.keep HBx3.out (by omega))); have u4a := hb_at HBr4.out 0 rfl; have u4b := hb_at HBd4.out 0 rfl; have u4c := hb_lt HBr4.out; have u4d := hb_lt HBd4.out; have u4e := hb_lt HBx4.out; obtain ⟨x40, x41, x42, x43, x44, y40, y41, y42, y43, y44⟩ := box5 HBx4.out))
   all_goals first | exact ⟨rfl, hGE, rfl⟩ | exact ⟨rfl, hGE, by rw [hSE]⟩ | skip
   have hzz := HG4.out.size
   exact fin5 (w0 := w) rfl rfl rfl HBx4.out (by omega) HG4.out hrl HR4.out HS4.out w2.heap.size (by omega) (by omega) HV4.out
theorem SlG.uno {X : Nat → Prop} {w : World} {b c : Nat} {k1 N1 : Int} {p1 n1 : ByteArray} {s1 : Value} {t1 : Tm} {T : TypeId} {f : Nat × Nat} (hX : X b)
 (hb : w.heap[b]? = some (.cells #[.int .i64 k1, .string p1, .string n1, .int .i64 N1, s1] T f))
 (h1 : ∃ d, IsX X w d (tv k1 p1 n1 N1 s1) t1) : SlG termK X w (.slice (some ⟨b, 0, none⟩) 1 c) [t1] := by
 obtain ⟨d1, h1⟩ := h1
 refine ⟨_, _, rfl, fun i a ha => ?_⟩
 match i, ha with
 | 0, ha =>
  obtain rfl : t1 = a := by simpa using ha
  refine ⟨b, 0, _, rfl, hX, fun j u hu => ?_, _, _, _, _, _, d1, rfl, h1⟩
  have e : 0 + 0 * termK.size + j = j := by omega
  rw [e, hb_cell hb, ← hu]
  exact (Array.getElem?_toList ..).symm
 | i + 1, ha => simp at ha
theorem expr1_any (r E d g : Nat) (hd : d ≤ 40) (IH : ∀ ts W, Rd r E W ts → Calls Tryz.prog 136 #[rp r, .int .i64 ((d + 1 : Nat) : Int)] W (Got r E TmV W (atomP E (exprP E g) (typP E g) ts))) (br bd : Nat) (w0 : World)
 (hbr : w0.heap[br]? = some (.cells #[rp r] 107 (0, 0))) (hbd : w0.heap[bd]? = some (.cells #[.int .i64 (d : Nat)] 3 (0, 0))) (h1 : br ≠ r) (h2 : bd ≠ r) : OneT r E (atomP E (exprP E g) (typP E g)) 135 #[bp br, bp bd] w0 := by
 intro w ts hg hR
 have kr := hg.keep hbr h1
 have kd := hg.keep hbd h2
 have x0 := hb_at kr 0 rfl
 have x1 := hb_at kd 0 rfl
 have z0 := hb_lt kr
 have z1 := hb_lt kd
 have hrl := hR.lt
 have HR0 := Hd hR
 have HG0 : RowKit.Hid (Rg r w w) := Hd (Rg.refl r w)
 obtain ⟨S, hS⟩ : ∃ S, S = atomP E (exprP E g) (typP E g) ts := ⟨_, rfl⟩
 have HS0 := Hd hS
 rw [← hS]
 have HI := Hd IH
 clear hR hS hg hbr hbd kr kd IH
 have hc : ((d + 1 : Nat) : Int) = (d : Int) + 1 := by omega
 rw [hc] at HI
 go_enter Tryz.func135, Tryz.ntmps135
 go_wp2_with (go_at_call 136; (with_reducible refine (HI.out _ _ Q16).mono ?_); rintro e w1 h1; rcases h1.step (HS0.out.trans (bnd_id _).symm) with ⟨v1, a1, ts1, rfl, hV, hR, hg, hS, hx⟩ | ⟨y, rfl, hg, hSE⟩; rotate_left; (have hGE : Rg r w w1 := Q7); rotate_left; (obtain ⟨k1, p1, n1, N1, q1, l1, c1, rfl⟩ := hV.shape; have HV1 := Hd hV); (have HR1 := Hd hR; have HG1 : RowKit.Hid (Rg r w w1) := Hd Q7; have HS1 := Hd hS; have HX1 := Hd hx; have HD1 := Hd hg; clear hR hg hS hx hV); (have HBr1 := Hd (HD1.out.keep (hb_new _ _) (by omega)); obtain ⟨x0, x1, x2, x3, x4, y0, y1, y2, y3, y4⟩ := box5 HBr1.out))
 all_goals first | exact ⟨rfl, hGE, rfl⟩ | exact ⟨rfl, hGE, by rw [hSE]⟩ | skip
 exact fin5 (w0 := w) rfl rfl rfl HBr1.out (Nat.le_refl _) HG1.out hrl HR1.out HS1.out (w.heap.size + 1) (by omega) (by omega) Q31
theorem fun_any (r E g d : Nat) (IH : ExprC r E g d) (ts : Ts) (w : World) (hR : Rd r E w ts) : Calls Tryz.prog 131 #[rp r, .int .i64 (d : Nat)] w (Got r E TmV w (funP E (exprP E g) ts)) := by
 have HI : RowKit.Hid (∀ ts W, Rd r E W ts → Calls Tryz.prog 72 #[rp r, .int .i64 (d : Nat)] W (Got r E TmV W (exprP E g ts))) := Hd IH
 clear IH
 have HR0 := Hd hR
 have hrl := hR.lt
 have HG0 : RowKit.Hid (Rg r w w) := Hd (Rg.refl r w)
 obtain ⟨S, hS⟩ : ∃ S, S = funP E (exprP E g) ts := ⟨_, rfl⟩
 have HS0 := Hd hS
 rw [← hS]
 unfold funP at HS0
 clear hR hS
 go_enter Tryz.func131, Tryz.ntmps131
 go_wp2_with (first
  | (go_at_call 180; (with_reducible refine (take_st r E 1 _ (by decide) _ Q16).mono ?_); rintro e w1 h1; rcases h1.step HS0.out with ⟨v1, a1, ts1, rfl, hV, hR, hg, hS, hx⟩ | ⟨y, rfl, hg, hSE⟩; rotate_left; (have hGE : Rg r w w1 := Q7); rotate_left; (obtain ⟨rfl, hst1⟩ := hV); (have HR1 := Hd hR; have HG1 : RowKit.Hid (Rg r w w1) := Hd Q7; have HS1 := Hd hS; have HX1 := Hd hx; have HD1 := Hd hg; clear hR hg hS hx); (have HBx1 := Hd (HD1.out.keep (hb_new _ _) (by omega))); (have hz1 := HD1.out.size; rw [World.size_alloc] at hz1))
  | (go_at_call 125; (with_reducible refine (sign_any r E sArrow _ _ Q14).mono ?_); rintro e w2 h2; rcases h2.step HS1.out with ⟨v2, a2, ts2, rfl, hV, hR, hg, hS, hx⟩ | ⟨y, rfl, hg, hSE⟩; rotate_left; (have hGE : Rg r w w2 := Q5); rotate_left; (obtain rfl := hV); (have HR2 := Hd hR; have HG2 : RowKit.Hid (Rg r w w2) := Hd Q5; have HS2 := Hd hS; have HX2 := Hd hx; have HD2 := Hd hg; clear hR hg hS hx); (have HBx2 := Hd (HD2.out.keep HBx1.out (by omega))); have hz2 := HD2.out.size)
  | (go_at_call 72; (with_reducible refine (HI.out _ _ Q15).mono ?_); rintro e w3 h3; rcases h3.step HS2.out with ⟨v3, a3, ts3, rfl, hV, hR, hg, hS, hx⟩ | ⟨y, rfl, hg, hSE⟩; rotate_left; (have hGE : Rg r w w3 := Q4); rotate_left; (obtain ⟨k3, p3, n3, N3, q3, l3, c3, rfl⟩ := hV.shape; have HV3 := Hd hV); (have HR3 := Hd hR; have HG3 : RowKit.Hid (Rg r w w3) := Hd Q4; have HS3 := Hd hS; have HX3 := Hd hx; have HD3 := Hd hg; clear hR hg hS hx hV); (have HBx3 := Hd (HD3.out.keep HBx2.out (by omega)); obtain ⟨x0, x1, x2, x3, x4, y0, y1, y2, y3, y4⟩ := box5 HBx3.out); have hz3 := HD3.out.size; have zx := hb_lt HBx3.out))
 all_goals first | exact ⟨rfl, hGE, rfl⟩ | exact ⟨rfl, hGE, by rw [hSE]⟩ | skip
 refine fin_t (w0 := w) (Wf := (set5w w3 w.heap.size 26 ⟨#[]⟩ a1 0 (.slice (some ⟨w3.heap.size, 0, none⟩) 1 1)).alloc (.cells #[.int .i64 k3, .string p3, .string n3, .int .i64 N3, .slice q3 l3 c3] 24)) rfl rfl rfl (hb_alloc (set5w_box HBx3.out _ _ _ _ _) _) ((HG3.out.set5w (Nat.le_refl _) _ _ _ _ _).alloc _) ((HR3.out.set5w hrl _ _ _ _ _).alloc _) HS3.out ?_
 refine kids_of (SlG.uno (show w.heap.size ≤ w3.heap.size by omega) (set5a_new _ _ _ _ _ _ _ _) ?_) (by simp) (by decide) hst1
 obtain ⟨D, h⟩ := HV3.out
 exact ⟨D, h.move fun b hb hl => by
  unfold New at hb
  exact ⟨by omega, set5a_other (by omega) hl⟩⟩
def listK : Mem (List Tm) where
 t := 193
 e := 22
 size := 1
 bytes := 24
 V X w cs l := ∃ s, cs = [s] ∧ SlG termK X w s l ∧ l.length = 2
 und := Tryz.underlying193
 inf := ⟨.slice none 0 0, by kernel_rfl, rfl⟩
 pos := by decide
 few := by decide
 len := by rintro X w cs a ⟨s, rfl, _⟩; rfl
 one := by
  rintro X w cs a ⟨s, rfl, ⟨q, c, rfl, _⟩, _⟩ u hu
  obtain rfl := List.mem_singleton.1 hu
  rfl
 move := by
  rintro X Y w w' cs a hXY ⟨s, e, h, h2⟩
  exact ⟨s, e, h.move hXY, h2⟩
def AsV (w w' : World) (v : Value) (l : List Tm) : Prop := SlG termK (New w) w' v l ∧ l.length = 2
theorem AsV.shape {w w' : World} {v : Value} {l : List Tm} (h : AsV w w' v l) : ∃ q c, v = .slice q l.length c := let ⟨⟨q, c, h, _⟩, _⟩ := h; ⟨q, c, h⟩
def LlV (w w' : World) (v : Value) (l : List (List Tm)) : Prop := RowG listK w.heap.size w' v l ∧ l.length ≤ 7000
def OneL (r E : Nat) (one : Ts → Res (List Tm)) (n : Nat) (cap : Array Value) (w : World) : Prop := ∀ W ts, Rg r w W → Rd r E W ts → Calls Tryz.prog n cap W (Got r E AsV W (one ts))
theorem several_l (r E : Nat) (bt : ByteArray) (one : Ts → Res (List Tm)) (n : Nat) (cap : Array Value) (w : World) (ts : Ts) (hR : Rd r E w ts) (hm : Mono one)
 (hcf : ∀ W, (callFunc n cap).run Tryz.prog W = .ok (.enter n cap) W) (HC : OneL r E one n cap w) :
 Calls Tryz.prog 183 #[rp r, .string bt, .func (.func n) #[] cap] w (Got r E LlV w (sevP E bt one ts)) := by
 have HC : RowKit.Hid (∀ W ts, Rg r w W → Rd r E W ts → Calls Tryz.prog n cap W (Got r E AsV W (one ts))) := Hd HC
 have HR := Hd hR
 have hrl := hR.lt
 have hfew := hR.few
 have HM := Hd hm
 obtain ⟨S, hS⟩ : ∃ S, S = sevP E bt one ts := ⟨_, rfl⟩
 have HS := Hd hS
 rw [← hS]
 unfold sevP at HS
 clear hR hS hm
 go_enter Tryz.func183, Tryz.ntmps183
 go_wp2_with (first | ((with_reducible refine (HC.out _ _ (Rg.refl _ _) HR.out).mono ?_); rintro e w1 h1; rcases h1.step HS.out with ⟨v, a, ts1, rfl, hV, hR1, hg1, hS1, hx1⟩ | ⟨y, rfl, hGE, hS1⟩; (obtain ⟨tq, tc, rfl⟩ := hV.shape; have HV := Hd hV; have HR1 := Hd hR1; have HG1 := Hd hg1; have HS1 := Hd hS1; have HX1 := Hd hx1; clear hV hR1 hg1 hS1 hx1)))
 all_goals first | exact ⟨rfl, hGE, rfl⟩ | exact ⟨rfl, hGE, by rw [hS1]⟩ | skip
 go_loopw [7] (fun v wr => ∃ (ts' : Ts) (acc : List (List Tm)), S = sevL E bt one ts' acc ∧ acc.length + ts'.length ≤ 6001 ∧ Rg r w wr ∧ Rd r E wr ts' ∧ RowG listK w.heap.size wr v acc) (fun _ wr => left r wr)
 case atStart =>
  have hlen : ts1.length ≤ ts.length := HM.out _ _ _ HX1.out
  exact ⟨ts1, [a], HS1.out, by simp; omega, HG1.out.alloc _, HR1.out.alloc _, RowG.one (K := listK) (cs := [.slice tq a.length tc]) ⟨_, rfl, HV.out.1, HV.out.2⟩ HG1.out.size _ rfl⟩
 case round =>
  obtain ⟨ts', acc, hT, hbd, hg, hRd, hrow⟩ := hrel
  rw [sevL_step HM.out] at hT
  have hz := hg.size
  obtain ⟨aq, ac, rfl⟩ := hrow.shape
  have HT := Hd hT
  have HGr := Hd hg
  have HRr := Hd hRd
  have HROW := Hd hrow
  have HK := Hd (fun W hW => skipSign_any r E bt ts' W hW)
  clear hT hg hRd hrow
  cases hB : isB 8 bt ts' with
  | false =>
   have HT2 := HT.out
   rw [hB, if_neg (by decide)] at HT2
   rw [hB] at HK
   subst HT2
   go_wp2_with (go_at_call 139; (with_reducible refine (HK.out _ HRr.out).mono ?_); rintro e w2 ⟨rfl, hg, hr⟩; have HG2 := Hd (HGr.out.trans hg); have HGs := Hd hg; have HR2 := Hd hr; clear hg hr)
   refine bodyPost_ret (v := .slice aq acc.length ac) (by simp [results, Tryz.results183, go_sem]) rfl ⟨HG2.out, ⟨_, rfl, HROW.out.move fun b hb hl => HGs.out.same hl (by omega), by show acc.length ≤ 7000; omega⟩, HR2.out⟩
  | true =>
   have HT2 := HT.out
   rw [hB, if_pos rfl] at HT2
   rw [hB] at HK
   have HT3 := Hd HT2
   have hpos := isB_pos (by decide) hB
   have hleft := HRr.out.left
   clear HT HT2 hB
   go_wp2_with (first
    | (go_at_call 139; (with_reducible refine (HK.out _ HRr.out).mono ?_); rintro e w2 ⟨rfl, hg, hr⟩; have HG2 := Hd (HGr.out.trans hg); have HGs := Hd hg; have HR2 : RowKit.Hid (Rd r E w2 ts'.tail) := Hd hr; clear hg hr)
    | ((with_reducible refine (HC.out _ _ HG2.out HR2.out).mono ?_); rintro e w3 h3; rcases h3.step HT3.out with ⟨v, a3, ts3, rfl, hV, hR3, hg3, hS3, hx3⟩ | ⟨y, rfl, hGE, hS3⟩; (obtain ⟨tq, tc, rfl⟩ := hV.shape; have HV3 := Hd hV; have HR3 := Hd hR3; have HG3 := Hd (HG2.out.trans hg3); have HGt := Hd (HGs.out.trans hg3); have HS3 := Hd hS3; have HX3 := Hd hx3; clear hV hR3 hg3 hS3 hx3))
    | (at_builtin; refine (fun h : True → _ => h trivial) ?_))
   all_goals first | exact ⟨rfl, HG2.out.trans hGE, rfl⟩ | exact ⟨rfl, HG2.out.trans hGE, by rw [hS3]⟩ | skip
   intro _
   have hs3 := HGt.out.size
   obtain ⟨v', w', hrun, hrow', hgr, hblk⟩ := RowG.append (K := listK) (ms := [a3]) (wq := w3.alloc (.cells #[.slice tq a3.length tc] 22)) HROW.out hz Q69
    (fun b h1 h2 => by rw [Below.heap_alloc _ _ _ (by omega)]; exact HGt.out.same h2 (by omega)) (g := w3.heap.size) (o := 0) (cc := 1)
    (fun i x hx => by
     match i, hx with
     | 0, hx =>
      obtain rfl : a3 = x := by simpa using hx
      refine ⟨[.slice tq a3.length tc], fun j u hu => ?_, _, rfl, HV3.out.1.move fun b hb hl => ⟨by have := HGs.out.size; unfold New at hb; omega, Below.heap_alloc _ _ _ hl⟩, HV3.out.2⟩
      have e : 0 + 0 * listK.size + j = j := by omega
      rw [e, hb_cell (hb_new _ _)]
      simpa using hu
     | i + 1, hx => simp at hx) (by omega) (by simp)
   refine wpList_append_at rfl _ _ rfl rfl rfl rfl hrun ?_
   have hlen : ts3.length ≤ ts'.tail.length := HM.out _ _ _ HX3.out
   have HRW := Hd hrow'
   have hg4 : Rg r w w' := (HG3.out.alloc _).grown hgr hblk
   have hr4 : Rd r E w' ts3 := (HR3.out.alloc _).grown hgr (fun k hk => by have := hblk k hk; omega)
   have HG4 := Hd hg4
   have HR4 := Hd hr4
   have hl4 := hr4.left
   clear hgr hrow' hrun hblk hg4 hr4
   go_wp2
   refine ⟨⟨ts3, acc ++ [a3], HS3.out, by simp; omega, HG4.out, HR4.out, HRW.out⟩, ?_⟩
   omega
theorem match1_any (r E g d : Nat) (hd : d + g = 41) (IH : ExprC r E g d) (br bd : Nat) (w0 : World)
 (hbr : w0.heap[br]? = some (.cells #[rp r] 107 (0, 0))) (hbd : w0.heap[bd]? = some (.cells #[.int .i64 (d : Nat)] 3 (0, 0))) (hnr : br ≠ r) (hnd : bd ≠ r) : OneL r E (armP E (patP E g) (exprP E g)) 184 #[bp br, bp bd] w0 := by
 intro w ts hg hR
 have HBr0 := Hd (hg.keep hbr hnr)
 have HBd0 := Hd (hg.keep hbd hnd)
 have x0 := hb_at HBr0.out 0 rfl
 have x1 := hb_at HBd0.out 0 rfl
 have z0 := hb_lt HBr0.out
 have z1 := hb_lt HBd0.out
 have HI : RowKit.Hid (∀ ts W, Rd r E W ts → Calls Tryz.prog 72 #[rp r, .int .i64 (d : Nat)] W (Got r E TmV W (exprP E g ts))) := Hd IH
 clear hg hbr hbd IH
 have HR0 := Hd hR
 have hrl := hR.lt
 have HG0 : RowKit.Hid (Rg r w w) := Hd (Rg.refl r w)
 obtain ⟨S, hS⟩ : ∃ S, S = armP E (patP E g) (exprP E g) ts := ⟨_, rfl⟩
 have HS0 := Hd hS
 rw [← hS]
 unfold armP at HS0
 clear hR hS
 go_enter Tryz.func184, Tryz.ntmps184
 go_wp2_with (first
  | (go_at_call 185; (with_reducible refine (patR_any r E g d hd _ _ Q16).mono ?_); rintro e w1 h1; rcases h1.step HS0.out with ⟨v1, a1, ts1, rfl, hV, hR, hg, hS, hx⟩ | ⟨y, rfl, hg, hSE⟩; rotate_left; (have hGE : Rg r w w1 := Q7); rotate_left; (obtain ⟨k1, p1, n1, N1, q1, l1, c1, rfl⟩ := hV.shape; have HV1 := Hd hV); (have HR1 := Hd hR; have HG1 : RowKit.Hid (Rg r w w1) := Hd Q7; have HS1 := Hd hS; have HX1 := Hd hx; have HD1 := Hd hg; clear hR hg hS hx hV); (have HBr1 := Hd (HD1.out.keep HBr0.out hnr)); (have HBd1 := Hd (HD1.out.keep HBd0.out hnd)); have x10 := hb_at HBr1.out 0 rfl; have x11 := hb_at HBd1.out 0 rfl; have z10 := hb_lt HBr1.out; have z11 := hb_lt HBd1.out)
  | (go_at_call 125; (with_reducible refine (sign_any r E sArrow _ _ Q14).mono ?_); rintro e w2 h2; rcases h2.step HS1.out with ⟨v2, a2, ts2, rfl, hV, hR, hg, hS, hx⟩ | ⟨y, rfl, hg, hSE⟩; rotate_left; (have hGE : Rg r w w2 := Q5); rotate_left; (obtain rfl := hV); (have HR2 := Hd hR; have HG2 : RowKit.Hid (Rg r w w2) := Hd Q5; have HS2 := Hd hS; have HX2 := Hd hx; have HD2 := Hd hg; clear hR hg hS hx); (have HBr2 := Hd (HD2.out.keep (hb_alloc HBr1.out _) hnr)); (have HBd2 := Hd (HD2.out.keep (hb_alloc HBd1.out _) hnd)); have x20 := hb_at HBr2.out 0 rfl; have x21 := hb_at HBd2.out 0 rfl; have z20 := hb_lt HBr2.out; have z21 := hb_lt HBd2.out; (have HBt2 := Hd (HD2.out.keep (hb_new _ _) (by have := HG1.out.size; omega))); obtain ⟨s0, s1, s2, s3, s4, _⟩ := box5 HBt2.out; have st := hb_lt HBt2.out))
 all_goals first | exact ⟨rfl, hGE, rfl⟩ | exact ⟨rfl, hGE, by rw [hSE]⟩ | skip
 go_region_with ((go_at_call 72; (with_reducible refine (HI.out _ _ Q15).mono ?_); rintro e w3 h3; rcases h3.step HS2.out with ⟨v3, a3, ts3, rfl, hV, hR, hg, hS, hx⟩ | ⟨y, rfl, hg, hSE⟩; rotate_left; (have hGE : Rg r w w3 := Q4; subst hSE; exact ⟨rfl, hGE, rfl⟩); (obtain ⟨k3, p3, n3, N3, q3, l3, c3, rfl⟩ := hV.shape; have HV3 := Hd hV); (have HR3 := Hd hR; have HG3 : RowKit.Hid (Rg r w w3) := Hd Q4; have HS3 := Hd hS; have HX3 := Hd hx; have HD3 := Hd hg; clear hR hg hS hx hV); (have HBr3 := Hd (HD3.out.keep HBr2.out hnr)); (have HBd3 := Hd (HD3.out.keep HBd2.out hnd)); have x30 := hb_at HBr3.out 0 rfl; have x31 := hb_at HBd3.out 0 rfl; have z30 := hb_lt HBr3.out; have z31 := hb_lt HBd3.out; (have HBt3 := Hd (HD3.out.keep HBt2.out (by have := HG1.out.size; omega))); obtain ⟨u0, u1, u2, u3, u4, _⟩ := box5 HBt3.out; have su := hb_lt HBt3.out))
 all_goals
  go_wp2
  go_ret
  have hz2 : w1.heap.size + 1 ≤ w2.heap.size := by have h := HD2.out.size; rw [World.size_alloc] at h; exact h
  have hz3 : w2.heap.size ≤ w3.heap.size := HD3.out.size
  have hz1 := HG1.out.size
  refine ⟨HG3.out.alloc _, ?_⟩
  rw [HS3.out]
  refine ⟨⟨_, rfl, SlG.two (show w.heap.size ≤ w3.heap.size by omega) (hb_new _ _) ?_ ?_, rfl⟩, HR3.out.alloc _⟩
  · obtain ⟨D, h⟩ := HV1.out
    exact ⟨D, h.move fun b hb hl => by
     have hb' : w.heap.size ≤ b := hb
     refine ⟨hb', ?_⟩
     rw [Below.heap_alloc _ _ _ (by omega), HD3.out.same (by show b < w2.heap.size; omega) (by omega)]
     show w2.heap[b]? = _
     rw [HD2.out.same Q57 (by omega), Below.heap_alloc _ _ _ hl]⟩
  · obtain ⟨D, h⟩ := HV3.out
    exact ⟨D, h.move fun b hb hl => by
     have hb' : w2.heap.size ≤ b := hb
     exact ⟨show w.heap.size ≤ b by omega, Below.heap_alloc _ _ _ hl⟩⟩
end Go.Proofs.YtmkjalnlldpdcaaGreatDoor
