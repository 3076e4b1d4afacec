/- Texts in a row: Jh Ji Jj Jk. -/
import Derived.Test.YtmkjalnlldpdcaaGreatDoorZT20
set_option maxHeartbeats 16000000
set_option maxRecDepth 100000
namespace Go.Proofs.YtmkjalnlldpdcaaGreatDoor
open Go.RowKit
set_option linter.unusedSimpArgs false
set_option linter.unusedVariables false
noncomputable def patB : Nat → Tm → Bool
 | 0, _ => false
 | d + 1, .mk k p n N kids =>
  if k = 11 then bareB p n N && (kids.length == 0)
  else if k = 12 then namedB 1 p n N && (kids.length == 0)
  else if k = 13 then numB p n N && (kids.length == 0)
  else if k = 14 then namedB 5 p n N && (kids.length == 0)
  else if k = 15 then qualB 2 p n N && kids.all (patB d)
  else if k = 16 then tupB (patB d) p n N kids
  else false
theorem pat_next (d : Nat) (hd : Judge 31 (patB d) d) : Judge 31 (patB (d + 1)) (d + 1) := by
 intro v x w hT hG hw
 obtain ⟨d1, k, p, n, N, s, kids, e1, rfl, rfl, _, _, hk⟩ := hT.open
 obtain rfl : d = d1 := by omega
 obtain ⟨q, c, rfl, hm, hr⟩ := hk
 have hk : KidsT w d (.slice q kids.length c) kids := ⟨q, c, rfl, hm, hr⟩
 obtain ⟨hp, hn, hN', hg⟩ := hG
 have hG : True := trivial
 unfold maxLen at hm
 clear hT e1 hr
 by_cases hk11 : k = 11
 · subst hk11
   rw [show patB (d + 1) (.mk 11 p n N kids) = (bareB p n N && ((kids.length == 0))) from by simp [patB]]
   have Hb1 := Hd (fun W => bare_any 11 p n N q kids.length c W)
   have Hb2 := Hd (fun W => isOfNil_any q kids.length c (by omega) W)
   have hnew := hb_new w (.cells #[.int .i64 11, .string p, .string n, .int .i64 N, .slice q kids.length c] 24)
   have K0 := Hd hnew
   have LX0 := Hd (fun o => hw.under rfl (below_alloc w o))
   have HK0 := Hd (hk.below (below_alloc w (.cells #[.int .i64 11, .string p, .string n, .int .i64 N, .slice q kids.length c] 24)))
   generalize bareB p n N = b1 at *
   generalize (kids.length == 0) = b2 at *
   clear hw hk hG hg hp hn hN' hd hnew
   cases b1
   · go_enter Tryz.func31, Tryz.ntmps31
     go_wp2_with (go_at_call 80; ((with_reducible refine (Hb1.out _).mono ?_); rintro e w1 ⟨rfl, hb⟩; have HBB1 := Hd ((below_alloc w _).trans (hb.mono (by simp))); have kk1 := hb_below K0.out hb (by simp); have LX1 := Hd ((LX0.out _).under rfl hb); have HK1 := Hd (HK0.out.below hb); have K1 := Hd kk1; obtain ⟨r1_0, r1_1, r1_2, r1_3, r1_4⟩ := hb5 kk1; clear hb kk1))
     go_ret
     exact ⟨rfl, HBB1.out⟩
   · skip
     go_enter Tryz.func31, Tryz.ntmps31
     go_wp2_with (first
      | (go_at_call 80; ((with_reducible refine (Hb1.out _).mono ?_); rintro e w1 ⟨rfl, hb⟩; have HBB1 := Hd ((below_alloc w _).trans (hb.mono (by simp))); have kk1 := hb_below K0.out hb (by simp); have LX1 := Hd ((LX0.out _).under rfl hb); have HK1 := Hd (HK0.out.below hb); have K1 := Hd kk1; obtain ⟨r1_0, r1_1, r1_2, r1_3, r1_4⟩ := hb5 kk1; clear hb kk1))
      | (go_at_call 77; ((with_reducible refine (Hb2.out _).mono ?_); rintro e w2 ⟨rfl, hb⟩; have HBB2 := Hd (HBB1.out.trans (hb.mono HBB1.out.size)); have kk2 := hb_below K1.out hb (hb_lt K1.out); have LX2 := Hd (LX1.out.under rfl hb); have HK2 := Hd (HK1.out.below hb); have K2 := Hd kk2; obtain ⟨r2_0, r2_1, r2_2, r2_3, r2_4⟩ := hb5 kk2; clear hb kk2)))
     go_ret
     exact ⟨rfl, HBB2.out⟩
 have d11 : (k == 11) = false := by simpa using hk11
 by_cases hk12 : k = 12
 · subst hk12
   rw [show patB (d + 1) (.mk 12 p n N kids) = (namedB 1 p n N && ((kids.length == 0))) from by simp [patB]]
   have Hb1 := Hd (fun W hW => named_any 1 12 p n N (by omega) (by omega) q kids.length c W hW)
   have Hb2 := Hd (fun W => isOfNil_any q kids.length c (by omega) W)
   have hnew := hb_new w (.cells #[.int .i64 12, .string p, .string n, .int .i64 N, .slice q kids.length c] 24)
   have K0 := Hd hnew
   have LX0 := Hd (fun o => hw.under rfl (below_alloc w o))
   have HK0 := Hd (hk.below (below_alloc w (.cells #[.int .i64 12, .string p, .string n, .int .i64 N, .slice q kids.length c] 24)))
   generalize namedB 1 p n N = b1 at *
   generalize (kids.length == 0) = b2 at *
   clear hw hk hG hg hp hn hN' hd hnew
   cases b1
   · go_enter Tryz.func31, Tryz.ntmps31
     go_wp2_with (go_at_call 76; ((with_reducible refine (Hb1.out _ (LX0.out _)).mono ?_); rintro e w1 ⟨rfl, hb⟩; have HBB1 := Hd ((below_alloc w _).trans (hb.mono (by simp))); have kk1 := hb_below K0.out hb (by simp); have LX1 := Hd ((LX0.out _).under rfl hb); have HK1 := Hd (HK0.out.below hb); have K1 := Hd kk1; obtain ⟨r1_0, r1_1, r1_2, r1_3, r1_4⟩ := hb5 kk1; clear hb kk1))
     go_ret
     exact ⟨rfl, HBB1.out⟩
   · skip
     go_enter Tryz.func31, Tryz.ntmps31
     go_wp2_with (first
      | (go_at_call 76; ((with_reducible refine (Hb1.out _ (LX0.out _)).mono ?_); rintro e w1 ⟨rfl, hb⟩; have HBB1 := Hd ((below_alloc w _).trans (hb.mono (by simp))); have kk1 := hb_below K0.out hb (by simp); have LX1 := Hd ((LX0.out _).under rfl hb); have HK1 := Hd (HK0.out.below hb); have K1 := Hd kk1; obtain ⟨r1_0, r1_1, r1_2, r1_3, r1_4⟩ := hb5 kk1; clear hb kk1))
      | (go_at_call 77; ((with_reducible refine (Hb2.out _).mono ?_); rintro e w2 ⟨rfl, hb⟩; have HBB2 := Hd (HBB1.out.trans (hb.mono HBB1.out.size)); have kk2 := hb_below K1.out hb (hb_lt K1.out); have LX2 := Hd (LX1.out.under rfl hb); have HK2 := Hd (HK1.out.below hb); have K2 := Hd kk2; obtain ⟨r2_0, r2_1, r2_2, r2_3, r2_4⟩ := hb5 kk2; clear hb kk2)))
     go_ret
     exact ⟨rfl, HBB2.out⟩
 have d12 : (k == 12) = false := by simpa using hk12
 by_cases hk13 : k = 13
 · subst hk13
   rw [show patB (d + 1) (.mk 13 p n N kids) = (numB p n N && ((kids.length == 0))) from by simp [patB]]
   have Hb1 := Hd (fun W hW => isNumber_any 13 p n N hN' q kids.length c W hW)
   have Hb2 := Hd (fun W => isOfNil_any q kids.length c (by omega) W)
   have hnew := hb_new w (.cells #[.int .i64 13, .string p, .string n, .int .i64 N, .slice q kids.length c] 24)
   have K0 := Hd hnew
   have LX0 := Hd (fun o => hw.under rfl (below_alloc w o))
   have HK0 := Hd (hk.below (below_alloc w (.cells #[.int .i64 13, .string p, .string n, .int .i64 N, .slice q kids.length c] 24)))
   generalize numB p n N = b1 at *
   generalize (kids.length == 0) = b2 at *
   clear hw hk hG hg hp hn hN' hd hnew
   cases b1
   · go_enter Tryz.func31, Tryz.ntmps31
     go_wp2_with (go_at_call 89; ((with_reducible refine (Hb1.out _ (LX0.out _)).mono ?_); rintro e w1 ⟨rfl, hb⟩; have HBB1 := Hd ((below_alloc w _).trans (hb.mono (by simp))); have kk1 := hb_below K0.out hb (by simp); have LX1 := Hd ((LX0.out _).under rfl hb); have HK1 := Hd (HK0.out.below hb); have K1 := Hd kk1; obtain ⟨r1_0, r1_1, r1_2, r1_3, r1_4⟩ := hb5 kk1; clear hb kk1))
     go_ret
     exact ⟨rfl, HBB1.out⟩
   · skip
     go_enter Tryz.func31, Tryz.ntmps31
     go_wp2_with (first
      | (go_at_call 89; ((with_reducible refine (Hb1.out _ (LX0.out _)).mono ?_); rintro e w1 ⟨rfl, hb⟩; have HBB1 := Hd ((below_alloc w _).trans (hb.mono (by simp))); have kk1 := hb_below K0.out hb (by simp); have LX1 := Hd ((LX0.out _).under rfl hb); have HK1 := Hd (HK0.out.below hb); have K1 := Hd kk1; obtain ⟨r1_0, r1_1, r1_2, r1_3, r1_4⟩ := hb5 kk1; clear hb kk1))
      | (go_at_call 77; ((with_reducible refine (Hb2.out _).mono ?_); rintro e w2 ⟨rfl, hb⟩; have HBB2 := Hd (HBB1.out.trans (hb.mono HBB1.out.size)); have kk2 := hb_below K1.out hb (hb_lt K1.out); have LX2 := Hd (LX1.out.under rfl hb); have HK2 := Hd (HK1.out.below hb); have K2 := Hd kk2; obtain ⟨r2_0, r2_1, r2_2, r2_3, r2_4⟩ := hb5 kk2; clear hb kk2)))
     go_ret
     exact ⟨rfl, HBB2.out⟩
 have d13 : (k == 13) = false := by simpa using hk13
 by_cases hk14 : k = 14
 · subst hk14
   rw [show patB (d + 1) (.mk 14 p n N kids) = (namedB 5 p n N && ((kids.length == 0))) from by simp [patB]]
   have Hb1 := Hd (fun W hW => named_any 5 14 p n N (by omega) (by omega) q kids.length c W hW)
   have Hb2 := Hd (fun W => isOfNil_any q kids.length c (by omega) W)
   have hnew := hb_new w (.cells #[.int .i64 14, .string p, .string n, .int .i64 N, .slice q kids.length c] 24)
   have K0 := Hd hnew
   have LX0 := Hd (fun o => hw.under rfl (below_alloc w o))
   have HK0 := Hd (hk.below (below_alloc w (.cells #[.int .i64 14, .string p, .string n, .int .i64 N, .slice q kids.length c] 24)))
   generalize namedB 5 p n N = b1 at *
   generalize (kids.length == 0) = b2 at *
   clear hw hk hG hg hp hn hN' hd hnew
   cases b1
   · go_enter Tryz.func31, Tryz.ntmps31
     go_wp2_with (go_at_call 76; ((with_reducible refine (Hb1.out _ (LX0.out _)).mono ?_); rintro e w1 ⟨rfl, hb⟩; have HBB1 := Hd ((below_alloc w _).trans (hb.mono (by simp))); have kk1 := hb_below K0.out hb (by simp); have LX1 := Hd ((LX0.out _).under rfl hb); have HK1 := Hd (HK0.out.below hb); have K1 := Hd kk1; obtain ⟨r1_0, r1_1, r1_2, r1_3, r1_4⟩ := hb5 kk1; clear hb kk1))
     go_ret
     exact ⟨rfl, HBB1.out⟩
   · skip
     go_enter Tryz.func31, Tryz.ntmps31
     go_wp2_with (first
      | (go_at_call 76; ((with_reducible refine (Hb1.out _ (LX0.out _)).mono ?_); rintro e w1 ⟨rfl, hb⟩; have HBB1 := Hd ((below_alloc w _).trans (hb.mono (by simp))); have kk1 := hb_below K0.out hb (by simp); have LX1 := Hd ((LX0.out _).under rfl hb); have HK1 := Hd (HK0.out.below hb); have K1 := Hd kk1; obtain ⟨r1_0, r1_1, r1_2, r1_3, r1_4⟩ := hb5 kk1; clear hb kk1))
      | (go_at_call 77; ((with_reducible refine (Hb2.out _).mono ?_); rintro e w2 ⟨rfl, hb⟩; have HBB2 := Hd (HBB1.out.trans (hb.mono HBB1.out.size)); have kk2 := hb_below K1.out hb (hb_lt K1.out); have LX2 := Hd (LX1.out.under rfl hb); have HK2 := Hd (HK1.out.below hb); have K2 := Hd kk2; obtain ⟨r2_0, r2_1, r2_2, r2_3, r2_4⟩ := hb5 kk2; clear hb kk2)))
     go_ret
     exact ⟨rfl, HBB2.out⟩
 have d14 : (k == 14) = false := by simpa using hk14
 by_cases hk15 : k = 15
 · subst hk15
   rw [show patB (d + 1) (.mk 15 p n N kids) = (qualB 2 p n N && (kids.all (patB d))) from by simp [patB]]
   have Hb1 := Hd (fun W hW => qualified_any 2 15 p n N (by omega) (by omega) q kids.length c W hW)
   have Hb2 := Hd (fun W hW hk => areAll_any11 (patB d) d kids hd hg (.slice q kids.length c) W hW hk)
   have hnew := hb_new w (.cells #[.int .i64 15, .string p, .string n, .int .i64 N, .slice q kids.length c] 24)
   have K0 := Hd hnew
   have LX0 := Hd (fun o => hw.under rfl (below_alloc w o))
   have HK0 := Hd (hk.below (below_alloc w (.cells #[.int .i64 15, .string p, .string n, .int .i64 N, .slice q kids.length c] 24)))
   generalize qualB 2 p n N = b1 at *
   generalize kids.all (patB d) = b2 at *
   clear hw hk hG hg hp hn hN' hd hnew
   cases b1
   · go_enter Tryz.func31, Tryz.ntmps31
     go_wp2_with (go_at_call 78; ((with_reducible refine (Hb1.out _ (LX0.out _)).mono ?_); rintro e w1 ⟨rfl, hb⟩; have HBB1 := Hd ((below_alloc w _).trans (hb.mono (by simp))); have kk1 := hb_below K0.out hb (by simp); have LX1 := Hd ((LX0.out _).under rfl hb); have HK1 := Hd (HK0.out.below hb); have K1 := Hd kk1; obtain ⟨r1_0, r1_1, r1_2, r1_3, r1_4⟩ := hb5 kk1; clear hb kk1))
     go_ret
     exact ⟨rfl, HBB1.out⟩
   · skip
     go_enter Tryz.func31, Tryz.ntmps31
     go_wp2_with (first
      | (go_at_call 78; ((with_reducible refine (Hb1.out _ (LX0.out _)).mono ?_); rintro e w1 ⟨rfl, hb⟩; have HBB1 := Hd ((below_alloc w _).trans (hb.mono (by simp))); have kk1 := hb_below K0.out hb (by simp); have LX1 := Hd ((LX0.out _).under rfl hb); have HK1 := Hd (HK0.out.below hb); have K1 := Hd kk1; obtain ⟨r1_0, r1_1, r1_2, r1_3, r1_4⟩ := hb5 kk1; clear hb kk1))
      | (go_at_call 79; ((with_reducible refine (Hb2.out _ LX1.out HK1.out).mono ?_); rintro e w2 ⟨rfl, hb⟩; have HBB2 := Hd (HBB1.out.trans (hb.mono HBB1.out.size)); have kk2 := hb_below K1.out hb (hb_lt K1.out); have LX2 := Hd (LX1.out.under rfl hb); have HK2 := Hd (HK1.out.below hb); have K2 := Hd kk2; obtain ⟨r2_0, r2_1, r2_2, r2_3, r2_4⟩ := hb5 kk2; clear hb kk2)))
     go_ret
     exact ⟨rfl, HBB2.out⟩
 have d15 : (k == 15) = false := by simpa using hk15
 by_cases hk16 : k = 16
 · subst hk16
   rw [show patB (d + 1) (.mk 16 p n N kids) = (tupB (patB d) p n N kids) from by simp [patB]]
   have Hb1 := Hd (fun W hW hk => isTuple_any11 (patB d) d 16 p n N q c kids hd hg W hW hk)
   have hnew := hb_new w (.cells #[.int .i64 16, .string p, .string n, .int .i64 N, .slice q kids.length c] 24)
   have K0 := Hd hnew
   have LX0 := Hd (fun o => hw.under rfl (below_alloc w o))
   have HK0 := Hd (hk.below (below_alloc w (.cells #[.int .i64 16, .string p, .string n, .int .i64 N, .slice q kids.length c] 24)))
   generalize tupB (patB d) p n N kids = b1 at *
   clear hw hk hG hg hp hn hN' hd hnew
   go_enter Tryz.func31, Tryz.ntmps31
   go_wp2_with (go_at_call 81; ((with_reducible refine (Hb1.out _ (LX0.out _) HK0.out).mono ?_); rintro e w1 ⟨rfl, hb⟩; have HBB1 := Hd ((below_alloc w _).trans (hb.mono (by simp))); have kk1 := hb_below K0.out hb (by simp); have LX1 := Hd ((LX0.out _).under rfl hb); have HK1 := Hd (HK0.out.below hb); have K1 := Hd kk1; obtain ⟨r1_0, r1_1, r1_2, r1_3, r1_4⟩ := hb5 kk1; clear hb kk1))
   go_ret
   exact ⟨rfl, HBB1.out⟩
 have d16 : (k == 16) = false := by simpa using hk16
 rw [show patB (d + 1) (.mk k p n N kids) = false from by simp only [patB, if_neg hk11, if_neg hk12, if_neg hk13, if_neg hk14, if_neg hk15, if_neg hk16]]
 clear hw hk hG hg hp hn hN' hd
 go_enter Tryz.func31, Tryz.ntmps31
 go_wp2
 go_ret
 exact ⟨rfl, below_alloc w _⟩
theorem patD_next (d : Nat) (hd : Judge 32 (patB d) d) : Judge 32 (patB (d + 1)) (d + 1) := by
 intro v x w hT hG hw
 obtain ⟨d1, k, p, n, N, s, kids, e1, rfl, rfl, _, _, hk⟩ := hT.open
 obtain rfl : d = d1 := by omega
 obtain ⟨q, c, rfl, hm, hr⟩ := hk
 have hk : KidsT w d (.slice q kids.length c) kids := ⟨q, c, rfl, hm, hr⟩
 obtain ⟨hp, hn, hN', hg⟩ := hG
 have hG : True := trivial
 unfold maxLen at hm
 clear hT e1 hr
 by_cases hk11 : k = 11
 · subst hk11
   rw [show patB (d + 1) (.mk 11 p n N kids) = (onlyB ⟨#[]⟩ p n N && ((kids.length == 0))) from by rw [patB, if_pos rfl, only_no]]
   have Hb1 := Hd (fun W => only_any 11 p n N q kids.length c ⟨#[]⟩ (by decide) W)
   have hnew := hb_new w (.cells #[.int .i64 11, .string p, .string n, .int .i64 N, .slice q kids.length c] 24)
   have K0 := Hd hnew
   have LX0 := Hd (fun o => hw.under rfl (below_alloc w o))
   have HK0 := Hd (hk.below (below_alloc w (.cells #[.int .i64 11, .string p, .string n, .int .i64 N, .slice q kids.length c] 24)))
   have hL0 : ((kids.length : Int) == 0) = (kids.length == 0) := by rw [Bool.eq_iff_iff]; simp
   generalize onlyB ⟨#[]⟩ p n N = b1 at *
   generalize (kids.length == 0) = b2 at *
   clear hw hk hG hg hp hn hN' hd hnew
   cases b1
   · go_enter Tryz.func32, Tryz.ntmps32
     go_wp2_with (go_at_call 82; ((with_reducible refine (Hb1.out _).mono ?_); rintro e w1 ⟨rfl, hb⟩; have HBB1 := Hd ((below_alloc w _).trans (hb.mono (by simp))); have kk1 := hb_below K0.out hb (by simp); have LX1 := Hd ((LX0.out _).under rfl hb); have HK1 := Hd (HK0.out.below hb); have K1 := Hd kk1; obtain ⟨r1_0, r1_1, r1_2, r1_3, r1_4⟩ := hb5 kk1; clear hb kk1))
     go_ret
     exact ⟨rfl, HBB1.out⟩
   · skip
     go_enter Tryz.func32, Tryz.ntmps32
     go_wp2_with (go_at_call 82; ((with_reducible refine (Hb1.out _).mono ?_); rintro e w1 ⟨rfl, hb⟩; have HBB1 := Hd ((below_alloc w _).trans (hb.mono (by simp))); have kk1 := hb_below K0.out hb (by simp); have LX1 := Hd ((LX0.out _).under rfl hb); have HK1 := Hd (HK0.out.below hb); have K1 := Hd kk1; obtain ⟨r1_0, r1_1, r1_2, r1_3, r1_4⟩ := hb5 kk1; clear hb kk1))
     go_ret
     exact ⟨rfl, HBB1.out⟩
 have d11 : (k == 11) = false := by simpa using hk11
 by_cases hk12 : k = 12
 · subst hk12
   rw [show patB (d + 1) (.mk 12 p n N kids) = (onlyB ⟨#[110]⟩ p n N && (rB 1 n 0 && ((kids.length == 0)))) from by rw [patB, if_neg (by decide), if_pos rfl, named_n]; simp only [Bool.and_assoc]]
   have Hb1 := Hd (fun W => only_any 12 p n N q kids.length c ⟨#[110]⟩ (by decide) W)
   have Hb2 := Hd (fun W => isLower_any n (by omega) W)
   have hnew := hb_new w (.cells #[.int .i64 12, .string p, .string n, .int .i64 N, .slice q kids.length c] 24)
   have K0 := Hd hnew
   have LX0 := Hd (fun o => hw.under rfl (below_alloc w o))
   have HK0 := Hd (hk.below (below_alloc w (.cells #[.int .i64 12, .string p, .string n, .int .i64 N, .slice q kids.length c] 24)))
   have hL0 : ((kids.length : Int) == 0) = (kids.length == 0) := by rw [Bool.eq_iff_iff]; simp
   generalize onlyB ⟨#[110]⟩ p n N = b1 at *
   generalize rB 1 n 0 = b2 at *
   generalize (kids.length == 0) = b3 at *
   clear hw hk hG hg hp hn hN' hd hnew
   cases b1
   · go_enter Tryz.func32, Tryz.ntmps32
     go_wp2_with (go_at_call 82; ((with_reducible refine (Hb1.out _).mono ?_); rintro e w1 ⟨rfl, hb⟩; have HBB1 := Hd ((below_alloc w _).trans (hb.mono (by simp))); have kk1 := hb_below K0.out hb (by simp); have LX1 := Hd ((LX0.out _).under rfl hb); have HK1 := Hd (HK0.out.below hb); have K1 := Hd kk1; obtain ⟨r1_0, r1_1, r1_2, r1_3, r1_4⟩ := hb5 kk1; clear hb kk1))
     go_ret
     exact ⟨rfl, HBB1.out⟩
   · skip
     cases b2
     · go_enter Tryz.func32, Tryz.ntmps32
       go_wp2_with (first
        | (go_at_call 82; ((with_reducible refine (Hb1.out _).mono ?_); rintro e w1 ⟨rfl, hb⟩; have HBB1 := Hd ((below_alloc w _).trans (hb.mono (by simp))); have kk1 := hb_below K0.out hb (by simp); have LX1 := Hd ((LX0.out _).under rfl hb); have HK1 := Hd (HK0.out.below hb); have K1 := Hd kk1; obtain ⟨r1_0, r1_1, r1_2, r1_3, r1_4⟩ := hb5 kk1; clear hb kk1))
        | (go_at_call 63; ((with_reducible refine (Hb2.out _).mono ?_); rintro e w2 ⟨rfl, hb⟩; have HBB2 := Hd (HBB1.out.trans (hb.mono HBB1.out.size)); have kk2 := hb_below K1.out hb (hb_lt K1.out); have LX2 := Hd (LX1.out.under rfl hb); have HK2 := Hd (HK1.out.below hb); have K2 := Hd kk2; obtain ⟨r2_0, r2_1, r2_2, r2_3, r2_4⟩ := hb5 kk2; clear hb kk2)))
       go_ret
       exact ⟨rfl, HBB2.out⟩
     · skip
       go_enter Tryz.func32, Tryz.ntmps32
       go_wp2_with (first
        | (go_at_call 82; ((with_reducible refine (Hb1.out _).mono ?_); rintro e w1 ⟨rfl, hb⟩; have HBB1 := Hd ((below_alloc w _).trans (hb.mono (by simp))); have kk1 := hb_below K0.out hb (by simp); have LX1 := Hd ((LX0.out _).under rfl hb); have HK1 := Hd (HK0.out.below hb); have K1 := Hd kk1; obtain ⟨r1_0, r1_1, r1_2, r1_3, r1_4⟩ := hb5 kk1; clear hb kk1))
        | (go_at_call 63; ((with_reducible refine (Hb2.out _).mono ?_); rintro e w2 ⟨rfl, hb⟩; have HBB2 := Hd (HBB1.out.trans (hb.mono HBB1.out.size)); have kk2 := hb_below K1.out hb (hb_lt K1.out); have LX2 := Hd (LX1.out.under rfl hb); have HK2 := Hd (HK1.out.below hb); have K2 := Hd kk2; obtain ⟨r2_0, r2_1, r2_2, r2_3, r2_4⟩ := hb5 kk2; clear hb kk2)))
       go_ret
       exact ⟨rfl, HBB2.out⟩
 have d12 : (k == 12) = false := by simpa using hk12
 by_cases hk13 : k = 13
 · subst hk13
   rw [show patB (d + 1) (.mk 13 p n N kids) = (onlyB ⟨#[107]⟩ p n N && (rB 4 ⟨#[]⟩ N && ((kids.length == 0)))) from by rw [patB, if_neg (by decide), if_neg (by decide), if_pos rfl, num_k]; simp only [Bool.and_assoc]]
   have Hb1 := Hd (fun W => only_any 13 p n N q kids.length c ⟨#[107]⟩ (by decide) W)
   have Hb2 := Hd (fun W => may_any 4 ⟨#[]⟩ N (by first | omega | decide) W)
   have hnew := hb_new w (.cells #[.int .i64 13, .string p, .string n, .int .i64 N, .slice q kids.length c] 24)
   have K0 := Hd hnew
   have LX0 := Hd (fun o => hw.under rfl (below_alloc w o))
   have HK0 := Hd (hk.below (below_alloc w (.cells #[.int .i64 13, .string p, .string n, .int .i64 N, .slice q kids.length c] 24)))
   have hL0 : ((kids.length : Int) == 0) = (kids.length == 0) := by rw [Bool.eq_iff_iff]; simp
   generalize onlyB ⟨#[107]⟩ p n N = b1 at *
   generalize rB 4 ⟨#[]⟩ N = b2 at *
   generalize (kids.length == 0) = b3 at *
   clear hw hk hG hg hp hn hN' hd hnew
   cases b1
   · go_enter Tryz.func32, Tryz.ntmps32
     go_wp2_with (go_at_call 82; ((with_reducible refine (Hb1.out _).mono ?_); rintro e w1 ⟨rfl, hb⟩; have HBB1 := Hd ((below_alloc w _).trans (hb.mono (by simp))); have kk1 := hb_below K0.out hb (by simp); have LX1 := Hd ((LX0.out _).under rfl hb); have HK1 := Hd (HK0.out.below hb); have K1 := Hd kk1; obtain ⟨r1_0, r1_1, r1_2, r1_3, r1_4⟩ := hb5 kk1; clear hb kk1))
     go_ret
     exact ⟨rfl, HBB1.out⟩
   · skip
     cases b2
     · go_enter Tryz.func32, Tryz.ntmps32
       go_wp2_with (first
        | (go_at_call 82; ((with_reducible refine (Hb1.out _).mono ?_); rintro e w1 ⟨rfl, hb⟩; have HBB1 := Hd ((below_alloc w _).trans (hb.mono (by simp))); have kk1 := hb_below K0.out hb (by simp); have LX1 := Hd ((LX0.out _).under rfl hb); have HK1 := Hd (HK0.out.below hb); have K1 := Hd kk1; obtain ⟨r1_0, r1_1, r1_2, r1_3, r1_4⟩ := hb5 kk1; clear hb kk1))
        | (go_at_call 90; ((with_reducible refine (Hb2.out _).mono ?_); rintro e w2 ⟨rfl, hb⟩; have HBB2 := Hd (HBB1.out.trans (hb.mono HBB1.out.size)); have kk2 := hb_below K1.out hb (hb_lt K1.out); have LX2 := Hd (LX1.out.under rfl hb); have HK2 := Hd (HK1.out.below hb); have K2 := Hd kk2; obtain ⟨r2_0, r2_1, r2_2, r2_3, r2_4⟩ := hb5 kk2; clear hb kk2)))
       go_ret
       exact ⟨rfl, HBB2.out⟩
     · skip
       go_enter Tryz.func32, Tryz.ntmps32
       go_wp2_with (first
        | (go_at_call 82; ((with_reducible refine (Hb1.out _).mono ?_); rintro e w1 ⟨rfl, hb⟩; have HBB1 := Hd ((below_alloc w _).trans (hb.mono (by simp))); have kk1 := hb_below K0.out hb (by simp); have LX1 := Hd ((LX0.out _).under rfl hb); have HK1 := Hd (HK0.out.below hb); have K1 := Hd kk1; obtain ⟨r1_0, r1_1, r1_2, r1_3, r1_4⟩ := hb5 kk1; clear hb kk1))
        | (go_at_call 90; ((with_reducible refine (Hb2.out _).mono ?_); rintro e w2 ⟨rfl, hb⟩; have HBB2 := Hd (HBB1.out.trans (hb.mono HBB1.out.size)); have kk2 := hb_below K1.out hb (hb_lt K1.out); have LX2 := Hd (LX1.out.under rfl hb); have HK2 := Hd (HK1.out.below hb); have K2 := Hd kk2; obtain ⟨r2_0, r2_1, r2_2, r2_3, r2_4⟩ := hb5 kk2; clear hb kk2)))
       go_ret
       exact ⟨rfl, HBB2.out⟩
 have d13 : (k == 13) = false := by simpa using hk13
 by_cases hk14 : k = 14
 · subst hk14
   rw [show patB (d + 1) (.mk 14 p n N kids) = (onlyB ⟨#[110]⟩ p n N && (rB 5 n 0 && ((kids.length == 0)))) from by rw [patB, if_neg (by decide), if_neg (by decide), if_neg (by decide), if_pos rfl, named_n]; simp only [Bool.and_assoc]]
   have Hb1 := Hd (fun W => only_any 14 p n N q kids.length c ⟨#[110]⟩ (by decide) W)
   have Hb2 := Hd (fun W => may_any 5 n 0 (by first | omega | decide) W)
   have hnew := hb_new w (.cells #[.int .i64 14, .string p, .string n, .int .i64 N, .slice q kids.length c] 24)
   have K0 := Hd hnew
   have LX0 := Hd (fun o => hw.under rfl (below_alloc w o))
   have HK0 := Hd (hk.below (below_alloc w (.cells #[.int .i64 14, .string p, .string n, .int .i64 N, .slice q kids.length c] 24)))
   have hL0 : ((kids.length : Int) == 0) = (kids.length == 0) := by rw [Bool.eq_iff_iff]; simp
   generalize onlyB ⟨#[110]⟩ p n N = b1 at *
   generalize rB 5 n 0 = b2 at *
   generalize (kids.length == 0) = b3 at *
   clear hw hk hG hg hp hn hN' hd hnew
   cases b1
   · go_enter Tryz.func32, Tryz.ntmps32
     go_wp2_with (go_at_call 82; ((with_reducible refine (Hb1.out _).mono ?_); rintro e w1 ⟨rfl, hb⟩; have HBB1 := Hd ((below_alloc w _).trans (hb.mono (by simp))); have kk1 := hb_below K0.out hb (by simp); have LX1 := Hd ((LX0.out _).under rfl hb); have HK1 := Hd (HK0.out.below hb); have K1 := Hd kk1; obtain ⟨r1_0, r1_1, r1_2, r1_3, r1_4⟩ := hb5 kk1; clear hb kk1))
     go_ret
     exact ⟨rfl, HBB1.out⟩
   · skip
     cases b2
     · go_enter Tryz.func32, Tryz.ntmps32
       go_wp2_with (first
        | (go_at_call 82; ((with_reducible refine (Hb1.out _).mono ?_); rintro e w1 ⟨rfl, hb⟩; have HBB1 := Hd ((below_alloc w _).trans (hb.mono (by simp))); have kk1 := hb_below K0.out hb (by simp); have LX1 := Hd ((LX0.out _).under rfl hb); have HK1 := Hd (HK0.out.below hb); have K1 := Hd kk1; obtain ⟨r1_0, r1_1, r1_2, r1_3, r1_4⟩ := hb5 kk1; clear hb kk1))
        | (go_at_call 90; ((with_reducible refine (Hb2.out _).mono ?_); rintro e w2 ⟨rfl, hb⟩; have HBB2 := Hd (HBB1.out.trans (hb.mono HBB1.out.size)); have kk2 := hb_below K1.out hb (hb_lt K1.out); have LX2 := Hd (LX1.out.under rfl hb); have HK2 := Hd (HK1.out.below hb); have K2 := Hd kk2; obtain ⟨r2_0, r2_1, r2_2, r2_3, r2_4⟩ := hb5 kk2; clear hb kk2)))
       go_ret
       exact ⟨rfl, HBB2.out⟩
     · skip
       go_enter Tryz.func32, Tryz.ntmps32
       go_wp2_with (first
        | (go_at_call 82; ((with_reducible refine (Hb1.out _).mono ?_); rintro e w1 ⟨rfl, hb⟩; have HBB1 := Hd ((below_alloc w _).trans (hb.mono (by simp))); have kk1 := hb_below K0.out hb (by simp); have LX1 := Hd ((LX0.out _).under rfl hb); have HK1 := Hd (HK0.out.below hb); have K1 := Hd kk1; obtain ⟨r1_0, r1_1, r1_2, r1_3, r1_4⟩ := hb5 kk1; clear hb kk1))
        | (go_at_call 90; ((with_reducible refine (Hb2.out _).mono ?_); rintro e w2 ⟨rfl, hb⟩; have HBB2 := Hd (HBB1.out.trans (hb.mono HBB1.out.size)); have kk2 := hb_below K1.out hb (hb_lt K1.out); have LX2 := Hd (LX1.out.under rfl hb); have HK2 := Hd (HK1.out.below hb); have K2 := Hd kk2; obtain ⟨r2_0, r2_1, r2_2, r2_3, r2_4⟩ := hb5 kk2; clear hb kk2)))
       go_ret
       exact ⟨rfl, HBB2.out⟩
 have d14 : (k == 14) = false := by simpa using hk14
 by_cases hk15 : k = 15
 · subst hk15
   rw [show patB (d + 1) (.mk 15 p n N kids) = (onlyB ⟨#[112, 110]⟩ p n N && (rB 2 n 0 && (pkgB p && (kids.all (patB d))))) from by rw [patB, if_neg (by decide), if_neg (by decide), if_neg (by decide), if_neg (by decide), if_pos rfl, qual_pn]; simp only [Bool.and_assoc]]
   have Hb1 := Hd (fun W => only_any 15 p n N q kids.length c ⟨#[112, 110]⟩ (by decide) W)
   have Hb2 := Hd (fun W => isUpper_any n (by omega) W)
   have Hb3 := Hd (fun W => pkg_any p (by omega) W)
   have Hb4 := Hd (fun W hW hk => pats_any (patB d) d kids hd hg (.slice q kids.length c) W hW hk)
   have hnew := hb_new w (.cells #[.int .i64 15, .string p, .string n, .int .i64 N, .slice q kids.length c] 24)
   have K0 := Hd hnew
   have LX0 := Hd (fun o => hw.under rfl (below_alloc w o))
   have HK0 := Hd (hk.below (below_alloc w (.cells #[.int .i64 15, .string p, .string n, .int .i64 N, .slice q kids.length c] 24)))
   generalize onlyB ⟨#[112, 110]⟩ p n N = b1 at *
   generalize rB 2 n 0 = b2 at *
   generalize pkgB p = b3 at *
   generalize kids.all (patB d) = b4 at *
   clear hw hk hG hg hp hn hN' hd hnew
   cases b1
   · go_enter Tryz.func32, Tryz.ntmps32
     go_wp2_with (go_at_call 82; ((with_reducible refine (Hb1.out _).mono ?_); rintro e w1 ⟨rfl, hb⟩; have HBB1 := Hd ((below_alloc w _).trans (hb.mono (by simp))); have kk1 := hb_below K0.out hb (by simp); have LX1 := Hd ((LX0.out _).under rfl hb); have HK1 := Hd (HK0.out.below hb); have K1 := Hd kk1; obtain ⟨r1_0, r1_1, r1_2, r1_3, r1_4⟩ := hb5 kk1; clear hb kk1))
     go_ret
     exact ⟨rfl, HBB1.out⟩
   · skip
     cases b2
     · go_enter Tryz.func32, Tryz.ntmps32
       go_wp2_with (first
        | (go_at_call 82; ((with_reducible refine (Hb1.out _).mono ?_); rintro e w1 ⟨rfl, hb⟩; have HBB1 := Hd ((below_alloc w _).trans (hb.mono (by simp))); have kk1 := hb_below K0.out hb (by simp); have LX1 := Hd ((LX0.out _).under rfl hb); have HK1 := Hd (HK0.out.below hb); have K1 := Hd kk1; obtain ⟨r1_0, r1_1, r1_2, r1_3, r1_4⟩ := hb5 kk1; clear hb kk1))
        | (go_at_call 61; ((with_reducible refine (Hb2.out _).mono ?_); rintro e w2 ⟨rfl, hb⟩; have HBB2 := Hd (HBB1.out.trans (hb.mono HBB1.out.size)); have kk2 := hb_below K1.out hb (hb_lt K1.out); have LX2 := Hd (LX1.out.under rfl hb); have HK2 := Hd (HK1.out.below hb); have K2 := Hd kk2; obtain ⟨r2_0, r2_1, r2_2, r2_3, r2_4⟩ := hb5 kk2; clear hb kk2)))
       go_ret
       exact ⟨rfl, HBB2.out⟩
     · skip
       cases b3
       · go_enter Tryz.func32, Tryz.ntmps32
         go_wp2_with (first
          | (go_at_call 82; ((with_reducible refine (Hb1.out _).mono ?_); rintro e w1 ⟨rfl, hb⟩; have HBB1 := Hd ((below_alloc w _).trans (hb.mono (by simp))); have kk1 := hb_below K0.out hb (by simp); have LX1 := Hd ((LX0.out _).under rfl hb); have HK1 := Hd (HK0.out.below hb); have K1 := Hd kk1; obtain ⟨r1_0, r1_1, r1_2, r1_3, r1_4⟩ := hb5 kk1; clear hb kk1))
          | (go_at_call 61; ((with_reducible refine (Hb2.out _).mono ?_); rintro e w2 ⟨rfl, hb⟩; have HBB2 := Hd (HBB1.out.trans (hb.mono HBB1.out.size)); have kk2 := hb_below K1.out hb (hb_lt K1.out); have LX2 := Hd (LX1.out.under rfl hb); have HK2 := Hd (HK1.out.below hb); have K2 := Hd kk2; obtain ⟨r2_0, r2_1, r2_2, r2_3, r2_4⟩ := hb5 kk2; clear hb kk2))
          | (go_at_call 84; ((with_reducible refine (Hb3.out _).mono ?_); rintro e w3 ⟨rfl, hb⟩; have HBB3 := Hd (HBB2.out.trans (hb.mono HBB2.out.size)); have kk3 := hb_below K2.out hb (hb_lt K2.out); have LX3 := Hd (LX2.out.under rfl hb); have HK3 := Hd (HK2.out.below hb); have K3 := Hd kk3; obtain ⟨r3_0, r3_1, r3_2, r3_3, r3_4⟩ := hb5 kk3; clear hb kk3)))
         go_ret
         exact ⟨rfl, HBB3.out⟩
       · skip
         go_enter Tryz.func32, Tryz.ntmps32
         go_wp2_with (first
          | (go_at_call 82; ((with_reducible refine (Hb1.out _).mono ?_); rintro e w1 ⟨rfl, hb⟩; have HBB1 := Hd ((below_alloc w _).trans (hb.mono (by simp))); have kk1 := hb_below K0.out hb (by simp); have LX1 := Hd ((LX0.out _).under rfl hb); have HK1 := Hd (HK0.out.below hb); have K1 := Hd kk1; obtain ⟨r1_0, r1_1, r1_2, r1_3, r1_4⟩ := hb5 kk1; clear hb kk1))
          | (go_at_call 61; ((with_reducible refine (Hb2.out _).mono ?_); rintro e w2 ⟨rfl, hb⟩; have HBB2 := Hd (HBB1.out.trans (hb.mono HBB1.out.size)); have kk2 := hb_below K1.out hb (hb_lt K1.out); have LX2 := Hd (LX1.out.under rfl hb); have HK2 := Hd (HK1.out.below hb); have K2 := Hd kk2; obtain ⟨r2_0, r2_1, r2_2, r2_3, r2_4⟩ := hb5 kk2; clear hb kk2))
          | (go_at_call 84; ((with_reducible refine (Hb3.out _).mono ?_); rintro e w3 ⟨rfl, hb⟩; have HBB3 := Hd (HBB2.out.trans (hb.mono HBB2.out.size)); have kk3 := hb_below K2.out hb (hb_lt K2.out); have LX3 := Hd (LX2.out.under rfl hb); have HK3 := Hd (HK2.out.below hb); have K3 := Hd kk3; obtain ⟨r3_0, r3_1, r3_2, r3_3, r3_4⟩ := hb5 kk3; clear hb kk3))
          | (go_at_call 91; ((with_reducible refine (Hb4.out _ LX3.out HK3.out).mono ?_); rintro e w4 ⟨rfl, hb⟩; have HBB4 := Hd (HBB3.out.trans (hb.mono HBB3.out.size)); have kk4 := hb_below K3.out hb (hb_lt K3.out); have LX4 := Hd (LX3.out.under rfl hb); have HK4 := Hd (HK3.out.below hb); have K4 := Hd kk4; obtain ⟨r4_0, r4_1, r4_2, r4_3, r4_4⟩ := hb5 kk4; clear hb kk4)))
         go_ret
         exact ⟨rfl, HBB4.out⟩
 have d15 : (k == 15) = false := by simpa using hk15
 by_cases hk16 : k = 16
 · subst hk16
   rw [show patB (d + 1) (.mk 16 p n N kids) = (onlyB ⟨#[]⟩ p n N && ((kids.length != 1) && (kids.all (patB d)))) from by rw [patB, if_neg (by decide), if_neg (by decide), if_neg (by decide), if_neg (by decide), if_neg (by decide), if_pos rfl, only_no]; rfl]
   have Hb1 := Hd (fun W => only_any 16 p n N q kids.length c ⟨#[]⟩ (by decide) W)
   have Hb4 := Hd (fun W hW hk => pats_any (patB d) d kids hd hg (.slice q kids.length c) W hW hk)
   have hnew := hb_new w (.cells #[.int .i64 16, .string p, .string n, .int .i64 N, .slice q kids.length c] 24)
   have K0 := Hd hnew
   have LX0 := Hd (fun o => hw.under rfl (below_alloc w o))
   have HK0 := Hd (hk.below (below_alloc w (.cells #[.int .i64 16, .string p, .string n, .int .i64 N, .slice q kids.length c] 24)))
   have hL1 : ((kids.length : Int) != 1) = (kids.length != 1) := by rw [Bool.eq_iff_iff]; simp; omega
   generalize onlyB ⟨#[]⟩ p n N = b1 at *
   generalize (kids.length != 1) = b2 at *
   generalize kids.all (patB d) = b4 at *
   clear hw hk hG hg hp hn hN' hd hnew
   cases b1
   · go_enter Tryz.func32, Tryz.ntmps32
     go_wp2_with (go_at_call 82; ((with_reducible refine (Hb1.out _).mono ?_); rintro e w1 ⟨rfl, hb⟩; have HBB1 := Hd ((below_alloc w _).trans (hb.mono (by simp))); have kk1 := hb_below K0.out hb (by simp); have LX1 := Hd ((LX0.out _).under rfl hb); have HK1 := Hd (HK0.out.below hb); have K1 := Hd kk1; obtain ⟨r1_0, r1_1, r1_2, r1_3, r1_4⟩ := hb5 kk1; clear hb kk1))
     go_ret
     exact ⟨rfl, HBB1.out⟩
   · skip
     cases b2
     · go_enter Tryz.func32, Tryz.ntmps32
       go_wp2_with (go_at_call 82; ((with_reducible refine (Hb1.out _).mono ?_); rintro e w1 ⟨rfl, hb⟩; have HBB1 := Hd ((below_alloc w _).trans (hb.mono (by simp))); have kk1 := hb_below K0.out hb (by simp); have LX1 := Hd ((LX0.out _).under rfl hb); have HK1 := Hd (HK0.out.below hb); have K1 := Hd kk1; obtain ⟨r1_0, r1_1, r1_2, r1_3, r1_4⟩ := hb5 kk1; clear hb kk1))
       go_ret
       exact ⟨rfl, HBB1.out⟩
     · skip
       go_enter Tryz.func32, Tryz.ntmps32
       go_wp2_with (first
        | (go_at_call 82; ((with_reducible refine (Hb1.out _).mono ?_); rintro e w1 ⟨rfl, hb⟩; have HBB1 := Hd ((below_alloc w _).trans (hb.mono (by simp))); have kk1 := hb_below K0.out hb (by simp); have LX1 := Hd ((LX0.out _).under rfl hb); have HK1 := Hd (HK0.out.below hb); have K1 := Hd kk1; obtain ⟨r1_0, r1_1, r1_2, r1_3, r1_4⟩ := hb5 kk1; clear hb kk1))
        | (go_at_call 91; ((with_reducible refine (Hb4.out _ LX1.out HK1.out).mono ?_); rintro e w2 ⟨rfl, hb⟩; have HBB2 := Hd (HBB1.out.trans (hb.mono HBB1.out.size)); have kk2 := hb_below K1.out hb (hb_lt K1.out); have LX2 := Hd (LX1.out.under rfl hb); have HK2 := Hd (HK1.out.below hb); have K2 := Hd kk2; obtain ⟨r2_0, r2_1, r2_2, r2_3, r2_4⟩ := hb5 kk2; clear hb kk2)))
       go_ret
       exact ⟨rfl, HBB2.out⟩
 have d16 : (k == 16) = false := by simpa using hk16
 rw [show patB (d + 1) (.mk k p n N kids) = false from by simp only [patB, if_neg hk11, if_neg hk12, if_neg hk13, if_neg hk14, if_neg hk15, if_neg hk16]]
 clear hw hk hG hg hp hn hN' hd
 go_enter Tryz.func32, Tryz.ntmps32
 go_wp2
 go_ret
 exact ⟨rfl, below_alloc w _⟩
theorem pat_any (d : Nat) : Judge 31 (patB d) d := by
 induction d with
 | zero => intro v x W h; cases h
 | succ d ih => exact pat_next d ih
theorem patD_any (d : Nat) : Judge 32 (patB d) d := by
 induction d with
 | zero => intro v x W h; cases h
 | succ d ih => exact patD_next d ih
def letN (N : Int) : Int := if N = 1 then 0 else N
noncomputable def letB (f9 f13 : Tm → Bool) (p n : ByteArray) (N : Int) (kids : List Tm) : Bool := namedB 1 p n (letN N) && (zipB f9 f13 [34, 34] kids || zipB f9 f13 [34, 34, 28] kids)
theorem isLet_any (f9 f13 : Tm → Bool) (d : Nat) (k : Int) (p n : ByteArray) (N : Int) (q : Option Addr) (c : Nat) (kids : List Tm) (hp : p.size ≤ 100000) (hn : n.size ≤ 100000) (h9 : Judge 28 f9 d) (h13 : Judge 34 f13 d) (hg : ∀ x ∈ kids, Gd d x) (w : World) (hw : LxW w) (hk : KidsT w d (.slice q kids.length c) kids) :
 Calls Tryz.prog 95 #[tv k p n N (.slice q kids.length c)] w (Ans (letB f9 f13 p n N kids) w) := by
 unfold letB
 have HN := Hd (fun W hW => named_any 1 k p n (letN N) (by omega) (by omega) q kids.length c W hW)
 have H2 : RowKit.Hid (∀ g W, LxW W → KidsT W d (.slice q kids.length c) kids → (∀ j K, [34, 34][j]? = some K → W.cell? ⟨g, j, none⟩ = some (.func (.func K) #[] #[])) → g < W.heap.size → Calls Tryz.prog 77 #[.slice q kids.length c, .slice (some ⟨g, 0, none⟩) 2 2] W (Ans (zipB f9 f13 [34, 34] kids) W)) := Hd (fun g W hW hk hgc hgl => isOf_any f9 f13 [34, 34] (by simp) (by decide) d kids (fun _ => h9) (fun _ => h13) hg (.slice q kids.length c) g W hW hk hgc hgl)
 have H3 : RowKit.Hid (∀ g W, LxW W → KidsT W d (.slice q kids.length c) kids → (∀ j K, [34, 34, 28][j]? = some K → W.cell? ⟨g, j, none⟩ = some (.func (.func K) #[] #[])) → g < W.heap.size → Calls Tryz.prog 77 #[.slice q kids.length c, .slice (some ⟨g, 0, none⟩) 3 3] W (Ans (zipB f9 f13 [34, 34, 28] kids) W)) := Hd (fun g W hW hk hgc hgl => isOf_any f9 f13 [34, 34, 28] (by simp) (by decide) d kids (fun _ => h9) (fun _ => h13) hg (.slice q kids.length c) g W hW hk hgc hgl)
 have HW := Hd hw
 have HK := Hd hk
 generalize namedB 1 p n (letN N) = b1 at *
 generalize zipB f9 f13 [34, 34] kids = b2 at *
 generalize zipB f9 f13 [34, 34, 28] kids = b3 at *
 clear hw hk h9 h13 hg hp hn
 by_cases h1 : N = 1
 · subst h1
   have hl : letN 1 = 0 := rfl
   rw [hl] at HN
   clear hl
   go_enter Tryz.func95, Tryz.ntmps95
   go_upto_region 3 with (fail)
   have hk1 := hb_new w (.cells #[.int .i64 k, .string p, .string n, .int .i64 0, .slice q kids.length c] 24)
   have hbw := below_alloc w (.cells #[.int .i64 k, .string p, .string n, .int .i64 0, .slice q kids.length c] 24)
   generalize hW1 : w.alloc (.cells #[.int .i64 k, .string p, .string n, .int .i64 0, .slice q kids.length c] 24) = W1 at *
   have K0 := Hd hk1
   have HBW := Hd hbw
   have LX0 := Hd (HW.out.below hbw)
   have HK0 := Hd (HK.out.below hbw)
   obtain ⟨x0, x1, x2, x3, x4⟩ := hb5 hk1
   clear hW1 hbw hk1
   cases b1
   · go_wp2_with (go_at_call 76; ((with_reducible refine (HN.out _ LX0.out).mono ?_); rintro e w1 ⟨rfl, hb⟩; have HBB1 := Hd (HBW.out.trans (hb.mono HBW.out.size)); have kk1 := hb_below K0.out hb (hb_lt K0.out); have LX1 := Hd (LX0.out.under rfl hb); have HK1 := Hd (HK0.out.below hb); have K1 := Hd kk1; obtain ⟨r1_0, r1_1, r1_2, r1_3, r1_4⟩ := hb5 kk1; clear hb kk1))
     go_ret
     exact ⟨rfl, HBB1.out⟩
   · cases b2
     · go_wp2_with (first
        | (go_at_call 76; ((with_reducible refine (HN.out _ LX0.out).mono ?_); rintro e w1 ⟨rfl, hb⟩; have HBB1 := Hd (HBW.out.trans (hb.mono HBW.out.size)); have kk1 := hb_below K0.out hb (hb_lt K0.out); have LX1 := Hd (LX0.out.under rfl hb); have HK1 := Hd (HK0.out.below hb); have K1 := Hd kk1; obtain ⟨r1_0, r1_1, r1_2, r1_3, r1_4⟩ := hb5 kk1; clear hb kk1))
        | (go_at_call 77; ((with_reducible refine (H2.out _ _ (LX1.out.under rfl (below_alloc _ _)) (HK1.out.below (below_alloc _ _)) (two_funs _ 34 34 _) (by simp)).mono ?_); rintro e w2 ⟨rfl, hb⟩; have HBB2 := Hd ((HBB1.out.alloc HBB1.out.size _).trans (hb.mono Q56)); have kk2 := hb_below (hb_alloc K1.out _) hb (hb_lt (hb_alloc K1.out _)); have LX2 := Hd ((LX1.out.under rfl (below_alloc _ _)).under rfl hb); have HK2 := Hd ((HK1.out.below (below_alloc _ _)).below hb); have K2 := Hd kk2; obtain ⟨r2_0, r2_1, r2_2, r2_3, r2_4⟩ := hb5 kk2; clear hb kk2))
        | (go_at_call 77; ((with_reducible refine (H3.out _ _ (LX2.out.under rfl (below_alloc _ _)) (HK2.out.below (below_alloc _ _)) (three_funs _ 34 34 28 _) (by simp)).mono ?_); rintro e w3 ⟨rfl, hb⟩; have HBB3 := Hd ((HBB2.out.alloc HBB2.out.size _).trans (hb.mono (by have := HBB2.out.size; simp; omega))); clear hb)))
       go_ret
       exact ⟨rfl, HBB3.out⟩
     · go_wp2_with (first
        | (go_at_call 76; ((with_reducible refine (HN.out _ LX0.out).mono ?_); rintro e w1 ⟨rfl, hb⟩; have HBB1 := Hd (HBW.out.trans (hb.mono HBW.out.size)); have kk1 := hb_below K0.out hb (hb_lt K0.out); have LX1 := Hd (LX0.out.under rfl hb); have HK1 := Hd (HK0.out.below hb); have K1 := Hd kk1; obtain ⟨r1_0, r1_1, r1_2, r1_3, r1_4⟩ := hb5 kk1; clear hb kk1))
        | (go_at_call 77; ((with_reducible refine (H2.out _ _ (LX1.out.under rfl (below_alloc _ _)) (HK1.out.below (below_alloc _ _)) (two_funs _ 34 34 _) (by simp)).mono ?_); rintro e w2 ⟨rfl, hb⟩; have HBB2 := Hd ((HBB1.out.alloc HBB1.out.size _).trans (hb.mono Q56)); have kk2 := hb_below (hb_alloc K1.out _) hb (hb_lt (hb_alloc K1.out _)); have LX2 := Hd ((LX1.out.under rfl (below_alloc _ _)).under rfl hb); have HK2 := Hd ((HK1.out.below (below_alloc _ _)).below hb); have K2 := Hd kk2; obtain ⟨r2_0, r2_1, r2_2, r2_3, r2_4⟩ := hb5 kk2; clear hb kk2)))
       go_ret
       exact ⟨rfl, HBB2.out⟩
 · have hl : letN N = N := if_neg h1
   rw [hl] at HN
   have hd1 : (N == 1) = false := by simpa using h1
   clear hl h1
   go_enter Tryz.func95, Tryz.ntmps95
   go_upto_region 3 with (fail)
   have hk1 := hb_new w (.cells #[.int .i64 k, .string p, .string n, .int .i64 N, .slice q kids.length c] 24)
   have hbw := below_alloc w (.cells #[.int .i64 k, .string p, .string n, .int .i64 N, .slice q kids.length c] 24)
   generalize hW1 : w.alloc (.cells #[.int .i64 k, .string p, .string n, .int .i64 N, .slice q kids.length c] 24) = W1 at *
   have K0 := Hd hk1
   have HBW := Hd hbw
   have LX0 := Hd (HW.out.below hbw)
   have HK0 := Hd (HK.out.below hbw)
   obtain ⟨x0, x1, x2, x3, x4⟩ := hb5 hk1
   clear hW1 hbw hk1
   cases b1
   · go_wp2_with (go_at_call 76; ((with_reducible refine (HN.out _ LX0.out).mono ?_); rintro e w1 ⟨rfl, hb⟩; have HBB1 := Hd (HBW.out.trans (hb.mono HBW.out.size)); have kk1 := hb_below K0.out hb (hb_lt K0.out); have LX1 := Hd (LX0.out.under rfl hb); have HK1 := Hd (HK0.out.below hb); have K1 := Hd kk1; obtain ⟨r1_0, r1_1, r1_2, r1_3, r1_4⟩ := hb5 kk1; clear hb kk1))
     go_ret
     exact ⟨rfl, HBB1.out⟩
   · cases b2
     · go_wp2_with (first
        | (go_at_call 76; ((with_reducible refine (HN.out _ LX0.out).mono ?_); rintro e w1 ⟨rfl, hb⟩; have HBB1 := Hd (HBW.out.trans (hb.mono HBW.out.size)); have kk1 := hb_below K0.out hb (hb_lt K0.out); have LX1 := Hd (LX0.out.under rfl hb); have HK1 := Hd (HK0.out.below hb); have K1 := Hd kk1; obtain ⟨r1_0, r1_1, r1_2, r1_3, r1_4⟩ := hb5 kk1; clear hb kk1))
        | (go_at_call 77; ((with_reducible refine (H2.out _ _ (LX1.out.under rfl (below_alloc _ _)) (HK1.out.below (below_alloc _ _)) (two_funs _ 34 34 _) (by simp)).mono ?_); rintro e w2 ⟨rfl, hb⟩; have HBB2 := Hd ((HBB1.out.alloc HBB1.out.size _).trans (hb.mono Q56)); have kk2 := hb_below (hb_alloc K1.out _) hb (hb_lt (hb_alloc K1.out _)); have LX2 := Hd ((LX1.out.under rfl (below_alloc _ _)).under rfl hb); have HK2 := Hd ((HK1.out.below (below_alloc _ _)).below hb); have K2 := Hd kk2; obtain ⟨r2_0, r2_1, r2_2, r2_3, r2_4⟩ := hb5 kk2; clear hb kk2))
        | (go_at_call 77; ((with_reducible refine (H3.out _ _ (LX2.out.under rfl (below_alloc _ _)) (HK2.out.below (below_alloc _ _)) (three_funs _ 34 34 28 _) (by simp)).mono ?_); rintro e w3 ⟨rfl, hb⟩; have HBB3 := Hd ((HBB2.out.alloc HBB2.out.size _).trans (hb.mono (by have := HBB2.out.size; simp; omega))); clear hb)))
       go_ret
       exact ⟨rfl, HBB3.out⟩
     · go_wp2_with (first
        | (go_at_call 76; ((with_reducible refine (HN.out _ LX0.out).mono ?_); rintro e w1 ⟨rfl, hb⟩; have HBB1 := Hd (HBW.out.trans (hb.mono HBW.out.size)); have kk1 := hb_below K0.out hb (hb_lt K0.out); have LX1 := Hd (LX0.out.under rfl hb); have HK1 := Hd (HK0.out.below hb); have K1 := Hd kk1; obtain ⟨r1_0, r1_1, r1_2, r1_3, r1_4⟩ := hb5 kk1; clear hb kk1))
        | (go_at_call 77; ((with_reducible refine (H2.out _ _ (LX1.out.under rfl (below_alloc _ _)) (HK1.out.below (below_alloc _ _)) (two_funs _ 34 34 _) (by simp)).mono ?_); rintro e w2 ⟨rfl, hb⟩; have HBB2 := Hd ((HBB1.out.alloc HBB1.out.size _).trans (hb.mono Q56)); have kk2 := hb_below (hb_alloc K1.out _) hb (hb_lt (hb_alloc K1.out _)); have LX2 := Hd ((LX1.out.under rfl (below_alloc _ _)).under rfl hb); have HK2 := Hd ((HK1.out.below (below_alloc _ _)).below hb); have K2 := Hd kk2; obtain ⟨r2_0, r2_1, r2_2, r2_3, r2_4⟩ := hb5 kk2; clear hb kk2)))
       go_ret
       exact ⟨rfl, HBB2.out⟩
theorem place_any (i : Nat) (w : World) : Calls Tryz.prog 148 #[.int .i64 i] w fun e w' => e = .returned (.bool (i % 2 == 1)) ∧ w = w' := by
 go_enter Tryz.func148, Tryz.ntmps148
 go_wp2
 go_ret
 refine ⟨ret_bool ?_, rfl⟩
 rw [Bool.eq_iff_iff]
 simp
 omega
def altB (f11 f13 : Tm → Bool) : Nat → List Tm → Bool
 | _, [] => true
 | i, x :: r => (if i % 2 = 1 then f11 x else f13 x) && altB f11 f13 (i + 1) r
def altAt (f11 f13 : Tm → Bool) (i : Nat) (x : Tm) : Bool := if i % 2 = 1 then f11 x else f13 x
theorem alt_no {f11 f13 : Tm → Bool} : ∀ {kids : List Tm} {m i : Nat} {x : Tm}, kids[i]? = some x → altAt f11 f13 (m + i) x = false → altB f11 f13 m kids = false := by
 intro kids
 induction kids with
 | nil => intro m i x h; simp at h
 | cons y r ih =>
  intro m i x h hf
  cases i with
  | zero => simp at h; subst h; unfold altAt at hf; rw [Nat.add_zero] at hf; simp [altB, hf]
  | succ i =>
   simp at h
   have := ih (m := m + 1) h (by rw [show m + 1 + i = m + (i + 1) from by omega]; exact hf)
   simp [altB, this]
theorem alt_yes {f11 f13 : Tm → Bool} : ∀ {kids : List Tm} {m : Nat}, (∀ (i : Nat) x, kids[i]? = some x → altAt f11 f13 (m + i) x = true) → altB f11 f13 m kids = true := by
 intro kids
 induction kids with
 | nil => intro m _; rfl
 | cons y r ih =>
  intro m h
  have h0 := h 0 y rfl
  have := ih (m := m + 1) (fun i x hx => by rw [show m + 1 + i = m + (i + 1) from by omega]; exact h (i + 1) x (by simpa using hx))
  unfold altAt at h0
  rw [Nat.add_zero] at h0
  simp [altB, this, h0]
theorem alt_next {f11 f13 : Tm → Bool} {kids : List Tm} {k : Nat} {y : Tm} (h1 : kids[k]? = some y) (hP : ∀ (i : Nat) x, i < k → kids[i]? = some x → altAt f11 f13 i x = true) (h3 : altAt f11 f13 k y = true) : ∀ (i : Nat) x, i < k + 1 → kids[i]? = some x → altAt f11 f13 i x = true := by
 intro i x hi hx
 by_cases e : i = k
 · subst e
   rw [h1] at hx
   cases hx
   exact h3
 · exact hP i x (by omega) hx
def matchB (f11 f13 : Tm → Bool) (kids : List Tm) : Bool := (decide (3 ≤ kids.length)) && ((kids.length % 2 == 1) && altB f11 f13 0 kids)
theorem match_no {f11 f13 : Tm → Bool} {kids : List Tm} (h : altB f11 f13 0 kids = false) : matchB f11 f13 kids = false := by
 unfold matchB
 rw [h]
 simp
theorem isMatch_any (f11 f13 : Tm → Bool) (d : Nat) (kids : List Tm) (h11 : Judge 31 f11 d) (h13 : Judge 34 f13 d) (hG : ∀ x ∈ kids, Gd d x) (s : Value) (w : World) (hw : LxW w) (hk : KidsT w d s kids) :
 Calls Tryz.prog 96 #[s] w (Ans (matchB f11 f13 kids) w) := by
 obtain ⟨q, c, rfl, hm, hr⟩ := hk
 unfold maxLen at hm
 by_cases h3 : kids.length < 3
 · have d1 : decide ((kids.length : Int) < 3) = true := by simp; omega
   have HZ : RowKit.Hid (matchB f11 f13 kids = false) := Hd (by unfold matchB; rw [show decide (3 ≤ kids.length) = false from by simp; omega]; rfl)
   clear h11 h13 hr h3 hG hw
   go_enter Tryz.func96, Tryz.ntmps96
   go_wp2
   go_ret
   exact ⟨ret_bool HZ.out.symm, Below.refl _ _⟩
 have d1 : decide ((kids.length : Int) < 3) = false := by simp; omega
 by_cases hev : kids.length % 2 = 0
 · have d2 : (((kids.length : Int) % 2) == 0) = true := by rw [beq_iff_eq]; omega
   have HZ : RowKit.Hid (matchB f11 f13 kids = false) := Hd (by unfold matchB; rw [show (kids.length % 2 == 1) = false from by rw [beq_eq_false_iff_ne]; omega]; simp)
   clear h11 h13 hr h3 hG hw hev
   go_enter Tryz.func96, Tryz.ntmps96
   go_wp2
   go_ret
   exact ⟨ret_bool HZ.out.symm, Below.refl _ _⟩
 have d2 : (((kids.length : Int) % 2) == 0) = false := by rw [beq_eq_false_iff_ne]; omega
 have HLE := Hd h3
 have HOD := Hd hev
 clear h3 hev
 have HR := Hd hr
 unfold Judge at h11 h13
 have H11 := Hd h11
 have H13 := Hd h13
 have HW := Hd hw
 have HGD := Hd hG
 clear hr h11 h13 hw hG
 go_enter Tryz.func96, Tryz.ntmps96
 go_wp2
 go_loopw [17] (fun i wr => ∃ k : Nat, k ≤ kids.length ∧ i = .int .i64 k ∧ (∀ (j : Nat) x, j < k → kids[j]? = some x → altAt f11 f13 j x = true) ∧ Below w.heap.size w wr) (fun i _ => kids.length - (intOf i).toNat)
 case atStart => exact ⟨0, Nat.zero_le _, rfl, (fun j x hj => absurd hj (by omega)), Below.refl _ _⟩
 case round =>
   obtain ⟨k, hk, rfl, hP, hB⟩ := hrel
   have hzr := hB.size
   have HB := Hd hB
   have HP := Hd hP
   clear hP
   by_cases hlt : k < kids.length
   · have hx1 := List.getElem?_eq_getElem hlt
     generalize kids[k] = x at *
     obtain ⟨b1, o1, k1', p1', n1', N1', s1', hq1, ha1, ht1⟩ := HR.out k x hx1
     subst hq1
     obtain ⟨q3, l3, c3, hs3⟩ := ht1.spell
     subst hs3
     obtain ⟨x0, x1, x2, x3, x4⟩ := ha1.below hB ha1.lt
     have hxm : x ∈ kids := List.mem_of_getElem? hx1
     have HX := Hd hx1
     have hki : (k : Int) < (kids.length : Int) := by omega
     have hpar : k % 2 = 1 ∨ k % 2 = 0 := by omega
     rcases hpar with hpr | hpr
     · have HPL := Hd (fun W => (place_any k W).mono fun e w' (h : _ ∧ _) => (⟨by rw [h.1, show (k % 2 == 1) = true from by rw [beq_iff_eq]; omega], h.2⟩ : e = .returned (.bool true) ∧ W = w'))
       have HC : RowKit.Hid (∀ W, Below wr.heap.size wr W → Calls Tryz.prog 31 #[tv k1' p1' n1' N1' (.slice q3 l3 c3)] W (Ans (f11 x) W)) :=
        Hd fun W hW => H11.out _ x W ((ht1.below hB).below hW) (HGD.out x hxm) ((HW.out.below hB).below hW)
       have HAL : RowKit.Hid (altAt f11 f13 k x = f11 x) := Hd (by unfold altAt; rw [if_pos (by omega)])
       clear hx1 ht1 ha1 hB hxm hpr
       cases hf : f11 x
       · have HF := Hd hf
         rw [hf] at HC
         clear hf
         go_wp2_with (first
          | (go_at_call 148; (with_reducible refine (HPL.out _).mono ?_); rintro e w3 ⟨rfl, rfl⟩)
          | (go_at_call 31; ((with_reducible refine (HC.out _ (below_alloc wr _)).mono ?_); rintro e w3 ⟨rfl, hb⟩)))
         have HQ := Hd (HB.out.trans (((below_alloc wr _).trans (hb.mono (by simp))).mono hzr))
         go_ret
         exact ⟨ret_bool (match_no (alt_no (m := 0) HX.out (by rw [Nat.zero_add, HAL.out]; exact HF.out))).symm, HQ.out⟩
       · have HF := Hd hf
         rw [hf] at HC
         clear hf
         go_wp2_with (first
          | (go_at_call 148; (with_reducible refine (HPL.out _).mono ?_); rintro e w3 ⟨rfl, rfl⟩)
          | (go_at_call 31; ((with_reducible refine (HC.out _ (below_alloc wr _)).mono ?_); rintro e w3 ⟨rfl, hb⟩)))
         have HQ := Hd (HB.out.trans (((below_alloc wr _).trans (hb.mono (by simp))).mono hzr))
         go_roundw
         case rel => exact ⟨k + 1, by omega, by go_num, alt_next HX.out HP.out (HAL.out.trans HF.out), HQ.out⟩
         case measure => simp [intOf]; omega
     · have HPL := Hd (fun W => (place_any k W).mono fun e w' (h : _ ∧ _) => (⟨by rw [h.1, show (k % 2 == 1) = false from by rw [beq_eq_false_iff_ne]; omega], h.2⟩ : e = .returned (.bool false) ∧ W = w'))
       have HC : RowKit.Hid (∀ W, Below wr.heap.size wr W → Calls Tryz.prog 34 #[tv k1' p1' n1' N1' (.slice q3 l3 c3)] W (Ans (f13 x) W)) :=
        Hd fun W hW => H13.out _ x W ((ht1.below hB).below hW) (HGD.out x hxm) ((HW.out.below hB).below hW)
       have HAL : RowKit.Hid (altAt f11 f13 k x = f13 x) := Hd (by unfold altAt; rw [if_neg (by omega)])
       clear hx1 ht1 ha1 hB hxm hpr
       cases hf : f13 x
       · have HF := Hd hf
         rw [hf] at HC
         clear hf
         go_wp2_with (first
          | (go_at_call 148; (with_reducible refine (HPL.out _).mono ?_); rintro e w3 ⟨rfl, rfl⟩)
          | (go_at_call 34; ((with_reducible refine (HC.out _ (below_alloc wr _)).mono ?_); rintro e w3 ⟨rfl, hb⟩)))
         have HQ := Hd (HB.out.trans (((below_alloc wr _).trans (hb.mono (by simp))).mono hzr))
         go_ret
         exact ⟨ret_bool (match_no (alt_no (m := 0) HX.out (by rw [Nat.zero_add, HAL.out]; exact HF.out))).symm, HQ.out⟩
       · have HF := Hd hf
         rw [hf] at HC
         clear hf
         go_wp2_with (first
          | (go_at_call 148; (with_reducible refine (HPL.out _).mono ?_); rintro e w3 ⟨rfl, rfl⟩)
          | (go_at_call 34; ((with_reducible refine (HC.out _ (below_alloc wr _)).mono ?_); rintro e w3 ⟨rfl, hb⟩)))
         have HQ := Hd (HB.out.trans (((below_alloc wr _).trans (hb.mono (by simp))).mono hzr))
         go_roundw
         case rel => exact ⟨k + 1, by omega, by go_num, alt_next HX.out HP.out (HAL.out.trans HF.out), HQ.out⟩
         case measure => simp [intOf]; omega
   · obtain rfl : k = kids.length := by omega
     go_wp2
     go_ret
     refine ⟨ret_bool ?_, HB.out⟩
     unfold matchB
     rw [alt_yes (m := 0) (fun i x hx => by rw [Nat.zero_add]; exact HP.out i x (List.getElem?_eq_some_iff.1 hx).1 hx), show decide (3 ≤ kids.length) = true from by simp; have := HLE.out; omega, show (kids.length % 2 == 1) = true from by rw [beq_iff_eq]; have := HOD.out; omega]
     rfl
end Go.Proofs.YtmkjalnlldpdcaaGreatDoor
