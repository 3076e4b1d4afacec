/- Texts in a row: Jl Ws Wt Wu. -/
import Derived.Test.YtmkjalnlldpdcaaGreatDoorZT21
import Derived.Test.YtmkjalnlldpdcaaGreatDoorZT15
import Derived.Test.YtmkjalnlldpdcaaGreatDoorZT16
import Derived.Test.YtmkjalnlldpdcaaGreatDoorZT13
set_option maxHeartbeats 16000000
set_option maxRecDepth 100000
namespace Go.Proofs.YtmkjalnlldpdcaaGreatDoor
open Go.RowKit
set_option linter.unusedSimpArgs false
set_option linter.unusedVariables false
noncomputable def exprB : Nat → Tm → Bool
 | 0, _ => false
 | d + 1, .mk k p n N kids =>
  if k = 21 then qualB 1 p n N && (kids.length == 0)
  else if k = 22 then numB p n N && (kids.length == 0)
  else if k = 23 then namedB 5 p n N && (kids.length == 0)
  else if k = 24 then qualB 2 p n N && kids.all (exprB d)
  else if k = 25 then tupB (exprB d) p n N kids
  else if k = 26 then namedB 1 p n N && zipB (typeB d) (exprB d) [34] kids
  else if k = 27 then bareB p n N && zipB (typeB d) (exprB d) [34, 34] kids
  else if k = 28 then letB (typeB d) (exprB d) p n N kids
  else if k = 29 then bareB p n N && matchB (patB d) (exprB d) kids
  else if k = 30 then bareB p n N && zipB (typeB d) (exprB d) [34, 28] kids
  else false
theorem expr_next (d : Nat) (hd : Judge 34 (exprB d) d) : Judge 34 (exprB (d + 1)) (d + 1) := by
 intro v x w hT hG hw
 obtain ⟨d1, k, p, n, N, s, kids, e1, rfl, rfl, _, _, hk⟩ := hT.open
 obtain rfl : d = d1 := by omega
 obtain ⟨q, c, rfl, hm, hr⟩ := hk
 have hk : KidsT w d (.slice q kids.length c) kids := ⟨q, c, rfl, hm, hr⟩
 obtain ⟨hp, hn, hN', hg⟩ := hG
 have hG : True := trivial
 unfold maxLen at hm
 clear hT e1 hr
 by_cases hk21 : k = 21
 · subst hk21
   rw [show exprB (d + 1) (.mk 21 p n N kids) = (qualB 1 p n N && ((kids.length == 0))) from by simp [exprB]]
   have Hb1 := Hd (fun W hW => qualified_any 1 21 p n N (by omega) (by omega) q kids.length c W hW)
   have Hb2 := Hd (fun W => isOfNil_any q kids.length c (by omega) W)
   have hnew := hb_new w (.cells #[.int .i64 21, .string p, .string n, .int .i64 N, .slice q kids.length c] 24)
   have K0 := Hd hnew
   have LX0 := Hd (fun o => hw.under rfl (below_alloc w o))
   have HK0 := Hd (hk.below (below_alloc w (.cells #[.int .i64 21, .string p, .string n, .int .i64 N, .slice q kids.length c] 24)))
   generalize qualB 1 p n N = b1 at *
   generalize (kids.length == 0) = b2 at *
   clear hw hk hG hg hp hn hN' hd hnew
   cases b1
   · go_enter Tryz.func34, Tryz.ntmps34
     go_wp2_with (go_at_call 78; ((with_reducible refine (Hb1.out _ (LX0.out _)).mono ?_); rintro e w1 ⟨rfl, hb⟩; have HBB1 := Hd ((below_alloc w _).trans (hb.mono (by simp))); have kk1 := hb_below K0.out hb (by simp); have LX1 := Hd ((LX0.out _).under rfl hb); have HK1 := Hd (HK0.out.below hb); have K1 := Hd kk1; obtain ⟨r1_0, r1_1, r1_2, r1_3, r1_4⟩ := hb5 kk1; clear hb kk1))
     go_ret
     exact ⟨rfl, HBB1.out⟩
   · skip
     go_enter Tryz.func34, Tryz.ntmps34
     go_wp2_with (first
      | (go_at_call 78; ((with_reducible refine (Hb1.out _ (LX0.out _)).mono ?_); rintro e w1 ⟨rfl, hb⟩; have HBB1 := Hd ((below_alloc w _).trans (hb.mono (by simp))); have kk1 := hb_below K0.out hb (by simp); have LX1 := Hd ((LX0.out _).under rfl hb); have HK1 := Hd (HK0.out.below hb); have K1 := Hd kk1; obtain ⟨r1_0, r1_1, r1_2, r1_3, r1_4⟩ := hb5 kk1; clear hb kk1))
      | (go_at_call 77; ((with_reducible refine (Hb2.out _).mono ?_); rintro e w2 ⟨rfl, hb⟩; have HBB2 := Hd (HBB1.out.trans (hb.mono HBB1.out.size)); have kk2 := hb_below K1.out hb (hb_lt K1.out); have LX2 := Hd (LX1.out.under rfl hb); have HK2 := Hd (HK1.out.below hb); have K2 := Hd kk2; obtain ⟨r2_0, r2_1, r2_2, r2_3, r2_4⟩ := hb5 kk2; clear hb kk2)))
     go_ret
     exact ⟨rfl, HBB2.out⟩
 have d21 : (k == 21) = false := by simpa using hk21
 by_cases hk22 : k = 22
 · subst hk22
   rw [show exprB (d + 1) (.mk 22 p n N kids) = (numB p n N && ((kids.length == 0))) from by simp [exprB]]
   have Hb1 := Hd (fun W hW => isNumber_any 22 p n N hN' q kids.length c W hW)
   have Hb2 := Hd (fun W => isOfNil_any q kids.length c (by omega) W)
   have hnew := hb_new w (.cells #[.int .i64 22, .string p, .string n, .int .i64 N, .slice q kids.length c] 24)
   have K0 := Hd hnew
   have LX0 := Hd (fun o => hw.under rfl (below_alloc w o))
   have HK0 := Hd (hk.below (below_alloc w (.cells #[.int .i64 22, .string p, .string n, .int .i64 N, .slice q kids.length c] 24)))
   generalize numB p n N = b1 at *
   generalize (kids.length == 0) = b2 at *
   clear hw hk hG hg hp hn hN' hd hnew
   cases b1
   · go_enter Tryz.func34, Tryz.ntmps34
     go_wp2_with (go_at_call 89; ((with_reducible refine (Hb1.out _ (LX0.out _)).mono ?_); rintro e w1 ⟨rfl, hb⟩; have HBB1 := Hd ((below_alloc w _).trans (hb.mono (by simp))); have kk1 := hb_below K0.out hb (by simp); have LX1 := Hd ((LX0.out _).under rfl hb); have HK1 := Hd (HK0.out.below hb); have K1 := Hd kk1; obtain ⟨r1_0, r1_1, r1_2, r1_3, r1_4⟩ := hb5 kk1; clear hb kk1))
     go_ret
     exact ⟨rfl, HBB1.out⟩
   · skip
     go_enter Tryz.func34, Tryz.ntmps34
     go_wp2_with (first
      | (go_at_call 89; ((with_reducible refine (Hb1.out _ (LX0.out _)).mono ?_); rintro e w1 ⟨rfl, hb⟩; have HBB1 := Hd ((below_alloc w _).trans (hb.mono (by simp))); have kk1 := hb_below K0.out hb (by simp); have LX1 := Hd ((LX0.out _).under rfl hb); have HK1 := Hd (HK0.out.below hb); have K1 := Hd kk1; obtain ⟨r1_0, r1_1, r1_2, r1_3, r1_4⟩ := hb5 kk1; clear hb kk1))
      | (go_at_call 77; ((with_reducible refine (Hb2.out _).mono ?_); rintro e w2 ⟨rfl, hb⟩; have HBB2 := Hd (HBB1.out.trans (hb.mono HBB1.out.size)); have kk2 := hb_below K1.out hb (hb_lt K1.out); have LX2 := Hd (LX1.out.under rfl hb); have HK2 := Hd (HK1.out.below hb); have K2 := Hd kk2; obtain ⟨r2_0, r2_1, r2_2, r2_3, r2_4⟩ := hb5 kk2; clear hb kk2)))
     go_ret
     exact ⟨rfl, HBB2.out⟩
 have d22 : (k == 22) = false := by simpa using hk22
 by_cases hk23 : k = 23
 · subst hk23
   rw [show exprB (d + 1) (.mk 23 p n N kids) = (namedB 5 p n N && ((kids.length == 0))) from by simp [exprB]]
   have Hb1 := Hd (fun W hW => named_any 5 23 p n N (by omega) (by omega) q kids.length c W hW)
   have Hb2 := Hd (fun W => isOfNil_any q kids.length c (by omega) W)
   have hnew := hb_new w (.cells #[.int .i64 23, .string p, .string n, .int .i64 N, .slice q kids.length c] 24)
   have K0 := Hd hnew
   have LX0 := Hd (fun o => hw.under rfl (below_alloc w o))
   have HK0 := Hd (hk.below (below_alloc w (.cells #[.int .i64 23, .string p, .string n, .int .i64 N, .slice q kids.length c] 24)))
   generalize namedB 5 p n N = b1 at *
   generalize (kids.length == 0) = b2 at *
   clear hw hk hG hg hp hn hN' hd hnew
   cases b1
   · go_enter Tryz.func34, Tryz.ntmps34
     go_wp2_with (go_at_call 76; ((with_reducible refine (Hb1.out _ (LX0.out _)).mono ?_); rintro e w1 ⟨rfl, hb⟩; have HBB1 := Hd ((below_alloc w _).trans (hb.mono (by simp))); have kk1 := hb_below K0.out hb (by simp); have LX1 := Hd ((LX0.out _).under rfl hb); have HK1 := Hd (HK0.out.below hb); have K1 := Hd kk1; obtain ⟨r1_0, r1_1, r1_2, r1_3, r1_4⟩ := hb5 kk1; clear hb kk1))
     go_ret
     exact ⟨rfl, HBB1.out⟩
   · skip
     go_enter Tryz.func34, Tryz.ntmps34
     go_wp2_with (first
      | (go_at_call 76; ((with_reducible refine (Hb1.out _ (LX0.out _)).mono ?_); rintro e w1 ⟨rfl, hb⟩; have HBB1 := Hd ((below_alloc w _).trans (hb.mono (by simp))); have kk1 := hb_below K0.out hb (by simp); have LX1 := Hd ((LX0.out _).under rfl hb); have HK1 := Hd (HK0.out.below hb); have K1 := Hd kk1; obtain ⟨r1_0, r1_1, r1_2, r1_3, r1_4⟩ := hb5 kk1; clear hb kk1))
      | (go_at_call 77; ((with_reducible refine (Hb2.out _).mono ?_); rintro e w2 ⟨rfl, hb⟩; have HBB2 := Hd (HBB1.out.trans (hb.mono HBB1.out.size)); have kk2 := hb_below K1.out hb (hb_lt K1.out); have LX2 := Hd (LX1.out.under rfl hb); have HK2 := Hd (HK1.out.below hb); have K2 := Hd kk2; obtain ⟨r2_0, r2_1, r2_2, r2_3, r2_4⟩ := hb5 kk2; clear hb kk2)))
     go_ret
     exact ⟨rfl, HBB2.out⟩
 have d23 : (k == 23) = false := by simpa using hk23
 by_cases hk24 : k = 24
 · subst hk24
   rw [show exprB (d + 1) (.mk 24 p n N kids) = (qualB 2 p n N && (kids.all (exprB d))) from by simp [exprB]]
   have Hb1 := Hd (fun W hW => qualified_any 2 24 p n N (by omega) (by omega) q kids.length c W hW)
   have Hb2 := Hd (fun W hW hk => areAll_any13 (exprB d) d kids hd hg (.slice q kids.length c) W hW hk)
   have hnew := hb_new w (.cells #[.int .i64 24, .string p, .string n, .int .i64 N, .slice q kids.length c] 24)
   have K0 := Hd hnew
   have LX0 := Hd (fun o => hw.under rfl (below_alloc w o))
   have HK0 := Hd (hk.below (below_alloc w (.cells #[.int .i64 24, .string p, .string n, .int .i64 N, .slice q kids.length c] 24)))
   generalize qualB 2 p n N = b1 at *
   generalize kids.all (exprB d) = b2 at *
   clear hw hk hG hg hp hn hN' hd hnew
   cases b1
   · go_enter Tryz.func34, Tryz.ntmps34
     go_wp2_with (go_at_call 78; ((with_reducible refine (Hb1.out _ (LX0.out _)).mono ?_); rintro e w1 ⟨rfl, hb⟩; have HBB1 := Hd ((below_alloc w _).trans (hb.mono (by simp))); have kk1 := hb_below K0.out hb (by simp); have LX1 := Hd ((LX0.out _).under rfl hb); have HK1 := Hd (HK0.out.below hb); have K1 := Hd kk1; obtain ⟨r1_0, r1_1, r1_2, r1_3, r1_4⟩ := hb5 kk1; clear hb kk1))
     go_ret
     exact ⟨rfl, HBB1.out⟩
   · skip
     go_enter Tryz.func34, Tryz.ntmps34
     go_wp2_with (first
      | (go_at_call 78; ((with_reducible refine (Hb1.out _ (LX0.out _)).mono ?_); rintro e w1 ⟨rfl, hb⟩; have HBB1 := Hd ((below_alloc w _).trans (hb.mono (by simp))); have kk1 := hb_below K0.out hb (by simp); have LX1 := Hd ((LX0.out _).under rfl hb); have HK1 := Hd (HK0.out.below hb); have K1 := Hd kk1; obtain ⟨r1_0, r1_1, r1_2, r1_3, r1_4⟩ := hb5 kk1; clear hb kk1))
      | (go_at_call 79; ((with_reducible refine (Hb2.out _ LX1.out HK1.out).mono ?_); rintro e w2 ⟨rfl, hb⟩; have HBB2 := Hd (HBB1.out.trans (hb.mono HBB1.out.size)); have kk2 := hb_below K1.out hb (hb_lt K1.out); have LX2 := Hd (LX1.out.under rfl hb); have HK2 := Hd (HK1.out.below hb); have K2 := Hd kk2; obtain ⟨r2_0, r2_1, r2_2, r2_3, r2_4⟩ := hb5 kk2; clear hb kk2)))
     go_ret
     exact ⟨rfl, HBB2.out⟩
 have d24 : (k == 24) = false := by simpa using hk24
 by_cases hk25 : k = 25
 · subst hk25
   rw [show exprB (d + 1) (.mk 25 p n N kids) = (tupB (exprB d) p n N kids) from by simp [exprB]]
   have Hb1 := Hd (fun W hW hk => isTuple_any13 (exprB d) d 25 p n N q c kids hd hg W hW hk)
   have hnew := hb_new w (.cells #[.int .i64 25, .string p, .string n, .int .i64 N, .slice q kids.length c] 24)
   have K0 := Hd hnew
   have LX0 := Hd (fun o => hw.under rfl (below_alloc w o))
   have HK0 := Hd (hk.below (below_alloc w (.cells #[.int .i64 25, .string p, .string n, .int .i64 N, .slice q kids.length c] 24)))
   generalize tupB (exprB d) p n N kids = b1 at *
   clear hw hk hG hg hp hn hN' hd hnew
   go_enter Tryz.func34, Tryz.ntmps34
   go_wp2_with (go_at_call 81; ((with_reducible refine (Hb1.out _ (LX0.out _) HK0.out).mono ?_); rintro e w1 ⟨rfl, hb⟩; have HBB1 := Hd ((below_alloc w _).trans (hb.mono (by simp))); have kk1 := hb_below K0.out hb (by simp); have LX1 := Hd ((LX0.out _).under rfl hb); have HK1 := Hd (HK0.out.below hb); have K1 := Hd kk1; obtain ⟨r1_0, r1_1, r1_2, r1_3, r1_4⟩ := hb5 kk1; clear hb kk1))
   go_ret
   exact ⟨rfl, HBB1.out⟩
 have d25 : (k == 25) = false := by simpa using hk25
 by_cases hk26 : k = 26
 · subst hk26
   rw [show exprB (d + 1) (.mk 26 p n N kids) = (namedB 1 p n N && (zipB (typeB d) (exprB d) [34] kids)) from by simp [exprB]]
   have Hb1 := Hd (fun W hW => named_any 1 26 p n N (by omega) (by omega) q kids.length c W hW)
   have Hb2 : RowKit.Hid (∀ g W, LxW W → KidsT W d (.slice q kids.length c) kids → (∀ j K, [34][j]? = some K → W.cell? ⟨g, j, none⟩ = some (.func (.func K) #[] #[])) → g < W.heap.size → Calls Tryz.prog 77 #[.slice q kids.length c, .slice (some ⟨g, 0, none⟩) 1 1] W (Ans (zipB (typeB d) (exprB d) [34] kids) W)) := Hd (fun g W hW hk hgc hgl => isOf_any (typeB d) (exprB d) [34] (by simp) (by decide) d kids (fun _ => type_any d) (fun _ => hd) hg (.slice q kids.length c) g W hW hk hgc hgl)
   have hnew := hb_new w (.cells #[.int .i64 26, .string p, .string n, .int .i64 N, .slice q kids.length c] 24)
   have K0 := Hd hnew
   have LX0 := Hd (fun o => hw.under rfl (below_alloc w o))
   have HK0 := Hd (hk.below (below_alloc w (.cells #[.int .i64 26, .string p, .string n, .int .i64 N, .slice q kids.length c] 24)))
   generalize namedB 1 p n N = b1 at *
   generalize zipB (typeB d) (exprB d) [34] kids = b2 at *
   clear hw hk hG hg hp hn hN' hd hnew
   cases b1
   · go_enter Tryz.func34, Tryz.ntmps34
     go_wp2_with (go_at_call 76; ((with_reducible refine (Hb1.out _ (LX0.out _)).mono ?_); rintro e w1 ⟨rfl, hb⟩; have HBB1 := Hd ((below_alloc w _).trans (hb.mono (by simp))); have kk1 := hb_below K0.out hb (by simp); have LX1 := Hd ((LX0.out _).under rfl hb); have HK1 := Hd (HK0.out.below hb); have K1 := Hd kk1; obtain ⟨r1_0, r1_1, r1_2, r1_3, r1_4⟩ := hb5 kk1; clear hb kk1))
     go_ret
     exact ⟨rfl, HBB1.out⟩
   · skip
     go_enter Tryz.func34, Tryz.ntmps34
     go_wp2_with (first
      | (go_at_call 76; ((with_reducible refine (Hb1.out _ (LX0.out _)).mono ?_); rintro e w1 ⟨rfl, hb⟩; have HBB1 := Hd ((below_alloc w _).trans (hb.mono (by simp))); have kk1 := hb_below K0.out hb (by simp); have LX1 := Hd ((LX0.out _).under rfl hb); have HK1 := Hd (HK0.out.below hb); have K1 := Hd kk1; obtain ⟨r1_0, r1_1, r1_2, r1_3, r1_4⟩ := hb5 kk1; clear hb kk1))
      | (go_at_call 77; ((with_reducible refine (Hb2.out _ _ (LX1.out.under rfl (below_alloc _ _)) (HK1.out.below (below_alloc _ _)) (one_fun _ 34 _) (by simp)).mono ?_); rintro e w2 ⟨rfl, hb⟩; have HBB2 := Hd ((HBB1.out.alloc HBB1.out.size _).trans (hb.mono Q56)); clear hb)))
     go_ret
     exact ⟨rfl, HBB2.out⟩
 have d26 : (k == 26) = false := by simpa using hk26
 by_cases hk27 : k = 27
 · subst hk27
   rw [show exprB (d + 1) (.mk 27 p n N kids) = (bareB p n N && (zipB (typeB d) (exprB d) [34, 34] kids)) from by simp [exprB]]
   have Hb1 := Hd (fun W => bare_any 27 p n N q kids.length c W)
   have Hb2 : RowKit.Hid (∀ g W, LxW W → KidsT W d (.slice q kids.length c) kids → (∀ j K, [34, 34][j]? = some K → W.cell? ⟨g, j, none⟩ = some (.func (.func K) #[] #[])) → g < W.heap.size → Calls Tryz.prog 77 #[.slice q kids.length c, .slice (some ⟨g, 0, none⟩) 2 2] W (Ans (zipB (typeB d) (exprB d) [34, 34] kids) W)) := Hd (fun g W hW hk hgc hgl => isOf_any (typeB d) (exprB d) [34, 34] (by simp) (by decide) d kids (fun _ => type_any d) (fun _ => hd) hg (.slice q kids.length c) g W hW hk hgc hgl)
   have hnew := hb_new w (.cells #[.int .i64 27, .string p, .string n, .int .i64 N, .slice q kids.length c] 24)
   have K0 := Hd hnew
   have LX0 := Hd (fun o => hw.under rfl (below_alloc w o))
   have HK0 := Hd (hk.below (below_alloc w (.cells #[.int .i64 27, .string p, .string n, .int .i64 N, .slice q kids.length c] 24)))
   generalize bareB p n N = b1 at *
   generalize zipB (typeB d) (exprB d) [34, 34] kids = b2 at *
   clear hw hk hG hg hp hn hN' hd hnew
   cases b1
   · go_enter Tryz.func34, Tryz.ntmps34
     go_wp2_with (go_at_call 80; ((with_reducible refine (Hb1.out _).mono ?_); rintro e w1 ⟨rfl, hb⟩; have HBB1 := Hd ((below_alloc w _).trans (hb.mono (by simp))); have kk1 := hb_below K0.out hb (by simp); have LX1 := Hd ((LX0.out _).under rfl hb); have HK1 := Hd (HK0.out.below hb); have K1 := Hd kk1; obtain ⟨r1_0, r1_1, r1_2, r1_3, r1_4⟩ := hb5 kk1; clear hb kk1))
     go_ret
     exact ⟨rfl, HBB1.out⟩
   · skip
     go_enter Tryz.func34, Tryz.ntmps34
     go_wp2_with (first
      | (go_at_call 80; ((with_reducible refine (Hb1.out _).mono ?_); rintro e w1 ⟨rfl, hb⟩; have HBB1 := Hd ((below_alloc w _).trans (hb.mono (by simp))); have kk1 := hb_below K0.out hb (by simp); have LX1 := Hd ((LX0.out _).under rfl hb); have HK1 := Hd (HK0.out.below hb); have K1 := Hd kk1; obtain ⟨r1_0, r1_1, r1_2, r1_3, r1_4⟩ := hb5 kk1; clear hb kk1))
      | (go_at_call 77; ((with_reducible refine (Hb2.out _ _ (LX1.out.under rfl (below_alloc _ _)) (HK1.out.below (below_alloc _ _)) (two_funs _ 34 34 _) (by simp)).mono ?_); rintro e w2 ⟨rfl, hb⟩; have HBB2 := Hd ((HBB1.out.alloc HBB1.out.size _).trans (hb.mono Q56)); clear hb)))
     go_ret
     exact ⟨rfl, HBB2.out⟩
 have d27 : (k == 27) = false := by simpa using hk27
 by_cases hk28 : k = 28
 · subst hk28
   rw [show exprB (d + 1) (.mk 28 p n N kids) = (letB (typeB d) (exprB d) p n N kids) from by simp [exprB]]
   have Hb1 := Hd (fun W hW hk => isLet_any (typeB d) (exprB d) d 28 p n N q c kids hp hn (type_any d) hd hg W hW hk)
   have hnew := hb_new w (.cells #[.int .i64 28, .string p, .string n, .int .i64 N, .slice q kids.length c] 24)
   have K0 := Hd hnew
   have LX0 := Hd (fun o => hw.under rfl (below_alloc w o))
   have HK0 := Hd (hk.below (below_alloc w (.cells #[.int .i64 28, .string p, .string n, .int .i64 N, .slice q kids.length c] 24)))
   generalize letB (typeB d) (exprB d) p n N kids = b1 at *
   clear hw hk hG hg hp hn hN' hd hnew
   go_enter Tryz.func34, Tryz.ntmps34
   go_wp2_with (go_at_call 95; ((with_reducible refine (Hb1.out _ (LX0.out _) HK0.out).mono ?_); rintro e w1 ⟨rfl, hb⟩; have HBB1 := Hd ((below_alloc w _).trans (hb.mono (by simp))); have kk1 := hb_below K0.out hb (by simp); have LX1 := Hd ((LX0.out _).under rfl hb); have HK1 := Hd (HK0.out.below hb); have K1 := Hd kk1; obtain ⟨r1_0, r1_1, r1_2, r1_3, r1_4⟩ := hb5 kk1; clear hb kk1))
   go_ret
   exact ⟨rfl, HBB1.out⟩
 have d28 : (k == 28) = false := by simpa using hk28
 by_cases hk29 : k = 29
 · subst hk29
   rw [show exprB (d + 1) (.mk 29 p n N kids) = (bareB p n N && (matchB (patB d) (exprB d) kids)) from by simp [exprB]]
   have Hb1 := Hd (fun W => bare_any 29 p n N q kids.length c W)
   have Hb2 := Hd (fun W hW hk => isMatch_any (patB d) (exprB d) d kids (pat_any d) hd hg (.slice q kids.length c) W hW hk)
   have hnew := hb_new w (.cells #[.int .i64 29, .string p, .string n, .int .i64 N, .slice q kids.length c] 24)
   have K0 := Hd hnew
   have LX0 := Hd (fun o => hw.under rfl (below_alloc w o))
   have HK0 := Hd (hk.below (below_alloc w (.cells #[.int .i64 29, .string p, .string n, .int .i64 N, .slice q kids.length c] 24)))
   generalize bareB p n N = b1 at *
   generalize matchB (patB d) (exprB d) kids = b2 at *
   clear hw hk hG hg hp hn hN' hd hnew
   cases b1
   · go_enter Tryz.func34, Tryz.ntmps34
     go_wp2_with (go_at_call 80; ((with_reducible refine (Hb1.out _).mono ?_); rintro e w1 ⟨rfl, hb⟩; have HBB1 := Hd ((below_alloc w _).trans (hb.mono (by simp))); have kk1 := hb_below K0.out hb (by simp); have LX1 := Hd ((LX0.out _).under rfl hb); have HK1 := Hd (HK0.out.below hb); have K1 := Hd kk1; obtain ⟨r1_0, r1_1, r1_2, r1_3, r1_4⟩ := hb5 kk1; clear hb kk1))
     go_ret
     exact ⟨rfl, HBB1.out⟩
   · skip
     go_enter Tryz.func34, Tryz.ntmps34
     go_wp2_with (first
      | (go_at_call 80; ((with_reducible refine (Hb1.out _).mono ?_); rintro e w1 ⟨rfl, hb⟩; have HBB1 := Hd ((below_alloc w _).trans (hb.mono (by simp))); have kk1 := hb_below K0.out hb (by simp); have LX1 := Hd ((LX0.out _).under rfl hb); have HK1 := Hd (HK0.out.below hb); have K1 := Hd kk1; obtain ⟨r1_0, r1_1, r1_2, r1_3, r1_4⟩ := hb5 kk1; clear hb kk1))
      | (go_at_call 96; ((with_reducible refine (Hb2.out _ LX1.out HK1.out).mono ?_); rintro e w2 ⟨rfl, hb⟩; have HBB2 := Hd (HBB1.out.trans (hb.mono HBB1.out.size)); have kk2 := hb_below K1.out hb (hb_lt K1.out); have LX2 := Hd (LX1.out.under rfl hb); have HK2 := Hd (HK1.out.below hb); have K2 := Hd kk2; obtain ⟨r2_0, r2_1, r2_2, r2_3, r2_4⟩ := hb5 kk2; clear hb kk2)))
     go_ret
     exact ⟨rfl, HBB2.out⟩
 have d29 : (k == 29) = false := by simpa using hk29
 by_cases hk30 : k = 30
 · subst hk30
   rw [show exprB (d + 1) (.mk 30 p n N kids) = (bareB p n N && (zipB (typeB d) (exprB d) [34, 28] kids)) from by simp [exprB]]
   have Hb1 := Hd (fun W => bare_any 30 p n N q kids.length c W)
   have Hb2 : RowKit.Hid (∀ g W, LxW W → KidsT W d (.slice q kids.length c) kids → (∀ j K, [34, 28][j]? = some K → W.cell? ⟨g, j, none⟩ = some (.func (.func K) #[] #[])) → g < W.heap.size → Calls Tryz.prog 77 #[.slice q kids.length c, .slice (some ⟨g, 0, none⟩) 2 2] W (Ans (zipB (typeB d) (exprB d) [34, 28] kids) W)) := Hd (fun g W hW hk hgc hgl => isOf_any (typeB d) (exprB d) [34, 28] (by simp) (by decide) d kids (fun _ => type_any d) (fun _ => hd) hg (.slice q kids.length c) g W hW hk hgc hgl)
   have hnew := hb_new w (.cells #[.int .i64 30, .string p, .string n, .int .i64 N, .slice q kids.length c] 24)
   have K0 := Hd hnew
   have LX0 := Hd (fun o => hw.under rfl (below_alloc w o))
   have HK0 := Hd (hk.below (below_alloc w (.cells #[.int .i64 30, .string p, .string n, .int .i64 N, .slice q kids.length c] 24)))
   generalize bareB p n N = b1 at *
   generalize zipB (typeB d) (exprB d) [34, 28] kids = b2 at *
   clear hw hk hG hg hp hn hN' hd hnew
   cases b1
   · go_enter Tryz.func34, Tryz.ntmps34
     go_wp2_with (go_at_call 80; ((with_reducible refine (Hb1.out _).mono ?_); rintro e w1 ⟨rfl, hb⟩; have HBB1 := Hd ((below_alloc w _).trans (hb.mono (by simp))); have kk1 := hb_below K0.out hb (by simp); have LX1 := Hd ((LX0.out _).under rfl hb); have HK1 := Hd (HK0.out.below hb); have K1 := Hd kk1; obtain ⟨r1_0, r1_1, r1_2, r1_3, r1_4⟩ := hb5 kk1; clear hb kk1))
     go_ret
     exact ⟨rfl, HBB1.out⟩
   · skip
     go_enter Tryz.func34, Tryz.ntmps34
     go_wp2_with (first
      | (go_at_call 80; ((with_reducible refine (Hb1.out _).mono ?_); rintro e w1 ⟨rfl, hb⟩; have HBB1 := Hd ((below_alloc w _).trans (hb.mono (by simp))); have kk1 := hb_below K0.out hb (by simp); have LX1 := Hd ((LX0.out _).under rfl hb); have HK1 := Hd (HK0.out.below hb); have K1 := Hd kk1; obtain ⟨r1_0, r1_1, r1_2, r1_3, r1_4⟩ := hb5 kk1; clear hb kk1))
      | (go_at_call 77; ((with_reducible refine (Hb2.out _ _ (LX1.out.under rfl (below_alloc _ _)) (HK1.out.below (below_alloc _ _)) (two_funs _ 34 28 _) (by simp)).mono ?_); rintro e w2 ⟨rfl, hb⟩; have HBB2 := Hd ((HBB1.out.alloc HBB1.out.size _).trans (hb.mono Q56)); clear hb)))
     go_ret
     exact ⟨rfl, HBB2.out⟩
 have d30 : (k == 30) = false := by simpa using hk30
 rw [show exprB (d + 1) (.mk k p n N kids) = false from by simp only [exprB, if_neg hk21, if_neg hk22, if_neg hk23, if_neg hk24, if_neg hk25, if_neg hk26, if_neg hk27, if_neg hk28, if_neg hk29, if_neg hk30]]
 clear hw hk hG hg hp hn hN' hd
 go_enter Tryz.func34, Tryz.ntmps34
 go_wp2
 go_ret
 exact ⟨rfl, below_alloc w _⟩
theorem expr_any (d : Nat) : Judge 34 (exprB d) d := by
 induction d with
 | zero => intro v x W h; cases h
 | succ d ih => exact expr_next d ih
theorem tell28_any (d : Nat) (k : Int) (p n : ByteArray) (N : Int) (q : Option Addr) (c ln : Nat) (x : Tm) (w : World) (h : IsC w d (tv k p n N (.slice q ln c)) x) (hG : Gd d x) (hw : LxW w) (hok : typeB d x = true → WfT d x ∧ txt d x ≠ [] ∧ (txt d x).length ≤ 1000000000) :
 Calls Tryz.prog 27 #[.func (.func 28) #[] #[], tv k p n N (.slice q ln c)] w fun e w' => e = .returned (.string (if typeB d x = true then ofL (txt d x) else ⟨#[]⟩)) ∧ Below w.heap.size w w' := by
 have hb1 := below_alloc w (.cells #[.int .i64 k, .string p, .string n, .int .i64 N, .slice q ln c] 24)
 have HI := Hd (type_any d _ x _ (h.below hb1).isT hG (hw.below hb1))
 have HX := Hd h
 have HW := Hd hw
 have HOK := Hd hok
 have HN := Hd (hb_new w (.cells #[.int .i64 k, .string p, .string n, .int .i64 N, .slice q ln c] 24))
 clear h hw hG hok hb1
 cases hB : typeB d x
 · rw [hB] at HI
   go_enter Tryz.func27, Tryz.ntmps27
   go_wp2_with (go_at_call 28; refine HI.out.mono ?_; rintro e w1 ⟨rfl, k1⟩)
   go_ret
   exact ⟨rfl, (below_alloc w _).trans (k1.mono (by simp))⟩
 · rw [hB] at HI
   obtain ⟨hwf, hne, hlen⟩ := HOK.out hB
   have HWF := Hd hwf
   have HNE := Hd hne
   clear hwf hne HOK
   go_enter Tryz.func27, Tryz.ntmps27
   go_upto_region 3 with (go_at_call 28; refine HI.out.mono ?_; rintro e w1 ⟨rfl, k1⟩)
   have hbw : Below w.heap.size w w1 := (below_alloc w _).trans (k1.mono (by simp))
   have m1 := hb_below HN.out k1 (by simp)
   have HBW := Hd hbw
   have C0 : RowKit.Hid (Cx w1 w1.heap.size [] (w1.alloc (.cells #[.pointer none, .slice none 0 0] 76))) := Hd ⟨Lib.fresh_isBuilder 76 5 w1, below_alloc w1 _, HW.out.below hbw⟩
   have h1 : RowKit.Hid (Calls Tryz.prog 75 #[wp w1.heap.size, tv k p n N (.slice q ln c)] (w1.alloc (.cells #[.pointer none, .slice none 0 0] 76)) (Tells w1 w1.heap.size [] (txt d x) (w1.alloc (.cells #[.pointer none, .slice none 0 0] 76)))) := Hd (term_any d w1 _ [] _ x _ C0.out (HX.out.below hbw) HWF.out (by simpa using hlen))
   have ma := hb_alloc m1 (.cells #[.pointer none, .slice none 0 0] 76)
   obtain ⟨b0, b1, b2, b3, b4⟩ := hb5 ma
   generalize hTe : txt d x = T at *
   have HTe := Hd hTe
   clear hTe
   clear m1 ma k1 hbw
   go_wp2_with (first
    | (go_at_call 75; refine h1.out.mono ?_; rintro e w2 ⟨rfl, k2⟩; have C2 := Hd (C0.out.wr k2); clear k2)
    | (go_at_call 48; refine (str_any C2.out.bld (by simpa using HNE.out) (by simpa using hlen)).mono ?_; rintro e w3 ⟨rfl, k3⟩))
   go_ret
   refine ⟨by simp [ofL, HTe.out], HBW.out.trans (Below.mono ?_ HBW.out.size)⟩
   exact C2.out.bel.trans k3
theorem print9_any (d : Nat) (k : Int) (p n : ByteArray) (N : Int) (q : Option Addr) (c ln : Nat) (x : Tm) (w : World) (h : IsC w d (tv k p n N (.slice q ln c)) x) (hG : Gd d x) (hw : LxW w) (hok : typeB d x = true → WfT d x ∧ txt d x ≠ [] ∧ (txt d x).length ≤ 1000000000) :
 Calls Tryz.prog 9 #[tv k p n N (.slice q ln c)] w fun e w' => e = .returned (.string (if typeB d x = true then ofL (txt d x) else ⟨#[]⟩)) ∧ Below w.heap.size w w' := by
 have hb1 := below_alloc w (.cells #[.int .i64 k, .string p, .string n, .int .i64 N, .slice q ln c] 24)
 have HI := Hd (tell28_any d k p n N q c ln x _ (h.below hb1) hG (hw.below hb1) hok)
 clear h hw hG hok hb1
 generalize (if typeB d x = true then ofL (txt d x) else ⟨#[]⟩) = S at *
 go_enter Tryz.func9, Tryz.ntmps9
 go_wp2_with (go_at_call 27; refine HI.out.mono ?_; rintro e w1 ⟨rfl, k1⟩)
 go_ret
 exact ⟨rfl, (below_alloc w _).trans (k1.mono (by simp))⟩
theorem tell31_any (d : Nat) (k : Int) (p n : ByteArray) (N : Int) (q : Option Addr) (c ln : Nat) (x : Tm) (w : World) (h : IsC w d (tv k p n N (.slice q ln c)) x) (hG : Gd d x) (hw : LxW w) (hok : patB d x = true → WfT d x ∧ txt d x ≠ [] ∧ (txt d x).length ≤ 1000000000) :
 Calls Tryz.prog 27 #[.func (.func 31) #[] #[], tv k p n N (.slice q ln c)] w fun e w' => e = .returned (.string (if patB d x = true then ofL (txt d x) else ⟨#[]⟩)) ∧ Below w.heap.size w w' := by
 have hb1 := below_alloc w (.cells #[.int .i64 k, .string p, .string n, .int .i64 N, .slice q ln c] 24)
 have HI := Hd (pat_any d _ x _ (h.below hb1).isT hG (hw.below hb1))
 have HX := Hd h
 have HW := Hd hw
 have HOK := Hd hok
 have HN := Hd (hb_new w (.cells #[.int .i64 k, .string p, .string n, .int .i64 N, .slice q ln c] 24))
 clear h hw hG hok hb1
 cases hB : patB d x
 · rw [hB] at HI
   go_enter Tryz.func27, Tryz.ntmps27
   go_wp2_with (go_at_call 31; refine HI.out.mono ?_; rintro e w1 ⟨rfl, k1⟩)
   go_ret
   exact ⟨rfl, (below_alloc w _).trans (k1.mono (by simp))⟩
 · rw [hB] at HI
   obtain ⟨hwf, hne, hlen⟩ := HOK.out hB
   have HWF := Hd hwf
   have HNE := Hd hne
   clear hwf hne HOK
   go_enter Tryz.func27, Tryz.ntmps27
   go_upto_region 3 with (go_at_call 31; refine HI.out.mono ?_; rintro e w1 ⟨rfl, k1⟩)
   have hbw : Below w.heap.size w w1 := (below_alloc w _).trans (k1.mono (by simp))
   have m1 := hb_below HN.out k1 (by simp)
   have HBW := Hd hbw
   have C0 : RowKit.Hid (Cx w1 w1.heap.size [] (w1.alloc (.cells #[.pointer none, .slice none 0 0] 76))) := Hd ⟨Lib.fresh_isBuilder 76 5 w1, below_alloc w1 _, HW.out.below hbw⟩
   have h1 : RowKit.Hid (Calls Tryz.prog 75 #[wp w1.heap.size, tv k p n N (.slice q ln c)] (w1.alloc (.cells #[.pointer none, .slice none 0 0] 76)) (Tells w1 w1.heap.size [] (txt d x) (w1.alloc (.cells #[.pointer none, .slice none 0 0] 76)))) := Hd (term_any d w1 _ [] _ x _ C0.out (HX.out.below hbw) HWF.out (by simpa using hlen))
   have ma := hb_alloc m1 (.cells #[.pointer none, .slice none 0 0] 76)
   obtain ⟨b0, b1, b2, b3, b4⟩ := hb5 ma
   generalize hTe : txt d x = T at *
   have HTe := Hd hTe
   clear hTe
   clear m1 ma k1 hbw
   go_wp2_with (first
    | (go_at_call 75; refine h1.out.mono ?_; rintro e w2 ⟨rfl, k2⟩; have C2 := Hd (C0.out.wr k2); clear k2)
    | (go_at_call 48; refine (str_any C2.out.bld (by simpa using HNE.out) (by simpa using hlen)).mono ?_; rintro e w3 ⟨rfl, k3⟩))
   go_ret
   refine ⟨by simp [ofL, HTe.out], HBW.out.trans (Below.mono ?_ HBW.out.size)⟩
   exact C2.out.bel.trans k3
theorem print11_any (d : Nat) (k : Int) (p n : ByteArray) (N : Int) (q : Option Addr) (c ln : Nat) (x : Tm) (w : World) (h : IsC w d (tv k p n N (.slice q ln c)) x) (hG : Gd d x) (hw : LxW w) (hok : patB d x = true → WfT d x ∧ txt d x ≠ [] ∧ (txt d x).length ≤ 1000000000) :
 Calls Tryz.prog 11 #[tv k p n N (.slice q ln c)] w fun e w' => e = .returned (.string (if patB d x = true then ofL (txt d x) else ⟨#[]⟩)) ∧ Below w.heap.size w w' := by
 have hb1 := below_alloc w (.cells #[.int .i64 k, .string p, .string n, .int .i64 N, .slice q ln c] 24)
 have HI := Hd (tell31_any d k p n N q c ln x _ (h.below hb1) hG (hw.below hb1) hok)
 clear h hw hG hok hb1
 generalize (if patB d x = true then ofL (txt d x) else ⟨#[]⟩) = S at *
 go_enter Tryz.func11, Tryz.ntmps11
 go_wp2_with (go_at_call 27; refine HI.out.mono ?_; rintro e w1 ⟨rfl, k1⟩)
 go_ret
 exact ⟨rfl, (below_alloc w _).trans (k1.mono (by simp))⟩
theorem tell34_any (d : Nat) (k : Int) (p n : ByteArray) (N : Int) (q : Option Addr) (c ln : Nat) (x : Tm) (w : World) (h : IsC w d (tv k p n N (.slice q ln c)) x) (hG : Gd d x) (hw : LxW w) (hok : exprB d x = true → WfT d x ∧ txt d x ≠ [] ∧ (txt d x).length ≤ 1000000000) :
 Calls Tryz.prog 27 #[.func (.func 34) #[] #[], tv k p n N (.slice q ln c)] w fun e w' => e = .returned (.string (if exprB d x = true then ofL (txt d x) else ⟨#[]⟩)) ∧ Below w.heap.size w w' := by
 have hb1 := below_alloc w (.cells #[.int .i64 k, .string p, .string n, .int .i64 N, .slice q ln c] 24)
 have HI := Hd (expr_any d _ x _ (h.below hb1).isT hG (hw.below hb1))
 have HX := Hd h
 have HW := Hd hw
 have HOK := Hd hok
 have HN := Hd (hb_new w (.cells #[.int .i64 k, .string p, .string n, .int .i64 N, .slice q ln c] 24))
 clear h hw hG hok hb1
 cases hB : exprB d x
 · rw [hB] at HI
   go_enter Tryz.func27, Tryz.ntmps27
   go_wp2_with (go_at_call 34; refine HI.out.mono ?_; rintro e w1 ⟨rfl, k1⟩)
   go_ret
   exact ⟨rfl, (below_alloc w _).trans (k1.mono (by simp))⟩
 · rw [hB] at HI
   obtain ⟨hwf, hne, hlen⟩ := HOK.out hB
   have HWF := Hd hwf
   have HNE := Hd hne
   clear hwf hne HOK
   go_enter Tryz.func27, Tryz.ntmps27
   go_upto_region 3 with (go_at_call 34; refine HI.out.mono ?_; rintro e w1 ⟨rfl, k1⟩)
   have hbw : Below w.heap.size w w1 := (below_alloc w _).trans (k1.mono (by simp))
   have m1 := hb_below HN.out k1 (by simp)
   have HBW := Hd hbw
   have C0 : RowKit.Hid (Cx w1 w1.heap.size [] (w1.alloc (.cells #[.pointer none, .slice none 0 0] 76))) := Hd ⟨Lib.fresh_isBuilder 76 5 w1, below_alloc w1 _, HW.out.below hbw⟩
   have h1 : RowKit.Hid (Calls Tryz.prog 75 #[wp w1.heap.size, tv k p n N (.slice q ln c)] (w1.alloc (.cells #[.pointer none, .slice none 0 0] 76)) (Tells w1 w1.heap.size [] (txt d x) (w1.alloc (.cells #[.pointer none, .slice none 0 0] 76)))) := Hd (term_any d w1 _ [] _ x _ C0.out (HX.out.below hbw) HWF.out (by simpa using hlen))
   have ma := hb_alloc m1 (.cells #[.pointer none, .slice none 0 0] 76)
   obtain ⟨b0, b1, b2, b3, b4⟩ := hb5 ma
   generalize hTe : txt d x = T at *
   have HTe := Hd hTe
   clear hTe
   clear m1 ma k1 hbw
   go_wp2_with (first
    | (go_at_call 75; refine h1.out.mono ?_; rintro e w2 ⟨rfl, k2⟩; have C2 := Hd (C0.out.wr k2); clear k2)
    | (go_at_call 48; refine (str_any C2.out.bld (by simpa using HNE.out) (by simpa using hlen)).mono ?_; rintro e w3 ⟨rfl, k3⟩))
   go_ret
   refine ⟨by simp [ofL, HTe.out], HBW.out.trans (Below.mono ?_ HBW.out.size)⟩
   exact C2.out.bel.trans k3
theorem print13_any (d : Nat) (k : Int) (p n : ByteArray) (N : Int) (q : Option Addr) (c ln : Nat) (x : Tm) (w : World) (h : IsC w d (tv k p n N (.slice q ln c)) x) (hG : Gd d x) (hw : LxW w) (hok : exprB d x = true → WfT d x ∧ txt d x ≠ [] ∧ (txt d x).length ≤ 1000000000) :
 Calls Tryz.prog 13 #[tv k p n N (.slice q ln c)] w fun e w' => e = .returned (.string (if exprB d x = true then ofL (txt d x) else ⟨#[]⟩)) ∧ Below w.heap.size w w' := by
 have hb1 := below_alloc w (.cells #[.int .i64 k, .string p, .string n, .int .i64 N, .slice q ln c] 24)
 have HI := Hd (tell34_any d k p n N q c ln x _ (h.below hb1) hG (hw.below hb1) hok)
 clear h hw hG hok hb1
 generalize (if exprB d x = true then ofL (txt d x) else ⟨#[]⟩) = S at *
 go_enter Tryz.func13, Tryz.ntmps13
 go_wp2_with (go_at_call 27; refine HI.out.mono ?_; rintro e w1 ⟨rfl, k1⟩)
 go_ret
 exact ⟨rfl, (below_alloc w _).trans (k1.mono (by simp))⟩
theorem qual_r {kind : Int} {p n : ByteArray} {N : Int} (h : qualB kind p n N = true) : RightT ⟨kind, n, 0⟩ := by
 unfold qualB rB at h
 simp only [Bool.and_eq_true] at h
 exact rightB_of h.2.1
theorem named_r {kind : Int} {p n : ByteArray} {N : Int} (h : namedB kind p n N = true) : RightT ⟨kind, n, 0⟩ := by
 unfold namedB at h
 simp only [Bool.and_eq_true] at h
 exact qual_r h.2
theorem num_r {p n : ByteArray} {N : Int} (h : numB p n N = true) : RightT ⟨4, ⟨#[]⟩, N⟩ := by
 unfold numB rB at h
 simp only [Bool.and_eq_true] at h
 exact rightB_of h.2.2
theorem zip_et {f9 f13 : Tm → Bool} {kids : List Tm} (h : zipB f9 f13 [34, 28] kids = true) : ∃ a c, kids = [a, c] ∧ f13 a = true ∧ f9 c = true := by
 match kids with
 | [] => simp [zipB] at h
 | [x] => simp [zipB] at h
 | [x, y] => simp [zipB, byF] at h; exact ⟨x, y, rfl, h.1, h.2⟩
 | x :: y :: z :: r => simp [zipB] at h
theorem zip_e {f9 f13 : Tm → Bool} {kids : List Tm} (h : zipB f9 f13 [34] kids = true) : ∃ a, kids = [a] ∧ f13 a = true := by
 match kids with
 | [] => simp [zipB] at h
 | [x] => simp [zipB, byF] at h; exact ⟨x, rfl, h⟩
 | x :: y :: r => simp [zipB] at h
theorem zip_ee {f9 f13 : Tm → Bool} {kids : List Tm} (h : zipB f9 f13 [34, 34] kids = true) : ∃ a c, kids = [a, c] ∧ f13 a = true ∧ f13 c = true := by
 match kids with
 | [] => simp [zipB] at h
 | [x] => simp [zipB] at h
 | [x, y] => simp [zipB, byF] at h; exact ⟨x, y, rfl, h.1, h.2⟩
 | x :: y :: z :: r => simp [zipB] at h
theorem zip_eet {f9 f13 : Tm → Bool} {kids : List Tm} (h : zipB f9 f13 [34, 34, 28] kids = true) : ∃ a c e, kids = [a, c, e] ∧ f13 a = true ∧ f13 c = true ∧ f9 e = true := by
 match kids with
 | [] => simp [zipB] at h
 | [x] => simp [zipB] at h
 | [x, y] => simp [zipB] at h
 | [x, y, z] => simp [zipB, byF] at h; exact ⟨x, y, z, rfl, h.1, h.2.1, h.2.2⟩
 | x :: y :: z :: u :: r => simp [zipB] at h
theorem alt_all {f11 f13 : Tm → Bool} : ∀ {kids : List Tm} {i : Nat}, altB f11 f13 i kids = true → ∀ x ∈ kids, f11 x = true ∨ f13 x = true := by
 intro kids
 induction kids with
 | nil => intro i h x hx; cases hx
 | cons y r ih =>
  intro i h x hx
  simp only [altB, Bool.and_eq_true] at h
  rcases List.mem_cons.1 hx with rfl | hx
  · have h1 := h.1
    split at h1
    · exact .inl h1
    · exact .inr h1
  · exact ih h.2 x hx
theorem wf_type : ∀ (d : Nat) (x : Tm), typeB d x = true → Gd d x → WfT d x := by
 intro d
 induction d with
 | zero => intro x h; cases h
 | succ d ih =>
  intro x h hG
  obtain ⟨k, p, n, N, kids⟩ := x
  obtain ⟨g1, g2, g3, g4⟩ := hG
  have all : kids.all (typeB d) = true → ∀ y ∈ kids, WfT d y := fun h y hy => ih y (List.all_eq_true.1 h y hy) (g4 y hy)
  have none : (kids.length == 0) = true → ∀ y ∈ kids, WfT d y := fun h y hy => by
   have := List.eq_nil_of_length_eq_zero (beq_iff_eq.1 h)
   rw [this] at hy; cases hy
  simp only [typeB] at h
  by_cases h1 : k = 1
  · rw [if_pos h1] at h
    simp only [Bool.and_eq_true] at h
    exact ⟨g1, g2, g3, none h.2, .inl ⟨h1, named_r h.1⟩⟩
  rw [if_neg h1] at h
  by_cases h2 : k = 2
  · rw [if_pos h2] at h
    simp only [Bool.and_eq_true] at h
    exact ⟨g1, g2, g3, all h.2, by subst h2; simp⟩
  rw [if_neg h2] at h
  by_cases h3 : k = 3
  · rw [if_pos h3, zip_two] at h
    simp only [Bool.and_eq_true, beq_iff_eq] at h
    exact ⟨g1, g2, g3, all h.2.2, by subst h3; simp [h.2.1]⟩
  rw [if_neg h3] at h
  by_cases h4 : k = 4
  · rw [if_pos h4] at h
    unfold tupB at h
    simp only [Bool.and_eq_true] at h
    exact ⟨g1, g2, g3, all h.2.2, by subst h4; simp⟩
  rw [if_neg h4] at h
  cases h
theorem wf_pat : ∀ (d : Nat) (x : Tm), patB d x = true → Gd d x → WfT d x := by
 intro d
 induction d with
 | zero => intro x h; cases h
 | succ d ih =>
  intro x h hG
  obtain ⟨k, p, n, N, kids⟩ := x
  obtain ⟨g1, g2, g3, g4⟩ := hG
  have all : kids.all (patB d) = true → ∀ y ∈ kids, WfT d y := fun h y hy => ih y (List.all_eq_true.1 h y hy) (g4 y hy)
  have none : (kids.length == 0) = true → ∀ y ∈ kids, WfT d y := fun h y hy => by
   have := List.eq_nil_of_length_eq_zero (beq_iff_eq.1 h)
   rw [this] at hy; cases hy
  simp only [patB] at h
  by_cases h1 : k = 11
  · rw [if_pos h1] at h
    simp only [Bool.and_eq_true] at h
    exact ⟨g1, g2, g3, none h.2, by subst h1; simp⟩
  rw [if_neg h1] at h
  by_cases h2 : k = 12
  · rw [if_pos h2] at h
    simp only [Bool.and_eq_true] at h
    exact ⟨g1, g2, g3, none h.2, by subst h2; simp⟩
  rw [if_neg h2] at h
  by_cases h3 : k = 13
  · rw [if_pos h3] at h
    simp only [Bool.and_eq_true] at h
    exact ⟨g1, g2, g3, none h.2, by subst h3; simp [num_r h.1]⟩
  rw [if_neg h3] at h
  by_cases h4 : k = 14
  · rw [if_pos h4] at h
    simp only [Bool.and_eq_true] at h
    exact ⟨g1, g2, g3, none h.2, by subst h4; simp [named_r h.1]⟩
  rw [if_neg h4] at h
  by_cases h5 : k = 15
  · rw [if_pos h5] at h
    simp only [Bool.and_eq_true] at h
    exact ⟨g1, g2, g3, all h.2, by subst h5; simp⟩
  rw [if_neg h5] at h
  by_cases h6 : k = 16
  · rw [if_pos h6] at h
    unfold tupB at h
    simp only [Bool.and_eq_true] at h
    exact ⟨g1, g2, g3, all h.2.2, by subst h6; simp⟩
  rw [if_neg h6] at h
  cases h
theorem wf_expr : ∀ (d : Nat) (x : Tm), exprB d x = true → Gd d x → WfT d x := by
 intro d
 induction d with
 | zero => intro x h; cases h
 | succ d ih =>
  intro x h hG
  obtain ⟨k, p, n, N, kids⟩ := x
  obtain ⟨g1, g2, g3, g4⟩ := hG
  have all : kids.all (exprB d) = true → ∀ y ∈ kids, WfT d y := fun h y hy => ih y (List.all_eq_true.1 h y hy) (g4 y hy)
  have none : (kids.length == 0) = true → ∀ y ∈ kids, WfT d y := fun h y hy => by
   have := List.eq_nil_of_length_eq_zero (beq_iff_eq.1 h)
   rw [this] at hy; cases hy
  simp only [exprB] at h
  by_cases h1 : k = 21
  · rw [if_pos h1] at h
    simp only [Bool.and_eq_true] at h
    exact ⟨g1, g2, g3, none h.2, by subst h1; simp⟩
  rw [if_neg h1] at h
  by_cases h2 : k = 22
  · rw [if_pos h2] at h
    simp only [Bool.and_eq_true] at h
    exact ⟨g1, g2, g3, none h.2, by subst h2; simp [num_r h.1]⟩
  rw [if_neg h2] at h
  by_cases h3 : k = 23
  · rw [if_pos h3] at h
    simp only [Bool.and_eq_true] at h
    exact ⟨g1, g2, g3, none h.2, by subst h3; simp [named_r h.1]⟩
  rw [if_neg h3] at h
  by_cases h4 : k = 24
  · rw [if_pos h4] at h
    simp only [Bool.and_eq_true] at h
    exact ⟨g1, g2, g3, all h.2, by subst h4; simp⟩
  rw [if_neg h4] at h
  by_cases h5 : k = 25
  · rw [if_pos h5] at h
    unfold tupB at h
    simp only [Bool.and_eq_true] at h
    exact ⟨g1, g2, g3, all h.2.2, by subst h5; simp⟩
  rw [if_neg h5] at h
  by_cases h6 : k = 26
  · rw [if_pos h6] at h
    simp only [Bool.and_eq_true] at h
    obtain ⟨a, rfl, ha⟩ := zip_e h.2
    exact ⟨g1, g2, g3, fun y hy => by
     obtain rfl := List.mem_singleton.1 hy
     exact ih _ ha (g4 _ (by simp)), by subst h6; simp⟩
  rw [if_neg h6] at h
  by_cases h7 : k = 27
  · rw [if_pos h7] at h
    simp only [Bool.and_eq_true] at h
    obtain ⟨a, c, rfl, ha, hc⟩ := zip_ee h.2
    exact ⟨g1, g2, g3, fun y hy => by
     rcases List.mem_cons.1 hy with rfl | hy
     · exact ih _ ha (g4 _ (by simp))
     · obtain rfl := List.mem_singleton.1 hy
       exact ih _ hc (g4 _ (by simp)), by subst h7; simp⟩
  rw [if_neg h7] at h
  by_cases h8 : k = 28
  · rw [if_pos h8] at h
    unfold letB at h
    simp only [Bool.and_eq_true, Bool.or_eq_true] at h
    rcases h.2 with h2' | h2'
    · obtain ⟨a, c, rfl, ha, hc⟩ := zip_ee h2'
      exact ⟨g1, g2, g3, fun y hy => by
       rcases List.mem_cons.1 hy with rfl | hy
       · exact ih _ ha (g4 _ (by simp))
       · obtain rfl := List.mem_singleton.1 hy
         exact ih _ hc (g4 _ (by simp)), by subst h8; simp⟩
    · obtain ⟨a, c, e, rfl, ha, hc, he⟩ := zip_eet h2'
      exact ⟨g1, g2, g3, fun y hy => by
       rcases List.mem_cons.1 hy with rfl | hy
       · exact ih _ ha (g4 _ (by simp))
       · rcases List.mem_cons.1 hy with rfl | hy
         · exact ih _ hc (g4 _ (by simp))
         · obtain rfl := List.mem_singleton.1 hy
           exact wf_type d _ he (g4 _ (by simp)), by subst h8; simp⟩
  rw [if_neg h8] at h
  by_cases h9 : k = 29
  · rw [if_pos h9] at h
    unfold matchB at h
    simp only [Bool.and_eq_true, beq_iff_eq, decide_eq_true_eq] at h
    exact ⟨g1, g2, g3, fun y hy => by
     rcases alt_all h.2.2.2 y hy with h' | h'
     · exact wf_pat d y h' (g4 y hy)
     · exact ih y h' (g4 y hy), by subst h9; simp [h.2.1, h.2.2.1]⟩
  rw [if_neg h9] at h
  by_cases h10 : k = 30
  · rw [if_pos h10] at h
    simp only [Bool.and_eq_true] at h
    obtain ⟨a, c, rfl, ha, hc⟩ := zip_et h.2
    exact ⟨g1, g2, g3, fun y hy => by
     rcases List.mem_cons.1 hy with rfl | hy
     · exact ih _ ha (g4 _ (by simp))
     · obtain rfl := List.mem_singleton.1 hy
       exact wf_type d _ hc (g4 _ (by simp)), by subst h10; simp⟩
  rw [if_neg h10] at h
  cases h
def S8 (l : List (List UInt8)) : Nat := (l.map fun t => t.length + 8).sum
theorem S8_cons (a : List UInt8) (l : List (List UInt8)) : S8 (a :: l) = a.length + 8 + S8 l := by simp [S8]
theorem S8_nil : S8 [] = 0 := rfl
theorem flat8_len (sep : List UInt8) (hs : sep.length ≤ 8) : ∀ l : List (List UInt8), (l.flatMap (sep ++ ·)).length ≤ S8 l := by
 intro l
 induction l with
 | nil => simp
 | cons a r ih => rw [List.flatMap_cons, List.length_append, S8_cons, List.length_append]; omega
theorem heldT_len (l : List (List UInt8)) : (heldT l).length ≤ 2 + S8 l := by
 unfold heldT
 cases l with
 | nil => simp [eachT]
 | cons a r =>
  have := flat8_len [44, 32] (by decide) r
  simp only [eachT, List.length_cons, List.length_append, List.length_nil] at this ⊢
  rw [S8_cons]
  omega
theorem annT_len (l : List (List UInt8)) : (annT l).length ≤ S8 l := flat8_len [32, 58, 32] (by decide) l
theorem armsT_len : ∀ (f : Bool) (l : List (List UInt8)), (armsT f l).length ≤ S8 l := by
 intro f l
 match l with
 | [] => simp [armsT]
 | [a] => simp [armsT]
 | a :: c :: r =>
  have ih := armsT_len false r
  have hs : (if f = true then ([32, 119, 105, 116, 104, 32] : List UInt8) else [32, 124, 32]).length ≤ 6 := by split <;> decide
  rw [S8_cons, S8_cons]
  simp only [armsT, List.length_append, List.length_cons, List.length_nil] at hs ⊢
  omega
theorem kids_len {d : Nat} : ∀ {kids : List Tm}, (∀ y ∈ kids, (txt d y).length + 8 ≤ 40 * tby d y) → S8 (kids.map (txt d)) ≤ 40 * (kids.map (tby d)).sum := by
 intro kids
 induction kids with
 | nil => intro _; simp [S8]
 | cons a r ih =>
  intro h
  have h1 := h a (by simp)
  have h2 := ih fun y hy => h y (by simp [hy])
  rw [List.map_cons, S8_cons, List.map_cons, List.sum_cons]
  omega
theorem within_len (f : Bool) (x : List UInt8) : (withinT f x).length ≤ x.length + 2 := by
 unfold withinT
 split <;> simp
theorem snd_map (d : Nat) (R : List Tm) : (R.map fun x => (x, txt d x)).map Prod.snd = R.map (txt d) := by simp [Function.comp_def]
theorem size_list (s : ByteArray) : s.data.toList.length = s.size := Array.length_toList
theorem txt_len : ∀ (d : Nat) (x : Tm), WfT d x → (txt d x).length + 8 ≤ 40 * tby d x := by
 intro d
 induction d with
 | zero => intro x h; cases h
 | succ d ih =>
  intro x hw
  obtain ⟨k, p, n, N, kids⟩ := x
  obtain ⟨_, _, hN, hkw, hcs⟩ := hw
  have hK := kids_len (d := d) (kids := kids) fun y hy => ih y (hkw y hy)
  have ht : tby (d + 1) (.mk k p n N kids) = p.size + n.size + 1 + (kids.map (tby d)).sum := rfl
  rw [ht]
  have hp := size_list p
  have hn := size_list n
  have hq : (qualT p n).length ≤ p.size + 1 + n.size := by
   unfold qualT
   rw [List.length_append, hn]
   split
   · simp
   · rw [List.length_append, hp]; simp
  have hh := heldT_len (kids.map (txt d))
  rcases hcs with ⟨rfl, hr⟩ | rfl | ⟨rfl | rfl, hr⟩ | ⟨rfl | rfl, hr⟩ | (rfl | rfl | rfl | rfl | rfl) | (rfl | rfl | rfl) | ⟨rfl, h2⟩ | ⟨rfl, h2⟩ | ⟨rfl, h2⟩ | ⟨rfl, h2⟩ | ⟨rfl, h2⟩ | ⟨rfl, h2⟩
  · have := tellT_len ⟨3, n, 0⟩ (by show (-9223372036854775808 : Int) ≤ 0; decide) (by show (0 : Int) ≤ 9223372036854775807; decide)
    simp only [txt, if_true] at this ⊢
    omega
  · simp [txt]; omega
  · have := tellT_len ⟨4, ⟨#[]⟩, N⟩ hN.1 hN.2
    have h0 : (⟨#[]⟩ : ByteArray).size = 0 := rfl
    simp [txt] at this ⊢
    omega
  · have := tellT_len ⟨4, ⟨#[]⟩, N⟩ hN.1 hN.2
    have h0 : (⟨#[]⟩ : ByteArray).size = 0 := rfl
    simp [txt] at this ⊢
    omega
  · have := tellT_len ⟨5, n, 0⟩ (by show (-9223372036854775808 : Int) ≤ 0; decide) (by show (0 : Int) ≤ 9223372036854775807; decide)
    simp [txt] at this ⊢
    omega
  · have := tellT_len ⟨5, n, 0⟩ (by show (-9223372036854775808 : Int) ≤ 0; decide) (by show (0 : Int) ≤ 9223372036854775807; decide)
    simp [txt] at this ⊢
    omega
  all_goals first
    | (have e : (if kids.length = 0 then ([] : List UInt8) else heldT (kids.map (txt d))).length ≤ 2 + S8 (kids.map (txt d)) := by
         split
         · simp
         · exact hh
       simp only [txt, Int.reduceEq, if_false, or_false, false_or, if_true, or_true, true_or, List.length_append]
       omega)
    | (simp only [txt, Int.reduceEq, if_false, or_false, false_or, if_true, or_true, true_or]
       omega)
    | skip
  · match kids, h2 with
    | [a, c], _ =>
     have w1 := within_len (kdM a == 3) (txt d a)
     simp only [List.map_cons, List.map_nil, S8_cons, S8_nil] at hK
     simp only [txt, cmpT, Int.reduceEq, if_false, or_false, false_or, if_true, or_true, true_or, List.map_cons, List.map_nil, List.length_append, List.length_cons, List.length_nil] at hK ⊢
     omega
  · match kids, h2 with
    | [a], _ =>
     simp only [List.map_cons, List.map_nil, S8_cons, S8_nil] at hK
     simp only [txt, cmpT, Int.reduceEq, if_false, or_false, false_or, if_true, or_true, true_or, List.map_cons, List.map_nil, List.length_append, List.length_cons, List.length_nil] at hK ⊢
     omega
  · match kids, h2 with
    | [a, c], _ =>
     have w1 := within_len (openM a) (txt d a)
     have w2 := within_len (openM c || kdM c == 27) (txt d c)
     simp only [List.map_cons, List.map_nil, S8_cons, S8_nil] at hK
     simp only [txt, cmpT, Int.reduceEq, if_false, or_false, false_or, if_true, or_true, true_or, List.map_cons, List.map_nil, List.length_append, List.length_cons, List.length_nil] at hK ⊢
     omega
  · match kids, h2 with
    | a :: c :: r, _ =>
     have w1 := annT_len (r.map (txt d))
     have w2 : (if N = 1 then ([114, 101, 99, 32] : List UInt8) else []).length ≤ 4 := by split <;> decide
     simp only [List.map_cons, List.map_nil, S8_cons, S8_nil] at hK
     simp only [txt, cmpT, Int.reduceEq, if_false, or_false, false_or, if_true, or_true, true_or, List.map_cons, snd_map, List.length_append, List.length_cons, List.length_nil] at hK w2 ⊢
     omega
    | [a], h => simp at h
    | [], h => simp at h
  · match kids, h2 with
    | a :: r, _ =>
     have w1 := armsT_len true (r.map (txt d))
     simp only [List.map_cons, List.map_nil, S8_cons, S8_nil] at hK
     simp only [txt, cmpT, Int.reduceEq, if_false, or_false, false_or, if_true, or_true, true_or, List.map_cons, snd_map, List.length_append, List.length_cons, List.length_nil] at hK ⊢
     omega
    | [], h => simp at h
  · match kids, h2 with
    | a :: r, _ =>
     have w1 := annT_len (r.map (txt d))
     simp only [List.map_cons, List.map_nil, S8_cons, S8_nil] at hK
     simp only [txt, cmpT, Int.reduceEq, if_false, or_false, false_or, if_true, or_true, true_or, List.map_cons, snd_map, List.length_append, List.length_cons, List.length_nil] at hK ⊢
     omega
    | [], h => simp at h
def NmNe : Tm → Prop | .mk k _ n _ _ => (k = 12 ∨ k = 21 ∨ k = 2 ∨ k = 15 ∨ k = 24) → n.data.toList ≠ []
theorem txt_ne : ∀ (d : Nat) (x : Tm), WfT d x → NmNe x → txt d x ≠ [] := by
 intro d x hw hn
 cases d with
 | zero => cases hw
 | succ d =>
  obtain ⟨k, p, n, N, kids⟩ := x
  obtain ⟨_, _, hN, hkw, hcs⟩ := hw
  unfold NmNe at hn
  rcases hcs with ⟨rfl, hr⟩ | rfl | ⟨rfl | rfl, hr⟩ | ⟨rfl | rfl, hr⟩ | (rfl | rfl | rfl | rfl | rfl) | (rfl | rfl | rfl) | ⟨rfl, h2⟩ | ⟨rfl, h2⟩ | ⟨rfl, h2⟩ | ⟨rfl, h2⟩ | ⟨rfl, h2⟩ | ⟨rfl, h2⟩
  · simp [txt, tellT]
  · simp [txt]
  · have := hr.1; simp only [txt, Int.reduceEq, if_false, if_true, true_or]; intro e; rw [e] at this; cases this
  · have := hr.1; simp only [txt, Int.reduceEq, if_false, if_true, or_true]; intro e; rw [e] at this; cases this
  · have := hr.1; simp only [txt, Int.reduceEq, if_false, or_false, false_or, if_true, true_or]; intro e; rw [e] at this; cases this
  · have := hr.1; simp only [txt, Int.reduceEq, if_false, or_false, false_or, if_true, or_true]; intro e; rw [e] at this; cases this
  · have := hn (by simp); simp [txt, qualT, this]
  · have := hn (by simp); simp [txt, qualT, this]
  · have := hn (by simp); simp [txt, qualT, this]
  · have := hn (by simp); simp [txt, qualT, this]
  · have := hn (by simp); simp [txt, qualT, this]
  · simp [txt, heldT]
  · simp [txt, heldT]
  · simp [txt, heldT]
  · match kids, h2 with
    | [a, c], _ => simp [txt, cmpT]
  · match kids, h2 with
    | [a], _ => simp [txt, cmpT]
  · match kids, h2 with
    | [a, c], _ => simp [txt, cmpT]
  · match kids, h2 with
    | a :: c :: r, _ => simp [txt, cmpT]
    | [a], h => simp at h
    | [], h => simp at h
  · match kids, h2 with
    | a :: r, _ => simp [txt, cmpT]
    | [], h => simp at h
  · match kids, h2 with
    | a :: r, _ => simp [txt, cmpT]
    | [], h => simp at h
end Go.Proofs.YtmkjalnlldpdcaaGreatDoor
