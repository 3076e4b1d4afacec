/- Texts in a row: Jn Jo Jp Vr. -/
import Derived.Test.YtmkjalnlldpdcaaGreatDoorZT31
set_option maxHeartbeats 16000000
set_option maxRecDepth 100000
namespace Go.Proofs.YtmkjalnlldpdcaaGreatDoor
open Go.RowKit
set_option linter.unusedSimpArgs false
set_option linter.unusedVariables false
theorem exprD_28_2 (d : Nat) (hd : Judge 35 (exprB d) d) (p n : ByteArray) (N : Int) (q : Option Addr) (c : Nat) (x y : Tm) (hp : p.size ≤ 100000) (hn : n.size ≤ 100000) (hg : ∀ u ∈ [x, y], Gd d u) (w : World) (hw : LxW w) (hk : KidsT w d (.slice q 2 c) [x, y])
 (hb1 : onlyB ⟨#[110, 107]⟩ p n N = true) (hb2 : rB 1 n 0 = true) (hN : ((N == 0) || (N == 1)) = true) :
 Calls Tryz.prog 35 #[tv 28 p n N (.slice q 2 c)] w (Ans (exprB d x && exprB d y) w) := by
 obtain ⟨q', c', hqc, _, hr⟩ := hk
 injection hqc with e1 _ e3
 subst e1 e3
 obtain ⟨b0, o0, k0, p0, n0, N0, s0, hq0, ha0, ht0⟩ := hr 0 x rfl
 obtain ⟨b1, o1, k1, p1, n1, N1, s1, hq1, ha1, ht1⟩ := hr 1 y rfl
 subst hq0
 injection hq1 with hq1
 injection hq1 with hb1 ho1 _
 subst hb1 ho1
 obtain ⟨q0, l0, c0, hs0⟩ := ht0.spell
 subst hs0
 obtain ⟨q1, l1, c1, hs1⟩ := ht1.spell
 subst hs1
 rw [Nat.zero_mul, Nat.add_zero] at ha0
 rw [Nat.one_mul] at ha1
 have HC0 := Hd (fun W (hb : Below w.heap.size w W) => ha0.below hb ha0.lt)
 have HJ0 := Hd (fun W (hb : Below w.heap.size w W) => hd _ x W (ht0.below hb) (hg x (by simp)) (hw.below hb))
 have HC1 := Hd (fun W (hb : Below w.heap.size w W) => ha1.below hb ha1.lt)
 have HJ1 := Hd (fun W (hb : Below w.heap.size w W) => hd _ y W (ht1.below hb) (hg y (by simp)) (hw.below hb))
 have Hb1 := Hd (fun W => only_any 28 p n N (some ⟨b0, o0, none⟩) 2 c ⟨#[110, 107]⟩ (by decide) W)
 have Hb2 := Hd (fun W => isLower_any n (by omega) W)
 rw [hb1] at Hb1
 rw [hb2] at Hb2
 generalize exprB d x = e0 at *
 generalize exprB d y = e1 at *
 have hnew := hb_new w (.cells #[.int .i64 28, .string p, .string n, .int .i64 N, .slice (some ⟨b0, o0, none⟩) 2 c] 24)
 have K0 := Hd hnew
 have LX0 := Hd (fun o => hw.under rfl (below_alloc w o))
 clear hw hg hp hn hd hnew hr ha0 ht0 ha1 ht1 hb1 hb2
 cases hN0 : (N == 0) <;> cases hN1 : (N == 1)
 · rw [hN0, hN1] at hN; cases hN
 all_goals
   clear hN
   cases e0
   · go_enter Tryz.func35, Tryz.ntmps35
     go_wp2_with (first
      | (go_at_call 82; ((with_reducible refine (Hb1.out _).mono ?_); rintro e w1 ⟨rfl, hb⟩; have HBB1 := Hd ((below_alloc w _).trans (hb.mono (by simp))); have kk1 := hb_below K0.out hb (by simp); have LX1 := Hd ((LX0.out _).under rfl hb); have K1 := Hd kk1; obtain ⟨r1_0, r1_1, r1_2, r1_3, r1_4⟩ := hb5 kk1; clear hb kk1))
      | (go_at_call 63; ((with_reducible refine (Hb2.out _).mono ?_); rintro e w2 ⟨rfl, hb⟩; have HBB2 := Hd (HBB1.out.trans (hb.mono HBB1.out.size)); have kk2 := hb_below K1.out hb (hb_lt K1.out); have LX2 := Hd (LX1.out.under rfl hb); have K2 := Hd kk2; obtain ⟨r2_0, r2_1, r2_2, r2_3, r2_4⟩ := hb5 kk2; clear hb kk2; obtain ⟨y200, y201, y202, y203, y204⟩ := HC0.out _ HBB2.out))
      | (go_at_call 35; ((with_reducible refine (HJ0.out _ HBB2.out).mono ?_); rintro e w3 ⟨rfl, hb⟩; have HBB3 := Hd (HBB2.out.trans (hb.mono HBB2.out.size)); have kk3 := hb_below K2.out hb (hb_lt K2.out); have LX3 := Hd (LX2.out.under rfl hb); have K3 := Hd kk3; obtain ⟨r3_0, r3_1, r3_2, r3_3, r3_4⟩ := hb5 kk3; clear hb kk3; obtain ⟨y310, y311, y312, y313, y314⟩ := HC1.out _ HBB3.out)))
     go_ret
     exact ⟨rfl, HBB3.out⟩
   · skip
     go_enter Tryz.func35, Tryz.ntmps35
     go_wp2_with (first
      | (go_at_call 82; ((with_reducible refine (Hb1.out _).mono ?_); rintro e w1 ⟨rfl, hb⟩; have HBB1 := Hd ((below_alloc w _).trans (hb.mono (by simp))); have kk1 := hb_below K0.out hb (by simp); have LX1 := Hd ((LX0.out _).under rfl hb); have K1 := Hd kk1; obtain ⟨r1_0, r1_1, r1_2, r1_3, r1_4⟩ := hb5 kk1; clear hb kk1))
      | (go_at_call 63; ((with_reducible refine (Hb2.out _).mono ?_); rintro e w2 ⟨rfl, hb⟩; have HBB2 := Hd (HBB1.out.trans (hb.mono HBB1.out.size)); have kk2 := hb_below K1.out hb (hb_lt K1.out); have LX2 := Hd (LX1.out.under rfl hb); have K2 := Hd kk2; obtain ⟨r2_0, r2_1, r2_2, r2_3, r2_4⟩ := hb5 kk2; clear hb kk2; obtain ⟨y200, y201, y202, y203, y204⟩ := HC0.out _ HBB2.out))
      | (go_at_call 35; ((with_reducible refine (HJ0.out _ HBB2.out).mono ?_); rintro e w3 ⟨rfl, hb⟩; have HBB3 := Hd (HBB2.out.trans (hb.mono HBB2.out.size)); have kk3 := hb_below K2.out hb (hb_lt K2.out); have LX3 := Hd (LX2.out.under rfl hb); have K3 := Hd kk3; obtain ⟨r3_0, r3_1, r3_2, r3_3, r3_4⟩ := hb5 kk3; clear hb kk3; obtain ⟨y310, y311, y312, y313, y314⟩ := HC1.out _ HBB3.out))
      | (go_at_call 35; ((with_reducible refine (HJ1.out _ HBB3.out).mono ?_); rintro e w4 ⟨rfl, hb⟩; have HBB4 := Hd (HBB3.out.trans (hb.mono HBB3.out.size)); have kk4 := hb_below K3.out hb (hb_lt K3.out); have LX4 := Hd (LX3.out.under rfl hb); have K4 := Hd kk4; obtain ⟨r4_0, r4_1, r4_2, r4_3, r4_4⟩ := hb5 kk4; clear hb kk4)))
     go_ret
     exact ⟨rfl, HBB4.out⟩
theorem exprD_28_3 (d : Nat) (hd : Judge 35 (exprB d) d) (p n : ByteArray) (N : Int) (q : Option Addr) (c : Nat) (x y z : Tm) (hp : p.size ≤ 100000) (hn : n.size ≤ 100000) (hg : ∀ u ∈ [x, y, z], Gd d u) (w : World) (hw : LxW w) (hk : KidsT w d (.slice q 3 c) [x, y, z])
 (hb1 : onlyB ⟨#[110, 107]⟩ p n N = true) (hb2 : rB 1 n 0 = true) (hN : ((N == 0) || (N == 1)) = true) :
 Calls Tryz.prog 35 #[tv 28 p n N (.slice q 3 c)] w (Ans (typeB d z && (exprB d x && exprB d y)) w) := by
 obtain ⟨q', c', hqc, _, hr⟩ := hk
 injection hqc with e1 _ e3
 subst e1 e3
 obtain ⟨b0, o0, k0, p0, n0, N0, s0, hq0, ha0, ht0⟩ := hr 0 x rfl
 obtain ⟨b1, o1, k1, p1, n1, N1, s1, hq1, ha1, ht1⟩ := hr 1 y rfl
 obtain ⟨b2, o2, k2, p2, n2, N2, s2, hq2, ha2, ht2⟩ := hr 2 z rfl
 subst hq0
 injection hq1 with hq1
 injection hq1 with hb1 ho1 _
 subst hb1 ho1
 injection hq2 with hq2
 injection hq2 with hb2 ho2 _
 subst hb2 ho2
 obtain ⟨q0, l0, c0, hs0⟩ := ht0.spell
 subst hs0
 obtain ⟨q1, l1, c1, hs1⟩ := ht1.spell
 subst hs1
 obtain ⟨q2, l2, c2, hs2⟩ := ht2.spell
 subst hs2
 rw [Nat.zero_mul, Nat.add_zero] at ha0
 rw [Nat.one_mul] at ha1
 have ha2' : TAt w b0 (o0 + 10) k2 p2 n2 N2 (.slice q2 l2 c2) := ha2
 clear ha2
 have ha2 := ha2'
 clear ha2'
 have HC0 := Hd (fun W (hb : Below w.heap.size w W) => ha0.below hb ha0.lt)
 have HJ0 := Hd (fun W (hb : Below w.heap.size w W) => hd _ x W (ht0.below hb) (hg x (by simp)) (hw.below hb))
 have HC1 := Hd (fun W (hb : Below w.heap.size w W) => ha1.below hb ha1.lt)
 have HJ1 := Hd (fun W (hb : Below w.heap.size w W) => hd _ y W (ht1.below hb) (hg y (by simp)) (hw.below hb))
 have HC2 := Hd (fun W (hb : Below w.heap.size w W) => ha2.below hb ha2.lt)
 have HJ2 := Hd (fun W (hb : Below w.heap.size w W) => typeD_any d _ z W (ht2.below hb) (hg z (by simp)) (hw.below hb))
 have Hb1 := Hd (fun W => only_any 28 p n N (some ⟨b0, o0, none⟩) 3 c ⟨#[110, 107]⟩ (by decide) W)
 have Hb2 := Hd (fun W => isLower_any n (by omega) W)
 rw [hb1] at Hb1
 rw [hb2] at Hb2
 generalize exprB d x = e0 at *
 generalize exprB d y = e1 at *
 generalize typeB d z = e2 at *
 have hnew := hb_new w (.cells #[.int .i64 28, .string p, .string n, .int .i64 N, .slice (some ⟨b0, o0, none⟩) 3 c] 24)
 have K0 := Hd hnew
 have LX0 := Hd (fun o => hw.under rfl (below_alloc w o))
 clear hw hg hp hn hd hnew hr ha0 ht0 ha1 ht1 ha2 ht2 hb1 hb2
 cases hN0 : (N == 0) <;> cases hN1 : (N == 1)
 · rw [hN0, hN1] at hN; cases hN
 all_goals
   clear hN
   cases e2
   · go_enter Tryz.func35, Tryz.ntmps35
     go_wp2_with (first
      | (go_at_call 82; ((with_reducible refine (Hb1.out _).mono ?_); rintro e w1 ⟨rfl, hb⟩; have HBB1 := Hd ((below_alloc w _).trans (hb.mono (by simp))); have kk1 := hb_below K0.out hb (by simp); have LX1 := Hd ((LX0.out _).under rfl hb); have K1 := Hd kk1; obtain ⟨r1_0, r1_1, r1_2, r1_3, r1_4⟩ := hb5 kk1; clear hb kk1))
      | (go_at_call 63; ((with_reducible refine (Hb2.out _).mono ?_); rintro e w2 ⟨rfl, hb⟩; have HBB2 := Hd (HBB1.out.trans (hb.mono HBB1.out.size)); have kk2 := hb_below K1.out hb (hb_lt K1.out); have LX2 := Hd (LX1.out.under rfl hb); have K2 := Hd kk2; obtain ⟨r2_0, r2_1, r2_2, r2_3, r2_4⟩ := hb5 kk2; clear hb kk2; obtain ⟨y220, y221, y222, y223, y224⟩ := HC2.out _ HBB2.out))
      | (go_at_call 29; ((with_reducible refine (HJ2.out _ HBB2.out).mono ?_); rintro e w3 ⟨rfl, hb⟩; have HBB3 := Hd (HBB2.out.trans (hb.mono HBB2.out.size)); have kk3 := hb_below K2.out hb (hb_lt K2.out); have LX3 := Hd (LX2.out.under rfl hb); have K3 := Hd kk3; obtain ⟨r3_0, r3_1, r3_2, r3_3, r3_4⟩ := hb5 kk3; clear hb kk3; obtain ⟨y300, y301, y302, y303, y304⟩ := HC0.out _ HBB3.out)))
     go_ret
     exact ⟨rfl, HBB3.out⟩
   · skip
     cases e0
     · go_enter Tryz.func35, Tryz.ntmps35
       go_wp2_with (first
        | (go_at_call 82; ((with_reducible refine (Hb1.out _).mono ?_); rintro e w1 ⟨rfl, hb⟩; have HBB1 := Hd ((below_alloc w _).trans (hb.mono (by simp))); have kk1 := hb_below K0.out hb (by simp); have LX1 := Hd ((LX0.out _).under rfl hb); have K1 := Hd kk1; obtain ⟨r1_0, r1_1, r1_2, r1_3, r1_4⟩ := hb5 kk1; clear hb kk1))
        | (go_at_call 63; ((with_reducible refine (Hb2.out _).mono ?_); rintro e w2 ⟨rfl, hb⟩; have HBB2 := Hd (HBB1.out.trans (hb.mono HBB1.out.size)); have kk2 := hb_below K1.out hb (hb_lt K1.out); have LX2 := Hd (LX1.out.under rfl hb); have K2 := Hd kk2; obtain ⟨r2_0, r2_1, r2_2, r2_3, r2_4⟩ := hb5 kk2; clear hb kk2; obtain ⟨y220, y221, y222, y223, y224⟩ := HC2.out _ HBB2.out))
        | (go_at_call 29; ((with_reducible refine (HJ2.out _ HBB2.out).mono ?_); rintro e w3 ⟨rfl, hb⟩; have HBB3 := Hd (HBB2.out.trans (hb.mono HBB2.out.size)); have kk3 := hb_below K2.out hb (hb_lt K2.out); have LX3 := Hd (LX2.out.under rfl hb); have K3 := Hd kk3; obtain ⟨r3_0, r3_1, r3_2, r3_3, r3_4⟩ := hb5 kk3; clear hb kk3; obtain ⟨y300, y301, y302, y303, y304⟩ := HC0.out _ HBB3.out))
        | (go_at_call 35; ((with_reducible refine (HJ0.out _ HBB3.out).mono ?_); rintro e w4 ⟨rfl, hb⟩; have HBB4 := Hd (HBB3.out.trans (hb.mono HBB3.out.size)); have kk4 := hb_below K3.out hb (hb_lt K3.out); have LX4 := Hd (LX3.out.under rfl hb); have K4 := Hd kk4; obtain ⟨r4_0, r4_1, r4_2, r4_3, r4_4⟩ := hb5 kk4; clear hb kk4; obtain ⟨y410, y411, y412, y413, y414⟩ := HC1.out _ HBB4.out)))
       go_ret
       exact ⟨rfl, HBB4.out⟩
     · skip
       go_enter Tryz.func35, Tryz.ntmps35
       go_wp2_with (first
        | (go_at_call 82; ((with_reducible refine (Hb1.out _).mono ?_); rintro e w1 ⟨rfl, hb⟩; have HBB1 := Hd ((below_alloc w _).trans (hb.mono (by simp))); have kk1 := hb_below K0.out hb (by simp); have LX1 := Hd ((LX0.out _).under rfl hb); have K1 := Hd kk1; obtain ⟨r1_0, r1_1, r1_2, r1_3, r1_4⟩ := hb5 kk1; clear hb kk1))
        | (go_at_call 63; ((with_reducible refine (Hb2.out _).mono ?_); rintro e w2 ⟨rfl, hb⟩; have HBB2 := Hd (HBB1.out.trans (hb.mono HBB1.out.size)); have kk2 := hb_below K1.out hb (hb_lt K1.out); have LX2 := Hd (LX1.out.under rfl hb); have K2 := Hd kk2; obtain ⟨r2_0, r2_1, r2_2, r2_3, r2_4⟩ := hb5 kk2; clear hb kk2; obtain ⟨y220, y221, y222, y223, y224⟩ := HC2.out _ HBB2.out))
        | (go_at_call 29; ((with_reducible refine (HJ2.out _ HBB2.out).mono ?_); rintro e w3 ⟨rfl, hb⟩; have HBB3 := Hd (HBB2.out.trans (hb.mono HBB2.out.size)); have kk3 := hb_below K2.out hb (hb_lt K2.out); have LX3 := Hd (LX2.out.under rfl hb); have K3 := Hd kk3; obtain ⟨r3_0, r3_1, r3_2, r3_3, r3_4⟩ := hb5 kk3; clear hb kk3; obtain ⟨y300, y301, y302, y303, y304⟩ := HC0.out _ HBB3.out))
        | (go_at_call 35; ((with_reducible refine (HJ0.out _ HBB3.out).mono ?_); rintro e w4 ⟨rfl, hb⟩; have HBB4 := Hd (HBB3.out.trans (hb.mono HBB3.out.size)); have kk4 := hb_below K3.out hb (hb_lt K3.out); have LX4 := Hd (LX3.out.under rfl hb); have K4 := Hd kk4; obtain ⟨r4_0, r4_1, r4_2, r4_3, r4_4⟩ := hb5 kk4; clear hb kk4; obtain ⟨y410, y411, y412, y413, y414⟩ := HC1.out _ HBB4.out))
        | (go_at_call 35; ((with_reducible refine (HJ1.out _ HBB4.out).mono ?_); rintro e w5 ⟨rfl, hb⟩; have HBB5 := Hd (HBB4.out.trans (hb.mono HBB4.out.size)); have kk5 := hb_below K4.out hb (hb_lt K4.out); have LX5 := Hd (LX4.out.under rfl hb); have K5 := Hd kk5; obtain ⟨r5_0, r5_1, r5_2, r5_3, r5_4⟩ := hb5 kk5; clear hb kk5)))
       go_ret
       exact ⟨rfl, HBB5.out⟩
theorem exprD_28 (d : Nat) (hd : Judge 35 (exprB d) d) (p n : ByteArray) (N : Int) (q : Option Addr) (c : Nat) (kids : List Tm) (hp : p.size ≤ 100000) (hn : n.size ≤ 100000) (hm : kids.length ≤ 2 ^ 63 - 1) (hg : ∀ x ∈ kids, Gd d x) (w : World) (hw : LxW w) (hk : KidsT w d (.slice q kids.length c) kids) :
 Calls Tryz.prog 35 #[tv 28 p n N (.slice q kids.length c)] w (Ans (onlyB ⟨#[110, 107]⟩ p n N && (rB 1 n 0 && (((N == 0) || (N == 1)) && (zipB (typeB d) (exprB d) [34, 34] kids || zipB (typeB d) (exprB d) [34, 34, 28] kids)))) w) := by
 by_cases hall : onlyB ⟨#[110, 107]⟩ p n N = true ∧ rB 1 n 0 = true ∧ ((N == 0) || (N == 1)) = true
 · obtain ⟨e1, e2, e3⟩ := hall
   rw [e1, e2, e3]
   by_cases h2 : kids.length = 2
   · obtain ⟨x, y, rfl⟩ : ∃ x y, kids = [x, y] := by
      match kids, h2 with
      | [x, y], _ => exact ⟨x, y, rfl⟩
     refine (exprD_28_2 d hd p n N q c x y hp hn hg w hw hk e1 e2 e3).mono fun e w' h => h.eq ?_
     simp [zipB, byF]
   by_cases h3 : kids.length = 3
   · obtain ⟨x, y, z, rfl⟩ : ∃ x y z, kids = [x, y, z] := by
      match kids, h3 with
      | [x, y, z], _ => exact ⟨x, y, z, rfl⟩
     refine (exprD_28_3 d hd p n N q c x y z hp hn hg w hw hk e1 e2 e3).mono fun e w' h => h.eq ?_
     simp only [zipB, byF]
     cases typeB d z <;> cases exprB d x <;> cases exprB d y <;> rfl
   rw [zip_len (fs := [34, 34]) (fun e => h2 e.symm), zip_len (fs := [34, 34, 28]) (fun e => h3 e.symm)]
   have hL2 : ((kids.length : Int) == 2) = false := by rw [beq_eq_false_iff_ne]; omega
   have hL3 : ((kids.length : Int) == 3) = false := by rw [beq_eq_false_iff_ne]; omega
   have Hb1 := Hd (fun W => only_any 28 p n N q kids.length c ⟨#[110, 107]⟩ (by decide) W)
   have Hb2 := Hd (fun W => isLower_any n (by omega) W)
   rw [e1] at Hb1
   rw [e2] at Hb2
   have hnew := hb_new w (.cells #[.int .i64 28, .string p, .string n, .int .i64 N, .slice q kids.length c] 24)
   have K0 := Hd hnew
   have LX0 := Hd (fun o => hw.under rfl (below_alloc w o))
   have HK0 := Hd (hk.below (below_alloc w (.cells #[.int .i64 28, .string p, .string n, .int .i64 N, .slice q kids.length c] 24)))
   clear hw hk hg hp hn hd hnew e1 e2 h2 h3
   cases hN0 : (N == 0) <;> cases hN1 : (N == 1)
   · rw [hN0, hN1] at e3; cases e3
   all_goals
     clear e3
     go_enter Tryz.func35, Tryz.ntmps35
     go_wp2_with (first
      | (go_at_call 82; ((with_reducible refine (Hb1.out _).mono ?_); rintro e w1 ⟨rfl, hb⟩; have HBB1 := Hd ((below_alloc w _).trans (hb.mono (by simp))); have kk1 := hb_below K0.out hb (by simp); have LX1 := Hd ((LX0.out _).under rfl hb); have K1 := Hd kk1; obtain ⟨r1_0, r1_1, r1_2, r1_3, r1_4⟩ := hb5 kk1; clear hb kk1))
      | (go_at_call 63; ((with_reducible refine (Hb2.out _).mono ?_); rintro e w2 ⟨rfl, hb⟩; have HBB2 := Hd (HBB1.out.trans (hb.mono HBB1.out.size)); have kk2 := hb_below K1.out hb (hb_lt K1.out); have LX2 := Hd (LX1.out.under rfl hb); have K2 := Hd kk2; obtain ⟨r2_0, r2_1, r2_2, r2_3, r2_4⟩ := hb5 kk2; clear hb kk2)))
     go_ret
     exact ⟨rfl, HBB2.out⟩
 · have hres : (onlyB ⟨#[110, 107]⟩ p n N && (rB 1 n 0 && (((N == 0) || (N == 1)) && (zipB (typeB d) (exprB d) [34, 34] kids || zipB (typeB d) (exprB d) [34, 34, 28] kids)))) = false := by
    cases e1 : onlyB ⟨#[110, 107]⟩ p n N
    · rfl
    cases e2 : rB 1 n 0
    · rfl
    cases e3 : ((N == 0) || (N == 1))
    · rfl
    · exact absurd ⟨e1, e2, e3⟩ hall
   rw [hres]
   clear hres
   have Hb1 := Hd (fun W => only_any 28 p n N q kids.length c ⟨#[110, 107]⟩ (by decide) W)
   have Hb2 := Hd (fun W => isLower_any n (by omega) W)
   generalize onlyB ⟨#[110, 107]⟩ p n N = b1 at *
   generalize rB 1 n 0 = b2 at *
   have hnew := hb_new w (.cells #[.int .i64 28, .string p, .string n, .int .i64 N, .slice q kids.length c] 24)
   have K0 := Hd hnew
   have LX0 := Hd (fun o => hw.under rfl (below_alloc w o))
   have HK0 := Hd (hk.below (below_alloc w (.cells #[.int .i64 28, .string p, .string n, .int .i64 N, .slice q kids.length c] 24)))
   clear hw hk hg hp hn hd hnew
   cases b1
   · clear hall
     go_enter Tryz.func35, Tryz.ntmps35
     go_wp2_with (go_at_call 82; ((with_reducible refine (Hb1.out _).mono ?_); rintro e w1 ⟨rfl, hb⟩; have HBB1 := Hd ((below_alloc w _).trans (hb.mono (by simp))); have kk1 := hb_below K0.out hb (by simp); have LX1 := Hd ((LX0.out _).under rfl hb); have K1 := Hd kk1; obtain ⟨r1_0, r1_1, r1_2, r1_3, r1_4⟩ := hb5 kk1; clear hb kk1))
     go_ret
     exact ⟨rfl, HBB1.out⟩
   cases b2
   · clear hall
     go_enter Tryz.func35, Tryz.ntmps35
     go_wp2_with (first
      | (go_at_call 82; ((with_reducible refine (Hb1.out _).mono ?_); rintro e w1 ⟨rfl, hb⟩; have HBB1 := Hd ((below_alloc w _).trans (hb.mono (by simp))); have kk1 := hb_below K0.out hb (by simp); have LX1 := Hd ((LX0.out _).under rfl hb); have K1 := Hd kk1; obtain ⟨r1_0, r1_1, r1_2, r1_3, r1_4⟩ := hb5 kk1; clear hb kk1))
      | (go_at_call 63; ((with_reducible refine (Hb2.out _).mono ?_); rintro e w2 ⟨rfl, hb⟩; have HBB2 := Hd (HBB1.out.trans (hb.mono HBB1.out.size)); have kk2 := hb_below K1.out hb (hb_lt K1.out); have LX2 := Hd (LX1.out.under rfl hb); have K2 := Hd kk2; obtain ⟨r2_0, r2_1, r2_2, r2_3, r2_4⟩ := hb5 kk2; clear hb kk2)))
     go_ret
     exact ⟨rfl, HBB2.out⟩
   cases hN0 : (N == 0) <;> cases hN1 : (N == 1)
   · clear hall
     go_enter Tryz.func35, Tryz.ntmps35
     go_wp2_with (first
      | (go_at_call 82; ((with_reducible refine (Hb1.out _).mono ?_); rintro e w1 ⟨rfl, hb⟩; have HBB1 := Hd ((below_alloc w _).trans (hb.mono (by simp))); have kk1 := hb_below K0.out hb (by simp); have LX1 := Hd ((LX0.out _).under rfl hb); have K1 := Hd kk1; obtain ⟨r1_0, r1_1, r1_2, r1_3, r1_4⟩ := hb5 kk1; clear hb kk1))
      | (go_at_call 63; ((with_reducible refine (Hb2.out _).mono ?_); rintro e w2 ⟨rfl, hb⟩; have HBB2 := Hd (HBB1.out.trans (hb.mono HBB1.out.size)); have kk2 := hb_below K1.out hb (hb_lt K1.out); have LX2 := Hd (LX1.out.under rfl hb); have K2 := Hd kk2; obtain ⟨r2_0, r2_1, r2_2, r2_3, r2_4⟩ := hb5 kk2; clear hb kk2)))
     go_ret
     exact ⟨rfl, HBB2.out⟩
   all_goals exact absurd ⟨rfl, rfl, by rw [hN0, hN1]; rfl⟩ hall
theorem exprD_29 (f12 f14 : Tm → Bool) (d : Nat) (h12 : Judge 32 f12 d) (h14 : Judge 35 f14 d) (p n : ByteArray) (N : Int) (q : Option Addr) (c : Nat) (kids : List Tm) (hm : kids.length ≤ 2 ^ 63 - 1) (hg : ∀ x ∈ kids, Gd d x) (w : World) (hw : LxW w) (hk : KidsT w d (.slice q kids.length c) kids) :
 Calls Tryz.prog 35 #[tv 29 p n N (.slice q kids.length c)] w (Ans (onlyB ⟨#[]⟩ p n N && matchB f12 f14 kids) w) := by
 obtain ⟨q', c', hqc, _, hr⟩ := hk
 injection hqc with e1 _ e3
 subst e1 e3
 have Hb1 := Hd (fun W => only_any 29 p n N q kids.length c ⟨#[]⟩ (by decide) W)
 generalize onlyB ⟨#[]⟩ p n N = b1 at *
 have hnew := hb_new w (.cells #[.int .i64 29, .string p, .string n, .int .i64 N, .slice q kids.length c] 24)
 have K0 := Hd hnew
 have LX0 := Hd (fun o => hw.under rfl (below_alloc w o))
 cases b1
 · clear h12 h14 hr hg hw hnew
   go_enter Tryz.func35, Tryz.ntmps35
   go_wp2_with (go_at_call 82; ((with_reducible refine (Hb1.out _).mono ?_); rintro e w1 ⟨rfl, hb⟩; have HBB1 := Hd ((below_alloc w _).trans (hb.mono (by simp))); have kk1 := hb_below K0.out hb (by simp); have LX1 := Hd ((LX0.out _).under rfl hb); have K1 := Hd kk1; obtain ⟨r1_0, r1_1, r1_2, r1_3, r1_4⟩ := hb5 kk1; clear hb kk1))
   go_ret
   exact ⟨rfl, HBB1.out⟩
 by_cases h3 : kids.length < 3
 · have d1 : decide ((kids.length : Int) < 3) = true := by simp; omega
   have hz : matchB f12 f14 kids = false := by unfold matchB; rw [show decide (3 ≤ kids.length) = false from by simp; omega]; rfl
   rw [hz]
   clear h12 h14 hr h3 hg hw hnew hz
   go_enter Tryz.func35, Tryz.ntmps35
   go_wp2_with (go_at_call 82; ((with_reducible refine (Hb1.out _).mono ?_); rintro e w1 ⟨rfl, hb⟩; have HBB1 := Hd ((below_alloc w _).trans (hb.mono (by simp))); have kk1 := hb_below K0.out hb (by simp); have LX1 := Hd ((LX0.out _).under rfl hb); have K1 := Hd kk1; obtain ⟨r1_0, r1_1, r1_2, r1_3, r1_4⟩ := hb5 kk1; clear hb kk1))
   go_ret
   exact ⟨rfl, HBB1.out⟩
 have d1 : decide ((kids.length : Int) < 3) = false := by simp; omega
 by_cases hev : kids.length % 2 = 0
 · have d2 : (((kids.length : Int) % 2) == 0) = true := by rw [beq_iff_eq]; omega
   have hz : matchB f12 f14 kids = false := by unfold matchB; rw [show (kids.length % 2 == 1) = false from by rw [beq_eq_false_iff_ne]; omega]; simp
   rw [hz]
   clear h12 h14 hr h3 hg hw hev hnew hz
   go_enter Tryz.func35, Tryz.ntmps35
   go_wp2_with (go_at_call 82; ((with_reducible refine (Hb1.out _).mono ?_); rintro e w1 ⟨rfl, hb⟩; have HBB1 := Hd ((below_alloc w _).trans (hb.mono (by simp))); have kk1 := hb_below K0.out hb (by simp); have LX1 := Hd ((LX0.out _).under rfl hb); have K1 := Hd kk1; obtain ⟨r1_0, r1_1, r1_2, r1_3, r1_4⟩ := hb5 kk1; clear hb kk1))
   go_ret
   exact ⟨rfl, HBB1.out⟩
 have d2 : (((kids.length : Int) % 2) == 0) = false := by rw [beq_eq_false_iff_ne]; omega
 have HLE := Hd h3
 have HOD := Hd hev
 have HR := Hd hr
 unfold Judge at h12 h14
 have H12 := Hd h12
 have H14 := Hd h14
 have HW := Hd hw
 have HGD := Hd hg
 clear hr h12 h14 hw hg h3 hev hnew
 rw [Bool.true_and]
 go_enter Tryz.func35, Tryz.ntmps35
 go_wp2_with (go_at_call 82; ((with_reducible refine (Hb1.out _).mono ?_); rintro e w1 ⟨rfl, hb⟩; have HBB1 := Hd ((below_alloc w _).trans (hb.mono (by simp))); have kk1 := hb_below K0.out hb (by simp); have LX1 := Hd ((LX0.out _).under rfl hb); have K1 := Hd kk1; obtain ⟨r1_0, r1_1, r1_2, r1_3, r1_4⟩ := hb5 kk1; clear hb kk1))
 go_loopw [4] (fun i wr => ∃ k : Nat, k ≤ kids.length ∧ i = .int .i64 k ∧ (∀ (j : Nat) x, j < k → kids[j]? = some x → altAt f12 f14 j x = true) ∧ Below w.heap.size w wr ∧ wr.heap[w.heap.size]? = some (.cells #[.int .i64 29, .string p, .string n, .int .i64 N, .slice q kids.length c] 24)) (fun i _ => kids.length - (intOf i).toNat)
 case atStart => exact ⟨0, Nat.zero_le _, rfl, (fun j x hj => absurd hj (by omega)), HBB1.out, K1.out⟩
 case round =>
   obtain ⟨k, hk, rfl, hP, hB, hkb⟩ := hrel
   have hzr := hB.size
   have HB := Hd hB
   have HP := Hd hP
   have HKB := Hd hkb
   obtain ⟨m0, m1, m2, m3, m4⟩ := hb5 hkb
   clear hP hkb
   by_cases hlt : k < kids.length
   · have hki : (k : Int) < (kids.length : Int) := by omega
     have hx1 := List.getElem?_eq_getElem hlt
     generalize kids[k] = x at *
     obtain ⟨b1, o1, k1', p1', n1', N1', s1', hq1, ha1, ht1⟩ := HR.out k x hx1
     subst hq1
     obtain ⟨q3, l3, c3, hs3⟩ := ht1.spell
     subst hs3
     obtain ⟨x0, x1, x2, x3, x4⟩ := ha1.below hB ha1.lt
     have hxm : x ∈ kids := List.mem_of_getElem? hx1
     have HX := Hd hx1
     have hpar : k % 2 = 1 ∨ k % 2 = 0 := by omega
     rcases hpar with hpr | hpr
     · have e1 : (((k : Int) % 2) == 1) = true := by rw [beq_iff_eq]; omega
       have e0 : (((k : Int) % 2) == 0) = false := by rw [beq_eq_false_iff_ne]; omega
       have HC : RowKit.Hid (Calls Tryz.prog 32 #[tv k1' p1' n1' N1' (.slice q3 l3 c3)] wr (Ans (f12 x) wr)) :=
        Hd (H12.out _ x wr (ht1.below hB) (HGD.out x hxm) (HW.out.below hB))
       have HAL : RowKit.Hid (altAt f12 f14 k x = f12 x) := Hd (by unfold altAt; rw [if_pos hpr])
       clear hx1 ht1 ha1 hB hxm hpr
       cases hf : f12 x
       · have HF := Hd hf
         rw [hf] at HC
         clear hf
         go_wp2_with (go_at_call 32; ((with_reducible refine HC.out.mono ?_); rintro e w3 ⟨rfl, hb⟩; have HQ := Hd (HB.out.trans (hb.mono hzr)); have hkq := hb_below HKB.out hb (hb_lt HKB.out); have HKQ := Hd hkq; obtain ⟨z0, z1, z2, z3, z4⟩ := hb5 hkq; clear hb hkq))
         go_ret
         exact ⟨ret_bool (match_no (alt_no (m := 0) HX.out (by rw [Nat.zero_add, HAL.out]; exact HF.out))).symm, HQ.out⟩
       · have HF := Hd hf
         rw [hf] at HC
         clear hf
         go_wp2_with (go_at_call 32; ((with_reducible refine HC.out.mono ?_); rintro e w3 ⟨rfl, hb⟩; have HQ := Hd (HB.out.trans (hb.mono hzr)); have hkq := hb_below HKB.out hb (hb_lt HKB.out); have HKQ := Hd hkq; obtain ⟨z0, z1, z2, z3, z4⟩ := hb5 hkq; clear hb hkq))
         exact ⟨⟨k + 1, by omega, by go_num, alt_next HX.out HP.out (HAL.out.trans HF.out), HQ.out, HKQ.out⟩, by simp [intOf]; omega⟩
     · have e1 : (((k : Int) % 2) == 1) = false := by rw [beq_eq_false_iff_ne]; omega
       have e0 : (((k : Int) % 2) == 0) = true := by rw [beq_iff_eq]; omega
       have HC : RowKit.Hid (Calls Tryz.prog 35 #[tv k1' p1' n1' N1' (.slice q3 l3 c3)] wr (Ans (f14 x) wr)) :=
        Hd (H14.out _ x wr (ht1.below hB) (HGD.out x hxm) (HW.out.below hB))
       have HAL : RowKit.Hid (altAt f12 f14 k x = f14 x) := Hd (by unfold altAt; rw [if_neg (by omega)])
       clear hx1 ht1 ha1 hB hxm hpr
       cases hf : f14 x
       · have HF := Hd hf
         rw [hf] at HC
         clear hf
         go_wp2_with (go_at_call 35; ((with_reducible refine HC.out.mono ?_); rintro e w3 ⟨rfl, hb⟩; have HQ := Hd (HB.out.trans (hb.mono hzr)); have hkq := hb_below HKB.out hb (hb_lt HKB.out); have HKQ := Hd hkq; obtain ⟨z0, z1, z2, z3, z4⟩ := hb5 hkq; clear hb hkq))
         go_ret
         exact ⟨ret_bool (match_no (alt_no (m := 0) HX.out (by rw [Nat.zero_add, HAL.out]; exact HF.out))).symm, HQ.out⟩
       · have HF := Hd hf
         rw [hf] at HC
         clear hf
         go_wp2_with (go_at_call 35; ((with_reducible refine HC.out.mono ?_); rintro e w3 ⟨rfl, hb⟩; have HQ := Hd (HB.out.trans (hb.mono hzr)); have hkq := hb_below HKB.out hb (hb_lt HKB.out); have HKQ := Hd hkq; obtain ⟨z0, z1, z2, z3, z4⟩ := hb5 hkq; clear hb hkq))
         exact ⟨⟨k + 1, by omega, by go_num, alt_next HX.out HP.out (HAL.out.trans HF.out), HQ.out, HKQ.out⟩, by simp [intOf]; omega⟩
   · have hki : ¬ (k : Int) < (kids.length : Int) := by omega
     obtain rfl : k = kids.length := by omega
     go_wp2
     go_ret
     refine ⟨ret_bool ?_, HB.out⟩
     unfold matchB
     rw [alt_yes (m := 0) (fun i x hx => by rw [Nat.zero_add]; exact HP.out i x (List.getElem?_eq_some_iff.1 hx).1 hx), show decide (3 ≤ kids.length) = true from by simp; have := HLE.out; omega, show (kids.length % 2 == 1) = true from by rw [beq_iff_eq]; have := HOD.out; omega]
     rfl
theorem zip_one {f9 f13 : Tm → Bool} {kids : List Tm} : zipB f9 f13 [34] kids = ((kids.length == 1) && kids.all f13) := by
 match kids with
 | [] => rfl
 | [x] => simp [zipB, byF]
 | x :: y :: r => simp [zipB]
theorem zip_two13 {f9 f13 : Tm → Bool} {kids : List Tm} : zipB f9 f13 [34, 34] kids = ((kids.length == 2) && kids.all f13) := by
 match kids with
 | [] => rfl
 | [x] => simp [zipB]
 | [x, y] => simp [zipB, byF]
 | x :: y :: z :: r => simp [zipB]
theorem only_nk (p n : ByteArray) (N : Int) : onlyB ⟨#[110, 107]⟩ p n N = (p.toList == []) := by
 have h1 : hasB ⟨#[110, 107]⟩ 112 (⟨#[110, 107]⟩ : ByteArray).size = false := by decide
 have h2 : hasB ⟨#[110, 107]⟩ 110 (⟨#[110, 107]⟩ : ByteArray).size = true := by decide
 have h3 : hasB ⟨#[110, 107]⟩ 107 (⟨#[110, 107]⟩ : ByteArray).size = true := by decide
 unfold onlyB
 rw [h1, h2, h3]
 simp
theorem named_let (p n : ByteArray) (N : Int) : namedB 1 p n (letN N) = (onlyB ⟨#[110, 107]⟩ p n N && (rB 1 n 0 && ((N == 0) || (N == 1)))) := by
 rw [only_nk]
 have hl : (letN N == 0) = ((N == 0) || (N == 1)) := by
  unfold letN
  by_cases h1 : N = 1
  · subst h1; rfl
  · have : (N == 1) = false := by simpa using h1
    rw [if_neg h1, this, Bool.or_false]
 unfold namedB qualB
 rw [hl]
 cases (p.toList == []) <;> cases ((N == 0) || (N == 1)) <;> cases rB 1 n 0 <;> rfl
theorem exprD_next (d : Nat) (hd : Judge 35 (exprB d) d) : Judge 35 (exprB (d + 1)) (d + 1) := by
 intro v x w hT hG hw
 obtain ⟨d1, k, p, n, N, s, kids, e1, rfl, rfl, _, _, hk⟩ := hT.open
 obtain rfl : d = d1 := by omega
 obtain ⟨q, c, rfl, hm, hr⟩ := hk
 have hk : KidsT w d (.slice q kids.length c) kids := ⟨q, c, rfl, hm, hr⟩
 obtain ⟨hp, hn, hN', hg⟩ := hG
 have hG : True := trivial
 unfold maxLen at hm
 clear hT e1 hr
 by_cases hk21 : k = 21
 · subst hk21
   rw [show exprB (d + 1) (.mk 21 p n N kids) = (onlyB ⟨#[112, 110]⟩ p n N && (rB 1 n 0 && (pkgB p && ((kids.length == 0))))) from by rw [exprB, if_pos rfl, qual_pn]; simp only [Bool.and_assoc]]
   have Hb1 := Hd (fun W => only_any 21 p n N q kids.length c ⟨#[112, 110]⟩ (by decide) W)
   have Hb2 := Hd (fun W => isLower_any n (by omega) W)
   have Hb3 := Hd (fun W => pkg_any p (by omega) W)
   have hnew := hb_new w (.cells #[.int .i64 21, .string p, .string n, .int .i64 N, .slice q kids.length c] 24)
   have K0 := Hd hnew
   have LX0 := Hd (fun o => hw.under rfl (below_alloc w o))
   have HK0 := Hd (hk.below (below_alloc w (.cells #[.int .i64 21, .string p, .string n, .int .i64 N, .slice q kids.length c] 24)))
   have hL0 : ((kids.length : Int) == 0) = (kids.length == 0) := by rw [Bool.eq_iff_iff]; simp
   generalize onlyB ⟨#[112, 110]⟩ p n N = b1 at *
   generalize rB 1 n 0 = b2 at *
   generalize pkgB p = b3 at *
   generalize (kids.length == 0) = b4 at *
   clear hw hk hG hg hp hn hN' hd hnew
   cases b1
   · go_enter Tryz.func35, Tryz.ntmps35
     go_wp2_with (go_at_call 82; ((with_reducible refine (Hb1.out _).mono ?_); rintro e w1 ⟨rfl, hb⟩; have HBB1 := Hd ((below_alloc w _).trans (hb.mono (by simp))); have kk1 := hb_below K0.out hb (by simp); have LX1 := Hd ((LX0.out _).under rfl hb); have HK1 := Hd (HK0.out.below hb); have K1 := Hd kk1; obtain ⟨r1_0, r1_1, r1_2, r1_3, r1_4⟩ := hb5 kk1; clear hb kk1))
     go_ret
     exact ⟨rfl, HBB1.out⟩
   · skip
     cases b2
     · go_enter Tryz.func35, Tryz.ntmps35
       go_wp2_with (first
        | (go_at_call 82; ((with_reducible refine (Hb1.out _).mono ?_); rintro e w1 ⟨rfl, hb⟩; have HBB1 := Hd ((below_alloc w _).trans (hb.mono (by simp))); have kk1 := hb_below K0.out hb (by simp); have LX1 := Hd ((LX0.out _).under rfl hb); have HK1 := Hd (HK0.out.below hb); have K1 := Hd kk1; obtain ⟨r1_0, r1_1, r1_2, r1_3, r1_4⟩ := hb5 kk1; clear hb kk1))
        | (go_at_call 63; ((with_reducible refine (Hb2.out _).mono ?_); rintro e w2 ⟨rfl, hb⟩; have HBB2 := Hd (HBB1.out.trans (hb.mono HBB1.out.size)); have kk2 := hb_below K1.out hb (hb_lt K1.out); have LX2 := Hd (LX1.out.under rfl hb); have HK2 := Hd (HK1.out.below hb); have K2 := Hd kk2; obtain ⟨r2_0, r2_1, r2_2, r2_3, r2_4⟩ := hb5 kk2; clear hb kk2)))
       go_ret
       exact ⟨rfl, HBB2.out⟩
     · skip
       cases b3
       · go_enter Tryz.func35, Tryz.ntmps35
         go_wp2_with (first
          | (go_at_call 82; ((with_reducible refine (Hb1.out _).mono ?_); rintro e w1 ⟨rfl, hb⟩; have HBB1 := Hd ((below_alloc w _).trans (hb.mono (by simp))); have kk1 := hb_below K0.out hb (by simp); have LX1 := Hd ((LX0.out _).under rfl hb); have HK1 := Hd (HK0.out.below hb); have K1 := Hd kk1; obtain ⟨r1_0, r1_1, r1_2, r1_3, r1_4⟩ := hb5 kk1; clear hb kk1))
          | (go_at_call 63; ((with_reducible refine (Hb2.out _).mono ?_); rintro e w2 ⟨rfl, hb⟩; have HBB2 := Hd (HBB1.out.trans (hb.mono HBB1.out.size)); have kk2 := hb_below K1.out hb (hb_lt K1.out); have LX2 := Hd (LX1.out.under rfl hb); have HK2 := Hd (HK1.out.below hb); have K2 := Hd kk2; obtain ⟨r2_0, r2_1, r2_2, r2_3, r2_4⟩ := hb5 kk2; clear hb kk2))
          | (go_at_call 84; ((with_reducible refine (Hb3.out _).mono ?_); rintro e w3 ⟨rfl, hb⟩; have HBB3 := Hd (HBB2.out.trans (hb.mono HBB2.out.size)); have kk3 := hb_below K2.out hb (hb_lt K2.out); have LX3 := Hd (LX2.out.under rfl hb); have HK3 := Hd (HK2.out.below hb); have K3 := Hd kk3; obtain ⟨r3_0, r3_1, r3_2, r3_3, r3_4⟩ := hb5 kk3; clear hb kk3)))
         go_ret
         exact ⟨rfl, HBB3.out⟩
       · skip
         go_enter Tryz.func35, Tryz.ntmps35
         go_wp2_with (first
          | (go_at_call 82; ((with_reducible refine (Hb1.out _).mono ?_); rintro e w1 ⟨rfl, hb⟩; have HBB1 := Hd ((below_alloc w _).trans (hb.mono (by simp))); have kk1 := hb_below K0.out hb (by simp); have LX1 := Hd ((LX0.out _).under rfl hb); have HK1 := Hd (HK0.out.below hb); have K1 := Hd kk1; obtain ⟨r1_0, r1_1, r1_2, r1_3, r1_4⟩ := hb5 kk1; clear hb kk1))
          | (go_at_call 63; ((with_reducible refine (Hb2.out _).mono ?_); rintro e w2 ⟨rfl, hb⟩; have HBB2 := Hd (HBB1.out.trans (hb.mono HBB1.out.size)); have kk2 := hb_below K1.out hb (hb_lt K1.out); have LX2 := Hd (LX1.out.under rfl hb); have HK2 := Hd (HK1.out.below hb); have K2 := Hd kk2; obtain ⟨r2_0, r2_1, r2_2, r2_3, r2_4⟩ := hb5 kk2; clear hb kk2))
          | (go_at_call 84; ((with_reducible refine (Hb3.out _).mono ?_); rintro e w3 ⟨rfl, hb⟩; have HBB3 := Hd (HBB2.out.trans (hb.mono HBB2.out.size)); have kk3 := hb_below K2.out hb (hb_lt K2.out); have LX3 := Hd (LX2.out.under rfl hb); have HK3 := Hd (HK2.out.below hb); have K3 := Hd kk3; obtain ⟨r3_0, r3_1, r3_2, r3_3, r3_4⟩ := hb5 kk3; clear hb kk3)))
         go_ret
         exact ⟨rfl, HBB3.out⟩
 have d21 : (k == 21) = false := by simpa using hk21
 by_cases hk22 : k = 22
 · subst hk22
   rw [show exprB (d + 1) (.mk 22 p n N kids) = (onlyB ⟨#[107]⟩ p n N && (rB 4 ⟨#[]⟩ N && ((kids.length == 0)))) from by rw [exprB, if_neg (by decide), if_pos rfl, num_k]; simp only [Bool.and_assoc]]
   have Hb1 := Hd (fun W => only_any 22 p n N q kids.length c ⟨#[107]⟩ (by decide) W)
   have Hb2 := Hd (fun W => may_any 4 ⟨#[]⟩ N (by first | omega | decide) W)
   have hnew := hb_new w (.cells #[.int .i64 22, .string p, .string n, .int .i64 N, .slice q kids.length c] 24)
   have K0 := Hd hnew
   have LX0 := Hd (fun o => hw.under rfl (below_alloc w o))
   have HK0 := Hd (hk.below (below_alloc w (.cells #[.int .i64 22, .string p, .string n, .int .i64 N, .slice q kids.length c] 24)))
   have hL0 : ((kids.length : Int) == 0) = (kids.length == 0) := by rw [Bool.eq_iff_iff]; simp
   generalize onlyB ⟨#[107]⟩ p n N = b1 at *
   generalize rB 4 ⟨#[]⟩ N = b2 at *
   generalize (kids.length == 0) = b3 at *
   clear hw hk hG hg hp hn hN' hd hnew
   cases b1
   · go_enter Tryz.func35, Tryz.ntmps35
     go_wp2_with (go_at_call 82; ((with_reducible refine (Hb1.out _).mono ?_); rintro e w1 ⟨rfl, hb⟩; have HBB1 := Hd ((below_alloc w _).trans (hb.mono (by simp))); have kk1 := hb_below K0.out hb (by simp); have LX1 := Hd ((LX0.out _).under rfl hb); have HK1 := Hd (HK0.out.below hb); have K1 := Hd kk1; obtain ⟨r1_0, r1_1, r1_2, r1_3, r1_4⟩ := hb5 kk1; clear hb kk1))
     go_ret
     exact ⟨rfl, HBB1.out⟩
   · skip
     cases b2
     · go_enter Tryz.func35, Tryz.ntmps35
       go_wp2_with (first
        | (go_at_call 82; ((with_reducible refine (Hb1.out _).mono ?_); rintro e w1 ⟨rfl, hb⟩; have HBB1 := Hd ((below_alloc w _).trans (hb.mono (by simp))); have kk1 := hb_below K0.out hb (by simp); have LX1 := Hd ((LX0.out _).under rfl hb); have HK1 := Hd (HK0.out.below hb); have K1 := Hd kk1; obtain ⟨r1_0, r1_1, r1_2, r1_3, r1_4⟩ := hb5 kk1; clear hb kk1))
        | (go_at_call 90; ((with_reducible refine (Hb2.out _).mono ?_); rintro e w2 ⟨rfl, hb⟩; have HBB2 := Hd (HBB1.out.trans (hb.mono HBB1.out.size)); have kk2 := hb_below K1.out hb (hb_lt K1.out); have LX2 := Hd (LX1.out.under rfl hb); have HK2 := Hd (HK1.out.below hb); have K2 := Hd kk2; obtain ⟨r2_0, r2_1, r2_2, r2_3, r2_4⟩ := hb5 kk2; clear hb kk2)))
       go_ret
       exact ⟨rfl, HBB2.out⟩
     · skip
       go_enter Tryz.func35, Tryz.ntmps35
       go_wp2_with (first
        | (go_at_call 82; ((with_reducible refine (Hb1.out _).mono ?_); rintro e w1 ⟨rfl, hb⟩; have HBB1 := Hd ((below_alloc w _).trans (hb.mono (by simp))); have kk1 := hb_below K0.out hb (by simp); have LX1 := Hd ((LX0.out _).under rfl hb); have HK1 := Hd (HK0.out.below hb); have K1 := Hd kk1; obtain ⟨r1_0, r1_1, r1_2, r1_3, r1_4⟩ := hb5 kk1; clear hb kk1))
        | (go_at_call 90; ((with_reducible refine (Hb2.out _).mono ?_); rintro e w2 ⟨rfl, hb⟩; have HBB2 := Hd (HBB1.out.trans (hb.mono HBB1.out.size)); have kk2 := hb_below K1.out hb (hb_lt K1.out); have LX2 := Hd (LX1.out.under rfl hb); have HK2 := Hd (HK1.out.below hb); have K2 := Hd kk2; obtain ⟨r2_0, r2_1, r2_2, r2_3, r2_4⟩ := hb5 kk2; clear hb kk2)))
       go_ret
       exact ⟨rfl, HBB2.out⟩
 have d22 : (k == 22) = false := by simpa using hk22
 by_cases hk23 : k = 23
 · subst hk23
   rw [show exprB (d + 1) (.mk 23 p n N kids) = (onlyB ⟨#[110]⟩ p n N && (rB 5 n 0 && ((kids.length == 0)))) from by rw [exprB, if_neg (by decide), if_neg (by decide), if_pos rfl, named_n]; simp only [Bool.and_assoc]]
   have Hb1 := Hd (fun W => only_any 23 p n N q kids.length c ⟨#[110]⟩ (by decide) W)
   have Hb2 := Hd (fun W => may_any 5 n 0 (by first | omega | decide) W)
   have hnew := hb_new w (.cells #[.int .i64 23, .string p, .string n, .int .i64 N, .slice q kids.length c] 24)
   have K0 := Hd hnew
   have LX0 := Hd (fun o => hw.under rfl (below_alloc w o))
   have HK0 := Hd (hk.below (below_alloc w (.cells #[.int .i64 23, .string p, .string n, .int .i64 N, .slice q kids.length c] 24)))
   have hL0 : ((kids.length : Int) == 0) = (kids.length == 0) := by rw [Bool.eq_iff_iff]; simp
   generalize onlyB ⟨#[110]⟩ p n N = b1 at *
   generalize rB 5 n 0 = b2 at *
   generalize (kids.length == 0) = b3 at *
   clear hw hk hG hg hp hn hN' hd hnew
   cases b1
   · go_enter Tryz.func35, Tryz.ntmps35
     go_wp2_with (go_at_call 82; ((with_reducible refine (Hb1.out _).mono ?_); rintro e w1 ⟨rfl, hb⟩; have HBB1 := Hd ((below_alloc w _).trans (hb.mono (by simp))); have kk1 := hb_below K0.out hb (by simp); have LX1 := Hd ((LX0.out _).under rfl hb); have HK1 := Hd (HK0.out.below hb); have K1 := Hd kk1; obtain ⟨r1_0, r1_1, r1_2, r1_3, r1_4⟩ := hb5 kk1; clear hb kk1))
     go_ret
     exact ⟨rfl, HBB1.out⟩
   · skip
     cases b2
     · go_enter Tryz.func35, Tryz.ntmps35
       go_wp2_with (first
        | (go_at_call 82; ((with_reducible refine (Hb1.out _).mono ?_); rintro e w1 ⟨rfl, hb⟩; have HBB1 := Hd ((below_alloc w _).trans (hb.mono (by simp))); have kk1 := hb_below K0.out hb (by simp); have LX1 := Hd ((LX0.out _).under rfl hb); have HK1 := Hd (HK0.out.below hb); have K1 := Hd kk1; obtain ⟨r1_0, r1_1, r1_2, r1_3, r1_4⟩ := hb5 kk1; clear hb kk1))
        | (go_at_call 90; ((with_reducible refine (Hb2.out _).mono ?_); rintro e w2 ⟨rfl, hb⟩; have HBB2 := Hd (HBB1.out.trans (hb.mono HBB1.out.size)); have kk2 := hb_below K1.out hb (hb_lt K1.out); have LX2 := Hd (LX1.out.under rfl hb); have HK2 := Hd (HK1.out.below hb); have K2 := Hd kk2; obtain ⟨r2_0, r2_1, r2_2, r2_3, r2_4⟩ := hb5 kk2; clear hb kk2)))
       go_ret
       exact ⟨rfl, HBB2.out⟩
     · skip
       go_enter Tryz.func35, Tryz.ntmps35
       go_wp2_with (first
        | (go_at_call 82; ((with_reducible refine (Hb1.out _).mono ?_); rintro e w1 ⟨rfl, hb⟩; have HBB1 := Hd ((below_alloc w _).trans (hb.mono (by simp))); have kk1 := hb_below K0.out hb (by simp); have LX1 := Hd ((LX0.out _).under rfl hb); have HK1 := Hd (HK0.out.below hb); have K1 := Hd kk1; obtain ⟨r1_0, r1_1, r1_2, r1_3, r1_4⟩ := hb5 kk1; clear hb kk1))
        | (go_at_call 90; ((with_reducible refine (Hb2.out _).mono ?_); rintro e w2 ⟨rfl, hb⟩; have HBB2 := Hd (HBB1.out.trans (hb.mono HBB1.out.size)); have kk2 := hb_below K1.out hb (hb_lt K1.out); have LX2 := Hd (LX1.out.under rfl hb); have HK2 := Hd (HK1.out.below hb); have K2 := Hd kk2; obtain ⟨r2_0, r2_1, r2_2, r2_3, r2_4⟩ := hb5 kk2; clear hb kk2)))
       go_ret
       exact ⟨rfl, HBB2.out⟩
 have d23 : (k == 23) = false := by simpa using hk23
 by_cases hk24 : k = 24
 · subst hk24
   rw [show exprB (d + 1) (.mk 24 p n N kids) = (onlyB ⟨#[112, 110]⟩ p n N && (rB 2 n 0 && (pkgB p && (kids.all (exprB d))))) from by rw [exprB, if_neg (by decide), if_neg (by decide), if_neg (by decide), if_pos rfl, qual_pn]; simp only [Bool.and_assoc]]
   have Hb1 := Hd (fun W => only_any 24 p n N q kids.length c ⟨#[112, 110]⟩ (by decide) W)
   have Hb2 := Hd (fun W => isUpper_any n (by omega) W)
   have Hb3 := Hd (fun W => pkg_any p (by omega) W)
   have Hb4 := Hd (fun W hW hk => exprs_any (exprB d) d kids hd hg (.slice q kids.length c) W hW hk)
   have hnew := hb_new w (.cells #[.int .i64 24, .string p, .string n, .int .i64 N, .slice q kids.length c] 24)
   have K0 := Hd hnew
   have LX0 := Hd (fun o => hw.under rfl (below_alloc w o))
   have HK0 := Hd (hk.below (below_alloc w (.cells #[.int .i64 24, .string p, .string n, .int .i64 N, .slice q kids.length c] 24)))
   generalize onlyB ⟨#[112, 110]⟩ p n N = b1 at *
   generalize rB 2 n 0 = b2 at *
   generalize pkgB p = b3 at *
   generalize kids.all (exprB d) = b4 at *
   clear hw hk hG hg hp hn hN' hd hnew
   cases b1
   · go_enter Tryz.func35, Tryz.ntmps35
     go_wp2_with (go_at_call 82; ((with_reducible refine (Hb1.out _).mono ?_); rintro e w1 ⟨rfl, hb⟩; have HBB1 := Hd ((below_alloc w _).trans (hb.mono (by simp))); have kk1 := hb_below K0.out hb (by simp); have LX1 := Hd ((LX0.out _).under rfl hb); have HK1 := Hd (HK0.out.below hb); have K1 := Hd kk1; obtain ⟨r1_0, r1_1, r1_2, r1_3, r1_4⟩ := hb5 kk1; clear hb kk1))
     go_ret
     exact ⟨rfl, HBB1.out⟩
   · skip
     cases b2
     · go_enter Tryz.func35, Tryz.ntmps35
       go_wp2_with (first
        | (go_at_call 82; ((with_reducible refine (Hb1.out _).mono ?_); rintro e w1 ⟨rfl, hb⟩; have HBB1 := Hd ((below_alloc w _).trans (hb.mono (by simp))); have kk1 := hb_below K0.out hb (by simp); have LX1 := Hd ((LX0.out _).under rfl hb); have HK1 := Hd (HK0.out.below hb); have K1 := Hd kk1; obtain ⟨r1_0, r1_1, r1_2, r1_3, r1_4⟩ := hb5 kk1; clear hb kk1))
        | (go_at_call 61; ((with_reducible refine (Hb2.out _).mono ?_); rintro e w2 ⟨rfl, hb⟩; have HBB2 := Hd (HBB1.out.trans (hb.mono HBB1.out.size)); have kk2 := hb_below K1.out hb (hb_lt K1.out); have LX2 := Hd (LX1.out.under rfl hb); have HK2 := Hd (HK1.out.below hb); have K2 := Hd kk2; obtain ⟨r2_0, r2_1, r2_2, r2_3, r2_4⟩ := hb5 kk2; clear hb kk2)))
       go_ret
       exact ⟨rfl, HBB2.out⟩
     · skip
       cases b3
       · go_enter Tryz.func35, Tryz.ntmps35
         go_wp2_with (first
          | (go_at_call 82; ((with_reducible refine (Hb1.out _).mono ?_); rintro e w1 ⟨rfl, hb⟩; have HBB1 := Hd ((below_alloc w _).trans (hb.mono (by simp))); have kk1 := hb_below K0.out hb (by simp); have LX1 := Hd ((LX0.out _).under rfl hb); have HK1 := Hd (HK0.out.below hb); have K1 := Hd kk1; obtain ⟨r1_0, r1_1, r1_2, r1_3, r1_4⟩ := hb5 kk1; clear hb kk1))
          | (go_at_call 61; ((with_reducible refine (Hb2.out _).mono ?_); rintro e w2 ⟨rfl, hb⟩; have HBB2 := Hd (HBB1.out.trans (hb.mono HBB1.out.size)); have kk2 := hb_below K1.out hb (hb_lt K1.out); have LX2 := Hd (LX1.out.under rfl hb); have HK2 := Hd (HK1.out.below hb); have K2 := Hd kk2; obtain ⟨r2_0, r2_1, r2_2, r2_3, r2_4⟩ := hb5 kk2; clear hb kk2))
          | (go_at_call 84; ((with_reducible refine (Hb3.out _).mono ?_); rintro e w3 ⟨rfl, hb⟩; have HBB3 := Hd (HBB2.out.trans (hb.mono HBB2.out.size)); have kk3 := hb_below K2.out hb (hb_lt K2.out); have LX3 := Hd (LX2.out.under rfl hb); have HK3 := Hd (HK2.out.below hb); have K3 := Hd kk3; obtain ⟨r3_0, r3_1, r3_2, r3_3, r3_4⟩ := hb5 kk3; clear hb kk3)))
         go_ret
         exact ⟨rfl, HBB3.out⟩
       · skip
         go_enter Tryz.func35, Tryz.ntmps35
         go_wp2_with (first
          | (go_at_call 82; ((with_reducible refine (Hb1.out _).mono ?_); rintro e w1 ⟨rfl, hb⟩; have HBB1 := Hd ((below_alloc w _).trans (hb.mono (by simp))); have kk1 := hb_below K0.out hb (by simp); have LX1 := Hd ((LX0.out _).under rfl hb); have HK1 := Hd (HK0.out.below hb); have K1 := Hd kk1; obtain ⟨r1_0, r1_1, r1_2, r1_3, r1_4⟩ := hb5 kk1; clear hb kk1))
          | (go_at_call 61; ((with_reducible refine (Hb2.out _).mono ?_); rintro e w2 ⟨rfl, hb⟩; have HBB2 := Hd (HBB1.out.trans (hb.mono HBB1.out.size)); have kk2 := hb_below K1.out hb (hb_lt K1.out); have LX2 := Hd (LX1.out.under rfl hb); have HK2 := Hd (HK1.out.below hb); have K2 := Hd kk2; obtain ⟨r2_0, r2_1, r2_2, r2_3, r2_4⟩ := hb5 kk2; clear hb kk2))
          | (go_at_call 84; ((with_reducible refine (Hb3.out _).mono ?_); rintro e w3 ⟨rfl, hb⟩; have HBB3 := Hd (HBB2.out.trans (hb.mono HBB2.out.size)); have kk3 := hb_below K2.out hb (hb_lt K2.out); have LX3 := Hd (LX2.out.under rfl hb); have HK3 := Hd (HK2.out.below hb); have K3 := Hd kk3; obtain ⟨r3_0, r3_1, r3_2, r3_3, r3_4⟩ := hb5 kk3; clear hb kk3))
          | (go_at_call 97; ((with_reducible refine (Hb4.out _ LX3.out HK3.out).mono ?_); rintro e w4 ⟨rfl, hb⟩; have HBB4 := Hd (HBB3.out.trans (hb.mono HBB3.out.size)); have kk4 := hb_below K3.out hb (hb_lt K3.out); have LX4 := Hd (LX3.out.under rfl hb); have HK4 := Hd (HK3.out.below hb); have K4 := Hd kk4; obtain ⟨r4_0, r4_1, r4_2, r4_3, r4_4⟩ := hb5 kk4; clear hb kk4)))
         go_ret
         exact ⟨rfl, HBB4.out⟩
 have d24 : (k == 24) = false := by simpa using hk24
 by_cases hk25 : k = 25
 · subst hk25
   rw [show exprB (d + 1) (.mk 25 p n N kids) = (onlyB ⟨#[]⟩ p n N && ((kids.length != 1) && (kids.all (exprB d)))) from by rw [exprB, if_neg (by decide), if_neg (by decide), if_neg (by decide), if_neg (by decide), if_pos rfl, only_no]; rfl]
   have Hb1 := Hd (fun W => only_any 25 p n N q kids.length c ⟨#[]⟩ (by decide) W)
   have Hb4 := Hd (fun W hW hk => exprs_any (exprB d) d kids hd hg (.slice q kids.length c) W hW hk)
   have hnew := hb_new w (.cells #[.int .i64 25, .string p, .string n, .int .i64 N, .slice q kids.length c] 24)
   have K0 := Hd hnew
   have LX0 := Hd (fun o => hw.under rfl (below_alloc w o))
   have HK0 := Hd (hk.below (below_alloc w (.cells #[.int .i64 25, .string p, .string n, .int .i64 N, .slice q kids.length c] 24)))
   have hL1 : ((kids.length : Int) != 1) = (kids.length != 1) := by rw [Bool.eq_iff_iff]; simp; omega
   generalize onlyB ⟨#[]⟩ p n N = b1 at *
   generalize (kids.length != 1) = b2 at *
   generalize kids.all (exprB d) = b4 at *
   clear hw hk hG hg hp hn hN' hd hnew
   cases b1
   · go_enter Tryz.func35, Tryz.ntmps35
     go_wp2_with (go_at_call 82; ((with_reducible refine (Hb1.out _).mono ?_); rintro e w1 ⟨rfl, hb⟩; have HBB1 := Hd ((below_alloc w _).trans (hb.mono (by simp))); have kk1 := hb_below K0.out hb (by simp); have LX1 := Hd ((LX0.out _).under rfl hb); have HK1 := Hd (HK0.out.below hb); have K1 := Hd kk1; obtain ⟨r1_0, r1_1, r1_2, r1_3, r1_4⟩ := hb5 kk1; clear hb kk1))
     go_ret
     exact ⟨rfl, HBB1.out⟩
   · skip
     cases b2
     · go_enter Tryz.func35, Tryz.ntmps35
       go_wp2_with (go_at_call 82; ((with_reducible refine (Hb1.out _).mono ?_); rintro e w1 ⟨rfl, hb⟩; have HBB1 := Hd ((below_alloc w _).trans (hb.mono (by simp))); have kk1 := hb_below K0.out hb (by simp); have LX1 := Hd ((LX0.out _).under rfl hb); have HK1 := Hd (HK0.out.below hb); have K1 := Hd kk1; obtain ⟨r1_0, r1_1, r1_2, r1_3, r1_4⟩ := hb5 kk1; clear hb kk1))
       go_ret
       exact ⟨rfl, HBB1.out⟩
     · skip
       go_enter Tryz.func35, Tryz.ntmps35
       go_wp2_with (first
        | (go_at_call 82; ((with_reducible refine (Hb1.out _).mono ?_); rintro e w1 ⟨rfl, hb⟩; have HBB1 := Hd ((below_alloc w _).trans (hb.mono (by simp))); have kk1 := hb_below K0.out hb (by simp); have LX1 := Hd ((LX0.out _).under rfl hb); have HK1 := Hd (HK0.out.below hb); have K1 := Hd kk1; obtain ⟨r1_0, r1_1, r1_2, r1_3, r1_4⟩ := hb5 kk1; clear hb kk1))
        | (go_at_call 97; ((with_reducible refine (Hb4.out _ LX1.out HK1.out).mono ?_); rintro e w2 ⟨rfl, hb⟩; have HBB2 := Hd (HBB1.out.trans (hb.mono HBB1.out.size)); have kk2 := hb_below K1.out hb (hb_lt K1.out); have LX2 := Hd (LX1.out.under rfl hb); have HK2 := Hd (HK1.out.below hb); have K2 := Hd kk2; obtain ⟨r2_0, r2_1, r2_2, r2_3, r2_4⟩ := hb5 kk2; clear hb kk2)))
       go_ret
       exact ⟨rfl, HBB2.out⟩
 have d25 : (k == 25) = false := by simpa using hk25
 by_cases hk26 : k = 26
 · subst hk26
   rw [show exprB (d + 1) (.mk 26 p n N kids) = (onlyB ⟨#[110]⟩ p n N && (rB 1 n 0 && ((kids.length == 1) && (kids.all (exprB d))))) from by rw [exprB, if_neg (by decide), if_neg (by decide), if_neg (by decide), if_neg (by decide), if_neg (by decide), if_pos rfl, named_n, zip_one]; simp only [Bool.and_assoc]]
   have Hb1 := Hd (fun W => only_any 26 p n N q kids.length c ⟨#[110]⟩ (by decide) W)
   have Hb2 := Hd (fun W => isLower_any n (by omega) W)
   have Hb4 := Hd (fun W hW hk => exprs_any (exprB d) d kids hd hg (.slice q kids.length c) W hW hk)
   have hnew := hb_new w (.cells #[.int .i64 26, .string p, .string n, .int .i64 N, .slice q kids.length c] 24)
   have K0 := Hd hnew
   have LX0 := Hd (fun o => hw.under rfl (below_alloc w o))
   have HK0 := Hd (hk.below (below_alloc w (.cells #[.int .i64 26, .string p, .string n, .int .i64 N, .slice q kids.length c] 24)))
   have hL1 : ((kids.length : Int) == 1) = (kids.length == 1) := by rw [Bool.eq_iff_iff]; simp; omega
   generalize onlyB ⟨#[110]⟩ p n N = b1 at *
   generalize rB 1 n 0 = b2 at *
   generalize (kids.length == 1) = b3 at *
   generalize kids.all (exprB d) = b4 at *
   clear hw hk hG hg hp hn hN' hd hnew
   cases b1
   · go_enter Tryz.func35, Tryz.ntmps35
     go_wp2_with (go_at_call 82; ((with_reducible refine (Hb1.out _).mono ?_); rintro e w1 ⟨rfl, hb⟩; have HBB1 := Hd ((below_alloc w _).trans (hb.mono (by simp))); have kk1 := hb_below K0.out hb (by simp); have LX1 := Hd ((LX0.out _).under rfl hb); have HK1 := Hd (HK0.out.below hb); have K1 := Hd kk1; obtain ⟨r1_0, r1_1, r1_2, r1_3, r1_4⟩ := hb5 kk1; clear hb kk1))
     go_ret
     exact ⟨rfl, HBB1.out⟩
   · skip
     cases b2
     · go_enter Tryz.func35, Tryz.ntmps35
       go_wp2_with (first
        | (go_at_call 82; ((with_reducible refine (Hb1.out _).mono ?_); rintro e w1 ⟨rfl, hb⟩; have HBB1 := Hd ((below_alloc w _).trans (hb.mono (by simp))); have kk1 := hb_below K0.out hb (by simp); have LX1 := Hd ((LX0.out _).under rfl hb); have HK1 := Hd (HK0.out.below hb); have K1 := Hd kk1; obtain ⟨r1_0, r1_1, r1_2, r1_3, r1_4⟩ := hb5 kk1; clear hb kk1))
        | (go_at_call 63; ((with_reducible refine (Hb2.out _).mono ?_); rintro e w2 ⟨rfl, hb⟩; have HBB2 := Hd (HBB1.out.trans (hb.mono HBB1.out.size)); have kk2 := hb_below K1.out hb (hb_lt K1.out); have LX2 := Hd (LX1.out.under rfl hb); have HK2 := Hd (HK1.out.below hb); have K2 := Hd kk2; obtain ⟨r2_0, r2_1, r2_2, r2_3, r2_4⟩ := hb5 kk2; clear hb kk2)))
       go_ret
       exact ⟨rfl, HBB2.out⟩
     · skip
       cases b3
       · go_enter Tryz.func35, Tryz.ntmps35
         go_wp2_with (first
          | (go_at_call 82; ((with_reducible refine (Hb1.out _).mono ?_); rintro e w1 ⟨rfl, hb⟩; have HBB1 := Hd ((below_alloc w _).trans (hb.mono (by simp))); have kk1 := hb_below K0.out hb (by simp); have LX1 := Hd ((LX0.out _).under rfl hb); have HK1 := Hd (HK0.out.below hb); have K1 := Hd kk1; obtain ⟨r1_0, r1_1, r1_2, r1_3, r1_4⟩ := hb5 kk1; clear hb kk1))
          | (go_at_call 63; ((with_reducible refine (Hb2.out _).mono ?_); rintro e w2 ⟨rfl, hb⟩; have HBB2 := Hd (HBB1.out.trans (hb.mono HBB1.out.size)); have kk2 := hb_below K1.out hb (hb_lt K1.out); have LX2 := Hd (LX1.out.under rfl hb); have HK2 := Hd (HK1.out.below hb); have K2 := Hd kk2; obtain ⟨r2_0, r2_1, r2_2, r2_3, r2_4⟩ := hb5 kk2; clear hb kk2)))
         go_ret
         exact ⟨rfl, HBB2.out⟩
       · skip
         go_enter Tryz.func35, Tryz.ntmps35
         go_wp2_with (first
          | (go_at_call 82; ((with_reducible refine (Hb1.out _).mono ?_); rintro e w1 ⟨rfl, hb⟩; have HBB1 := Hd ((below_alloc w _).trans (hb.mono (by simp))); have kk1 := hb_below K0.out hb (by simp); have LX1 := Hd ((LX0.out _).under rfl hb); have HK1 := Hd (HK0.out.below hb); have K1 := Hd kk1; obtain ⟨r1_0, r1_1, r1_2, r1_3, r1_4⟩ := hb5 kk1; clear hb kk1))
          | (go_at_call 63; ((with_reducible refine (Hb2.out _).mono ?_); rintro e w2 ⟨rfl, hb⟩; have HBB2 := Hd (HBB1.out.trans (hb.mono HBB1.out.size)); have kk2 := hb_below K1.out hb (hb_lt K1.out); have LX2 := Hd (LX1.out.under rfl hb); have HK2 := Hd (HK1.out.below hb); have K2 := Hd kk2; obtain ⟨r2_0, r2_1, r2_2, r2_3, r2_4⟩ := hb5 kk2; clear hb kk2))
          | (go_at_call 97; ((with_reducible refine (Hb4.out _ LX2.out HK2.out).mono ?_); rintro e w3 ⟨rfl, hb⟩; have HBB3 := Hd (HBB2.out.trans (hb.mono HBB2.out.size)); have kk3 := hb_below K2.out hb (hb_lt K2.out); have LX3 := Hd (LX2.out.under rfl hb); have HK3 := Hd (HK2.out.below hb); have K3 := Hd kk3; obtain ⟨r3_0, r3_1, r3_2, r3_3, r3_4⟩ := hb5 kk3; clear hb kk3)))
         go_ret
         exact ⟨rfl, HBB3.out⟩
 have d26 : (k == 26) = false := by simpa using hk26
 by_cases hk27 : k = 27
 · subst hk27
   rw [show exprB (d + 1) (.mk 27 p n N kids) = (onlyB ⟨#[]⟩ p n N && ((kids.length == 2) && (kids.all (exprB d)))) from by rw [exprB, if_neg (by decide), if_neg (by decide), if_neg (by decide), if_neg (by decide), if_neg (by decide), if_neg (by decide), if_pos rfl, only_no, zip_two13]]
   have Hb1 := Hd (fun W => only_any 27 p n N q kids.length c ⟨#[]⟩ (by decide) W)
   have Hb4 := Hd (fun W hW hk => exprs_any (exprB d) d kids hd hg (.slice q kids.length c) W hW hk)
   have hnew := hb_new w (.cells #[.int .i64 27, .string p, .string n, .int .i64 N, .slice q kids.length c] 24)
   have K0 := Hd hnew
   have LX0 := Hd (fun o => hw.under rfl (below_alloc w o))
   have HK0 := Hd (hk.below (below_alloc w (.cells #[.int .i64 27, .string p, .string n, .int .i64 N, .slice q kids.length c] 24)))
   have hL2 : ((kids.length : Int) == 2) = (kids.length == 2) := by rw [Bool.eq_iff_iff]; simp; omega
   generalize onlyB ⟨#[]⟩ p n N = b1 at *
   generalize (kids.length == 2) = b2 at *
   generalize kids.all (exprB d) = b4 at *
   clear hw hk hG hg hp hn hN' hd hnew
   cases b1
   · go_enter Tryz.func35, Tryz.ntmps35
     go_wp2_with (go_at_call 82; ((with_reducible refine (Hb1.out _).mono ?_); rintro e w1 ⟨rfl, hb⟩; have HBB1 := Hd ((below_alloc w _).trans (hb.mono (by simp))); have kk1 := hb_below K0.out hb (by simp); have LX1 := Hd ((LX0.out _).under rfl hb); have HK1 := Hd (HK0.out.below hb); have K1 := Hd kk1; obtain ⟨r1_0, r1_1, r1_2, r1_3, r1_4⟩ := hb5 kk1; clear hb kk1))
     go_ret
     exact ⟨rfl, HBB1.out⟩
   · skip
     cases b2
     · go_enter Tryz.func35, Tryz.ntmps35
       go_wp2_with (go_at_call 82; ((with_reducible refine (Hb1.out _).mono ?_); rintro e w1 ⟨rfl, hb⟩; have HBB1 := Hd ((below_alloc w _).trans (hb.mono (by simp))); have kk1 := hb_below K0.out hb (by simp); have LX1 := Hd ((LX0.out _).under rfl hb); have HK1 := Hd (HK0.out.below hb); have K1 := Hd kk1; obtain ⟨r1_0, r1_1, r1_2, r1_3, r1_4⟩ := hb5 kk1; clear hb kk1))
       go_ret
       exact ⟨rfl, HBB1.out⟩
     · skip
       go_enter Tryz.func35, Tryz.ntmps35
       go_wp2_with (first
        | (go_at_call 82; ((with_reducible refine (Hb1.out _).mono ?_); rintro e w1 ⟨rfl, hb⟩; have HBB1 := Hd ((below_alloc w _).trans (hb.mono (by simp))); have kk1 := hb_below K0.out hb (by simp); have LX1 := Hd ((LX0.out _).under rfl hb); have HK1 := Hd (HK0.out.below hb); have K1 := Hd kk1; obtain ⟨r1_0, r1_1, r1_2, r1_3, r1_4⟩ := hb5 kk1; clear hb kk1))
        | (go_at_call 97; ((with_reducible refine (Hb4.out _ LX1.out HK1.out).mono ?_); rintro e w2 ⟨rfl, hb⟩; have HBB2 := Hd (HBB1.out.trans (hb.mono HBB1.out.size)); have kk2 := hb_below K1.out hb (hb_lt K1.out); have LX2 := Hd (LX1.out.under rfl hb); have HK2 := Hd (HK1.out.below hb); have K2 := Hd kk2; obtain ⟨r2_0, r2_1, r2_2, r2_3, r2_4⟩ := hb5 kk2; clear hb kk2)))
       go_ret
       exact ⟨rfl, HBB2.out⟩
 have d27 : (k == 27) = false := by simpa using hk27
 by_cases hk28 : k = 28
 · subst hk28
   refine (exprD_28 d hd p n N q c kids hp hn hm hg w hw hk).mono fun e w' h => h.eq ?_
   rw [exprB, if_neg (by decide), if_neg (by decide), if_neg (by decide), if_neg (by decide), if_neg (by decide), if_neg (by decide), if_neg (by decide), if_pos rfl, letB, named_let]; simp only [Bool.and_assoc]
 have d28 : (k == 28) = false := by simpa using hk28
 by_cases hk29 : k = 29
 · subst hk29
   refine (exprD_29 (patB d) (exprB d) d (patD_any d) hd p n N q c kids hm hg w hw hk).mono fun e w' h => h.eq ?_
   rw [exprB, if_neg (by decide), if_neg (by decide), if_neg (by decide), if_neg (by decide), if_neg (by decide), if_neg (by decide), if_neg (by decide), if_neg (by decide), if_pos rfl, only_no]
 have d29 : (k == 29) = false := by simpa using hk29
 by_cases hk30 : k = 30
 · subst hk30
   refine (exprD_30 d hd p n N q c kids hp hn hm hg w hw hk).mono fun e w' h => h.eq ?_
   rw [exprB, if_neg (by decide), if_neg (by decide), if_neg (by decide), if_neg (by decide), if_neg (by decide), if_neg (by decide), if_neg (by decide), if_neg (by decide), if_neg (by decide), if_pos rfl, only_no]
 have d30 : (k == 30) = false := by simpa using hk30
 rw [show exprB (d + 1) (.mk k p n N kids) = false from by simp only [exprB, if_neg hk21, if_neg hk22, if_neg hk23, if_neg hk24, if_neg hk25, if_neg hk26, if_neg hk27, if_neg hk28, if_neg hk29, if_neg hk30]]
 clear hw hk hG hg hp hn hN' hd
 go_enter Tryz.func35, Tryz.ntmps35
 go_wp2
 go_ret
 exact ⟨rfl, below_alloc w _⟩
theorem exprD_any (d : Nat) : Judge 35 (exprB d) d := by
 induction d with
 | zero => intro v x W h; cases h
 | succ d ih => exact exprD_next d ih
theorem doc14_any (d : Nat) (k : Int) (p n : ByteArray) (N : Int) (q : Option Addr) (c ln : Nat) (x : Tm) (w : World) (h : IsT w d (tv k p n N (.slice q ln c)) x) (hG : Gd d x) (hw : LxW w) (ht : tby d x ≤ 12000) :
 Calls Tryz.prog 14 #[tv k p n N (.slice q ln c)] w fun e w' => e = .returned (.string (if exprB d x = true then ofL (txt d x) else ⟨#[]⟩)) ∧ Below w.heap.size w w' := by
 have hb1 := below_alloc w (.cells #[.int .i64 k, .string p, .string n, .int .i64 N, .slice q ln c] 24)
 have HI := Hd (exprD_any d _ x _ (h.below hb1) hG (hw.below hb1))
 have HX := Hd h
 have HN := Hd (hb_new w (.cells #[.int .i64 k, .string p, .string n, .int .i64 N, .slice q ln c] 24))
 cases hB : exprB d x
 · rw [hB] at HI
   clear h hw hG ht hb1
   go_enter Tryz.func14, Tryz.ntmps14
   go_wp2_with (go_at_call 35; refine HI.out.mono ?_; rintro e w1 ⟨rfl, k1⟩)
   go_ret
   exact ⟨rfl, (below_alloc w _).trans (k1.mono (by simp))⟩
 · rw [hB] at HI
   have h2 : RowKit.Hid (∀ W, Below w.heap.size w W → Calls Tryz.prog 36 #[tv k p n N (.slice q ln c)] W fun e w' => e = .returned (.string (ofL (txt d x))) ∧ Below W.heap.size W w') := Hd fun W hW => expr_any9 d _ x W (h.below hW) hB hG ht
   clear h hw hG ht hb1
   generalize hTe : txt d x = S at *
   have HTe := Hd hTe
   clear hTe
   go_enter Tryz.func14, Tryz.ntmps14
   go_wp2_with (go_at_call 35; refine HI.out.mono ?_; rintro e w1 ⟨rfl, k1⟩; have HB := Hd ((below_alloc w (.cells #[.int .i64 k, .string p, .string n, .int .i64 N, .slice q ln c] 24)).trans (k1.mono (by simp))); have kb := hb_below HN.out k1 (by simp); obtain ⟨b0, b1, b2, b3, b4⟩ := hb5 kb; clear kb k1)
   go_wp2_with (go_at_call 36; refine (h2.out _ HB.out).mono ?_; rintro e w2 ⟨rfl, k2⟩)
   go_ret
   exact ⟨by simp [HTe.out], HB.out.trans (k2.mono HB.out.size)⟩
end Go.Proofs.YtmkjalnlldpdcaaGreatDoor
