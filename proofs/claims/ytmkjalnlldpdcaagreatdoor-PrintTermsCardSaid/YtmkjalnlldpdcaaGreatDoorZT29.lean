/- Texts in a row: Ve Vf Vg Vh. -/
import Derived.Test.YtmkjalnlldpdcaaGreatDoorZT28
import Derived.Test.YtmkjalnlldpdcaaGreatDoorZT19
set_option maxHeartbeats 16000000
set_option maxRecDepth 100000
namespace Go.Proofs.YtmkjalnlldpdcaaGreatDoor
open Go.RowKit
set_option linter.unusedSimpArgs false
set_option linter.unusedVariables false
theorem typ_1 (p n : ByteArray) (N : Int) (q : Option Addr) (ln c : Nat) (w : World) (hn : n.size ≤ 100000) :
 Calls Tryz.prog 30 #[tv 1 p n N (.slice q ln c)] w fun e w' => e = .returned (.string (ofL (tellT ⟨3, n, 0⟩))) ∧ Below w.heap.size w w' := by
 have he : tellT ⟨3, n, 0⟩ = 39 :: n.data.toList := rfl
 have hs : (⟨#[39]⟩ : ByteArray) ++ n = ofL (39 :: n.data.toList) := str_add _ _
 rw [he]
 have hS1 : (⟨#[39]⟩ : ByteArray).size + n.size ≤ 1000000000 := by have : (⟨#[39]⟩ : ByteArray).size = 1 := rfl; omega
 have HS := Hd hs
 clear hs
 go_enter Tryz.func30, Tryz.ntmps30
 go_wp2
 go_ret
 exact ⟨congrArg (fun s => Ending.returned (.string s)) HS.out, below_alloc w _⟩
theorem typ_4 (d : Nat) (HD : DocC 30 typeB d) (p n : ByteArray) (N : Int) (q : Option Addr) (c : Nat) (kids : List Tm) (w : World) (hk : KidsT w d (.slice q kids.length c) kids) (hB : ∀ x ∈ kids, typeB d x = true) (hG : ∀ x ∈ kids, Gd d x) (ht : ∀ x ∈ kids, tby d x ≤ 12000) (hlen : kids.length ≤ 12000)
 (hl : (heldT (kids.map (txt d))).length ≤ 1000000000) :
 Calls Tryz.prog 30 #[tv 4 p n N (.slice q kids.length c)] w fun e w' => e = .returned (.string (ofL (heldT (kids.map (txt d))))) ∧ Below w.heap.size w w' := by
 have hb0 := below_alloc w (.cells #[.int .i64 4, .string p, .string n, .int .i64 N, .slice q kids.length c] 24)
 have HTY := Hd (typs9_any d HD _ kids _ (hk.below hb0) hB hG ht hlen)
 have HAL : RowKit.Hid (∀ W v, RowS9 W v (kids.map fun y => ofL (txt d y)) → Calls Tryz.prog 88 #[v] W fun e w' => e = .returned (.string (ofL (heldT (kids.map (txt d))))) ∧ W = w') := Hd fun W v hv => by
  have := all_any v _ W hv (by rw [tls_ofL]; exact hl)
  rw [tls_ofL] at this
  exact this
 have HLEN : RowKit.Hid ((kids.map fun y => ofL (txt d y)).length ≤ 100000) := Hd Q61
 clear hk hB hG ht hl HD hb0
 generalize heldT (kids.map (txt d)) = T at *
 generalize (kids.map fun y => ofL (txt d y)) = SS at *
 go_enter Tryz.func30, Tryz.ntmps30
 go_wp2_with (first
  | (go_at_call 87; refine HTY.out.mono ?_; rintro e w1 ⟨v1, rfl, hT1⟩; have HT1 := Hd hT1; clear hT1)
  | (go_at_call 88; refine (HAL.out _ _ (ofTxS HT1.out HLEN.out)).mono ?_; rintro e w2 ⟨rfl, rfl⟩))
 go_ret
 exact ⟨rfl, (below_alloc w _).trans (HT1.out.1.mono (by simp))⟩
theorem typ_3 (d : Nat) (HD : DocC 30 typeB d) (p n : ByteArray) (N : Int) (q : Option Addr) (c : Nat) (A C : Tm) (w : World) (hk : KidsT w d (.slice q 2 c) [A, C]) (hB : ∀ x ∈ [A, C], typeB d x = true) (hG : ∀ x ∈ [A, C], Gd d x) (ht : ∀ x ∈ [A, C], tby d x ≤ 12000)
 (hl : (txt d A).length + (txt d C).length ≤ 1000000) :
 Calls Tryz.prog 30 #[tv 3 p n N (.slice q 2 c)] w fun e w' => e = .returned (.string (ofL (withinT (kdM A == 3) (txt d A) ++ ([32, 45, 62, 32] ++ txt d C)))) ∧ Below w.heap.size w w' := by
 obtain ⟨_, _, e, _, hr⟩ := hk
 cases e
 obtain ⟨gg, oo, kk0, pp0, nn0, NN0, a4, eq0, ha0, ht0⟩ := hr 0 A rfl
 subst eq0
 obtain ⟨gg1, oo1, kk1, pp1, nn1, NN1, c4, eq1, ha1, ht1⟩ := hr 1 C rfl
 cases eq1
 obtain ⟨q0, l0, c0, rfl⟩ := ht0.spell
 obtain ⟨q1, l1, c1, rfl⟩ := ht1.spell
 have hkd : kdM A = kk0 := by
  obtain ⟨dm, z0, z1, z2, z3, z4, ks, ed, rfl, e0, _, _, _⟩ := ht0.open
  simp only [tv, Value.agg.injEq, Array.mk.injEq, List.cons.injEq, Value.int.injEq, Value.string.injEq, true_and, and_true] at e0
  exact e0.1.symm
 rw [hkd]
 simp only [Nat.zero_mul, Nat.one_mul, Nat.add_zero] at ha0 ha1
 have HA0 := Hd ha0
 have HA1 := Hd ha1
 obtain ⟨SA, hSA⟩ : ∃ SA, SA = ofL (txt d A) := ⟨_, rfl⟩
 obtain ⟨SC, hSC⟩ : ∃ SC, SC = ofL (txt d C) := ⟨_, rfl⟩
 have h0 : RowKit.Hid (∀ W, Below w.heap.size w W → Calls Tryz.prog 30 #[tv kk0 pp0 nn0 NN0 (.slice q0 l0 c0)] W fun e w' => e = .returned (.string SA) ∧ Below W.heap.size W w') := Hd fun W hW => by rw [hSA]; exact HD _ A W (ht0.below hW) (hB _ (by simp)) (hG _ (by simp)) (ht _ (by simp))
 have h1 : RowKit.Hid (∀ W, Below w.heap.size w W → Calls Tryz.prog 30 #[tv kk1 pp1 nn1 NN1 (.slice q1 l1 c1)] W fun e w' => e = .returned (.string SC) ∧ Below W.heap.size W w') := Hd fun W hW => by rw [hSC]; exact HD _ C W (ht1.below hW) (hB _ (by simp)) (hG _ (by simp)) (ht _ (by simp))
 have HNW := Hd (hb_new w (.cells #[.int .i64 3, .string p, .string n, .int .i64 N, .slice (some ⟨gg, oo, none⟩) 2 c] 24))
 obtain ⟨X0, X1, X2, X3, X4⟩ := ha0.below (below_alloc w (.cells #[.int .i64 3, .string p, .string n, .int .i64 N, .slice (some ⟨gg, oo, none⟩) 2 c] 24)) ha0.lt
 clear hr ha0 ha1 ht0 ht1 hB hG ht HD hkd
 by_cases h3 : kk0 = 3
 · subst h3
   have hwi : withinT ((3 : Int) == 3) (txt d A) = 40 :: (txt d A ++ [41]) := rfl
   rw [hwi]
   have hS1 : (⟨#[40]⟩ : ByteArray).size + SA.size ≤ 1000000000 := by rw [show (⟨#[40]⟩ : ByteArray).size = 1 from rfl, hSA, ofL_size]; omega
   have hS2 : ((⟨#[40]⟩ : ByteArray) ++ SA).size + 1 ≤ 1000000000 := by rw [ByteArray.size_append, show (⟨#[40]⟩ : ByteArray).size = 1 from rfl, hSA, ofL_size]; omega
   have hS3 : (((⟨#[40]⟩ : ByteArray) ++ SA) ++ ⟨#[41]⟩).size + 4 ≤ 1000000000 := by rw [ByteArray.size_append, ByteArray.size_append, show (⟨#[40]⟩ : ByteArray).size = 1 from rfl, show (⟨#[41]⟩ : ByteArray).size = 1 from rfl, hSA, ofL_size]; omega
   have hS4 : ((((⟨#[40]⟩ : ByteArray) ++ SA) ++ ⟨#[41]⟩) ++ ⟨#[32, 45, 62, 32]⟩).size + SC.size ≤ 1000000000 := by rw [ByteArray.size_append, ByteArray.size_append, ByteArray.size_append, show (⟨#[40]⟩ : ByteArray).size = 1 from rfl, show (⟨#[41]⟩ : ByteArray).size = 1 from rfl, show (⟨#[32, 45, 62, 32]⟩ : ByteArray).size = 4 from rfl, hSA, hSC, ofL_size, ofL_size]; omega
   have HE : RowKit.Hid ((((⟨#[40]⟩ ++ SA) ++ ⟨#[41]⟩) ++ ⟨#[32, 45, 62, 32]⟩) ++ SC = ofL ((40 :: (txt d A ++ [41])) ++ ([32, 45, 62, 32] ++ txt d C))) := Hd Q50
   clear hSA hSC hl
   go_enter Tryz.func30, Tryz.ntmps30
   go_wp2_with (go_at_call 30; (with_reducible show Calls Tryz.prog 30 #[tv 3 pp0 nn0 NN0 (.slice q0 l0 c0)] _ _); refine (h0.out _ (below_alloc w _)).mono ?_; rintro e w1 ⟨rfl, hb⟩; have HB := Hd ((below_alloc w _).trans (hb.mono (by simp))); have kb := hb_below HNW.out hb (by simp); obtain ⟨m0, m1, m2, m3, m4⟩ := hb5 kb; obtain ⟨x0, x1, x2, x3, x4⟩ := HA0.out.below HB.out HA0.out.lt; obtain ⟨y0, y1, y2, y3, y4⟩ := HA1.out.below HB.out HA1.out.lt; clear hb kb)
   go_wp2_with (go_at_call 30; refine (h1.out _ HB.out).mono ?_; rintro e w2 ⟨rfl, hb⟩)
   go_ret
   exact ⟨congrArg (fun s => Ending.returned (.string s)) HE.out, HB.out.trans (hb.mono HB.out.size)⟩
 · have hwi : withinT (kk0 == 3) (txt d A) = txt d A := by rw [beq_eq_false_iff_ne.2 h3]; rfl
   rw [hwi]
   have hS3 : SA.size + 4 ≤ 1000000000 := by rw [hSA, ofL_size]; omega
   have hS4 : (SA ++ ⟨#[32, 45, 62, 32]⟩).size + SC.size ≤ 1000000000 := by rw [ByteArray.size_append, show (⟨#[32, 45, 62, 32]⟩ : ByteArray).size = 4 from rfl, hSA, hSC, ofL_size, ofL_size]; omega
   have HE : RowKit.Hid ((SA ++ ⟨#[32, 45, 62, 32]⟩) ++ SC = ofL (txt d A ++ ([32, 45, 62, 32] ++ txt d C))) := Hd Q50
   clear hSA hSC hl
   go_enter Tryz.func30, Tryz.ntmps30
   go_wp2_with (go_at_call 30; (with_reducible show Calls Tryz.prog 30 #[tv kk0 pp0 nn0 NN0 (.slice q0 l0 c0)] _ _); refine (h0.out _ (below_alloc w _)).mono ?_; rintro e w1 ⟨rfl, hb⟩; have HB := Hd ((below_alloc w _).trans (hb.mono (by simp))); have kb := hb_below HNW.out hb (by simp); obtain ⟨m0, m1, m2, m3, m4⟩ := hb5 kb; obtain ⟨x0, x1, x2, x3, x4⟩ := HA0.out.below HB.out HA0.out.lt; obtain ⟨y0, y1, y2, y3, y4⟩ := HA1.out.below HB.out HA1.out.lt; clear hb kb)
   go_wp2_with (go_at_call 30; refine (h1.out _ HB.out).mono ?_; rintro e w2 ⟨rfl, hb⟩)
   go_ret
   exact ⟨congrArg (fun s => Ending.returned (.string s)) HE.out, HB.out.trans (hb.mono HB.out.size)⟩
theorem number_doc (N : Int) (hr : RightT ⟨4, ⟨#[]⟩, N⟩) (w : World) : Calls Tryz.prog 92 #[.int .i64 N] w fun e w' => e = .returned (.string (ofL (tellT ⟨4, ⟨#[]⟩, N⟩))) ∧ Below w.heap.size w w' := by
 have hf := ((right_iff ⟨4, ⟨#[]⟩, N⟩).1 hr).2.2.2.1
 have HT : RowKit.Hid (Calls Tryz.prog 147 #[.agg #[.int .i64 4, .string ⟨#[]⟩, .int .i64 N, .int .i64 0]] w fun e w' => e = .returned (.string (ofL (tellT ⟨4, ⟨#[]⟩, N⟩))) ∧ Below w.heap.size w w') := Hd (told_doc ⟨4, ⟨#[]⟩, N⟩ 0 (by show 0 ≤ 4194304; decide) hf w)
 clear hf hr
 generalize tellT ⟨4, ⟨#[]⟩, N⟩ = T at *
 go_enter Tryz.func92, Tryz.ntmps92
 go_wp2_with (go_at_call 147; refine HT.out.mono ?_; rintro e w1 ⟨rfl, hb⟩)
 go_ret
 exact ⟨rfl, hb⟩
theorem pat_11 (p n : ByteArray) (N : Int) (q : Option Addr) (ln c : Nat) (w : World) :
 Calls Tryz.prog 33 #[tv 11 p n N (.slice q ln c)] w fun e w' => e = .returned (.string (ofL [95])) ∧ Below w.heap.size w w' := by
 go_enter Tryz.func33, Tryz.ntmps33
 go_wp2
 go_ret
 exact ⟨rfl, below_alloc w _⟩
theorem pat_13 (p n : ByteArray) (N : Int) (q : Option Addr) (ln c : Nat) (w : World) (hr : RightT ⟨4, ⟨#[]⟩, N⟩) :
 Calls Tryz.prog 33 #[tv 13 p n N (.slice q ln c)] w fun e w' => e = .returned (.string (ofL (tellT ⟨4, ⟨#[]⟩, N⟩))) ∧ Below w.heap.size w w' := by
 have HT := Hd (number_doc N hr (w.alloc (.cells #[.int .i64 13, .string p, .string n, .int .i64 N, .slice q ln c] 24)))
 clear hr
 generalize tellT ⟨4, ⟨#[]⟩, N⟩ = T at *
 go_enter Tryz.func33, Tryz.ntmps33
 go_wp2_with (go_at_call 92; refine HT.out.mono ?_; rintro e w1 ⟨rfl, hb⟩)
 go_ret
 exact ⟨rfl, (below_alloc w _).trans (hb.mono (by simp))⟩
theorem pat_14 (p n : ByteArray) (N : Int) (q : Option Addr) (ln c : Nat) (w : World) (hn : n.size ≤ 100000) :
 Calls Tryz.prog 33 #[tv 14 p n N (.slice q ln c)] w fun e w' => e = .returned (.string (ofL (tellT ⟨5, n, 0⟩))) ∧ Below w.heap.size w w' := by
 have HT := Hd (textT_doc n (by omega) (w.alloc (.cells #[.int .i64 14, .string p, .string n, .int .i64 N, .slice q ln c] 24)))
 have he : tellT ⟨5, n, 0⟩ = telL n.data.toList := rfl
 rw [he]
 clear he
 generalize telL n.data.toList = T at *
 go_enter Tryz.func33, Tryz.ntmps33
 go_wp2_with (go_at_call 93; refine HT.out.mono ?_; rintro e w1 ⟨rfl, hb⟩)
 go_ret
 exact ⟨rfl, by rw [← hb]; exact below_alloc w _⟩
theorem pat_16 (d : Nat) (HD : DocC 33 patB d) (p n : ByteArray) (N : Int) (q : Option Addr) (c : Nat) (kids : List Tm) (w : World) (hk : KidsT w d (.slice q kids.length c) kids) (hB : ∀ x ∈ kids, patB d x = true) (hG : ∀ x ∈ kids, Gd d x) (ht : ∀ x ∈ kids, tby d x ≤ 12000) (hlen : kids.length ≤ 12000)
 (hl : (heldT (kids.map (txt d))).length ≤ 1000000000) :
 Calls Tryz.prog 33 #[tv 16 p n N (.slice q kids.length c)] w fun e w' => e = .returned (.string (ofL (heldT (kids.map (txt d))))) ∧ Below w.heap.size w w' := by
 have hb0 := below_alloc w (.cells #[.int .i64 16, .string p, .string n, .int .i64 N, .slice q kids.length c] 24)
 have HTY := Hd (pats9_any d HD _ kids _ (hk.below hb0) hB hG ht hlen)
 have HAL : RowKit.Hid (∀ W v, RowS9 W v (kids.map fun y => ofL (txt d y)) → Calls Tryz.prog 88 #[v] W fun e w' => e = .returned (.string (ofL (heldT (kids.map (txt d))))) ∧ W = w') := Hd fun W v hv => by
  have := all_any v _ W hv (by rw [tls_ofL]; exact hl)
  rw [tls_ofL] at this
  exact this
 have HLEN : RowKit.Hid ((kids.map fun y => ofL (txt d y)).length ≤ 100000) := Hd Q61
 clear hk hB hG ht hl HD hb0
 generalize heldT (kids.map (txt d)) = T at *
 generalize (kids.map fun y => ofL (txt d y)) = SS at *
 go_enter Tryz.func33, Tryz.ntmps33
 go_wp2_with (first
  | (go_at_call 94; refine HTY.out.mono ?_; rintro e w1 ⟨v1, rfl, hT1⟩; have HT1 := Hd hT1; clear hT1)
  | (go_at_call 88; refine (HAL.out _ _ (ofTxS HT1.out HLEN.out)).mono ?_; rintro e w2 ⟨rfl, rfl⟩))
 go_ret
 exact ⟨rfl, (below_alloc w _).trans (HT1.out.1.mono (by simp))⟩
theorem expr_22 (p n : ByteArray) (N : Int) (q : Option Addr) (ln c : Nat) (w : World) (hr : RightT ⟨4, ⟨#[]⟩, N⟩) :
 Calls Tryz.prog 36 #[tv 22 p n N (.slice q ln c)] w fun e w' => e = .returned (.string (ofL (tellT ⟨4, ⟨#[]⟩, N⟩))) ∧ Below w.heap.size w w' := by
 have HT := Hd (number_doc N hr (w.alloc (.cells #[.int .i64 22, .string p, .string n, .int .i64 N, .slice q ln c] 24)))
 clear hr
 generalize tellT ⟨4, ⟨#[]⟩, N⟩ = T at *
 go_enter Tryz.func36, Tryz.ntmps36
 go_wp2_with (go_at_call 92; refine HT.out.mono ?_; rintro e w1 ⟨rfl, hb⟩)
 go_ret
 exact ⟨rfl, (below_alloc w _).trans (hb.mono (by simp))⟩
theorem expr_23 (p n : ByteArray) (N : Int) (q : Option Addr) (ln c : Nat) (w : World) (hn : n.size ≤ 100000) :
 Calls Tryz.prog 36 #[tv 23 p n N (.slice q ln c)] w fun e w' => e = .returned (.string (ofL (tellT ⟨5, n, 0⟩))) ∧ Below w.heap.size w w' := by
 have HT := Hd (textT_doc n (by omega) (w.alloc (.cells #[.int .i64 23, .string p, .string n, .int .i64 N, .slice q ln c] 24)))
 have he : tellT ⟨5, n, 0⟩ = telL n.data.toList := rfl
 rw [he]
 clear he
 generalize telL n.data.toList = T at *
 go_enter Tryz.func36, Tryz.ntmps36
 go_wp2_with (go_at_call 93; refine HT.out.mono ?_; rintro e w1 ⟨rfl, hb⟩)
 go_ret
 exact ⟨rfl, by rw [← hb]; exact below_alloc w _⟩
theorem expr_25 (d : Nat) (HD : DocC 36 exprB d) (p n : ByteArray) (N : Int) (q : Option Addr) (c : Nat) (kids : List Tm) (w : World) (hk : KidsT w d (.slice q kids.length c) kids) (hB : ∀ x ∈ kids, exprB d x = true) (hG : ∀ x ∈ kids, Gd d x) (ht : ∀ x ∈ kids, tby d x ≤ 12000) (hlen : kids.length ≤ 12000)
 (hl : (heldT (kids.map (txt d))).length ≤ 1000000000) :
 Calls Tryz.prog 36 #[tv 25 p n N (.slice q kids.length c)] w fun e w' => e = .returned (.string (ofL (heldT (kids.map (txt d))))) ∧ Below w.heap.size w w' := by
 have hb0 := below_alloc w (.cells #[.int .i64 25, .string p, .string n, .int .i64 N, .slice q kids.length c] 24)
 have HTY := Hd (exprs9_any d HD _ kids _ (hk.below hb0) hB hG ht hlen)
 have HAL : RowKit.Hid (∀ W v, RowS9 W v (kids.map fun y => ofL (txt d y)) → Calls Tryz.prog 88 #[v] W fun e w' => e = .returned (.string (ofL (heldT (kids.map (txt d))))) ∧ W = w') := Hd fun W v hv => by
  have := all_any v _ W hv (by rw [tls_ofL]; exact hl)
  rw [tls_ofL] at this
  exact this
 have HLEN : RowKit.Hid ((kids.map fun y => ofL (txt d y)).length ≤ 100000) := Hd Q61
 clear hk hB hG ht hl HD hb0
 generalize heldT (kids.map (txt d)) = T at *
 generalize (kids.map fun y => ofL (txt d y)) = SS at *
 go_enter Tryz.func36, Tryz.ntmps36
 go_wp2_with (first
  | (go_at_call 98; refine HTY.out.mono ?_; rintro e w1 ⟨v1, rfl, hT1⟩; have HT1 := Hd hT1; clear hT1)
  | (go_at_call 88; refine (HAL.out _ _ (ofTxS HT1.out HLEN.out)).mono ?_; rintro e w2 ⟨rfl, rfl⟩))
 go_ret
 exact ⟨rfl, (below_alloc w _).trans (HT1.out.1.mono (by simp))⟩
theorem pat_12 (d : Nat) (HD : DocC 33 patB d) (p n : ByteArray) (N : Int) (q : Option Addr) (c : Nat) (kids : List Tm) (w : World) (hk : KidsT w d (.slice q kids.length c) kids) (hB : ∀ x ∈ kids, patB d x = true) (hG : ∀ x ∈ kids, Gd d x) (ht : ∀ x ∈ kids, tby d x ≤ 12000) (hlen : kids.length ≤ 12000)
 (hl : (qualT p n ++ (if kids.length = 0 then [] else heldT (kids.map (txt d)))).length ≤ 1000000000) :
 Calls Tryz.prog 33 #[tv 12 p n N (.slice q kids.length c)] w fun e w' => e = .returned (.string (ofL (qualT p n ++ (if kids.length = 0 then [] else heldT (kids.map (txt d)))))) ∧ Below w.heap.size w w' := by
 have hb0 := below_alloc w (.cells #[.int .i64 12, .string p, .string n, .int .i64 N, .slice q kids.length c] 24)
 have hn0 := hb_new w (.cells #[.int .i64 12, .string p, .string n, .int .i64 N, .slice q kids.length c] 24)
 have hz0 : w.heap.size ≤ (w.alloc (.cells #[.int .i64 12, .string p, .string n, .int .i64 N, .slice q kids.length c] 24)).heap.size := by simp
 have HTY : RowKit.Hid (∀ W, Below (w.alloc (.cells #[.int .i64 12, .string p, .string n, .int .i64 N, .slice q kids.length c] 24)).heap.size (w.alloc (.cells #[.int .i64 12, .string p, .string n, .int .i64 N, .slice q kids.length c] 24)) W → Calls Tryz.prog 94 #[.slice q kids.length c] W fun e w' => ∃ v, e = .returned v ∧ TxS W v (kids.map fun y => ofL (txt d y)) w') :=
  Hd fun W hW => pats9_any d HD _ kids W ((hk.below hb0).below hW) hB hG ht hlen
 have HNM : RowKit.Hid (∀ W v, RowS9 W v (kids.map fun y => ofL (txt d y)) → Calls Tryz.prog 86 #[.agg #[.int .i64 12, .string p, .string n, .int .i64 N, .slice q kids.length c], v] W fun e w' => e = .returned (.string (ofL (qualT p n ++ (if kids.length = 0 then [] else heldT (kids.map (txt d)))))) ∧ Below W.heap.size W w') := Hd fun W v hv => by
  have := named9_any 12 p n N q kids.length c v _ W hv Q54
  rw [List.length_map, tls_ofL] at this
  exact this
 have HLEN : RowKit.Hid ((kids.map fun y => ofL (txt d y)).length ≤ 100000) := Hd Q61
 clear hk hB hG ht hl HD
 generalize qualT p n ++ (if kids.length = 0 then [] else heldT (kids.map (txt d))) = T at *
 generalize (kids.map fun y => ofL (txt d y)) = SS at *
 go_enter Tryz.func33, Tryz.ntmps33
 go_upto_region 10 with (fail)
 obtain ⟨x0, x1, x2, x3, x4⟩ := hb5 hn0
 generalize w.alloc (.cells #[.int .i64 12, .string p, .string n, .int .i64 N, .slice q kids.length c] 24) = wb at *
 clear hn0
 refine wp_region_held_drew (S := (fun w' => RowKit.Hid (Below wb.heap.size wb w') ∧ w'.cell? ⟨w.heap.size, 0, none⟩ = some (.int .i64 12) ∧ w'.cell? ⟨w.heap.size, 1, none⟩ = some (.string p) ∧ w'.cell? ⟨w.heap.size, 2, none⟩ = some (.string n) ∧ w'.cell? ⟨w.heap.size, 3, none⟩ = some (.int .i64 N) ∧ w'.cell? ⟨w.heap.size, 4, none⟩ = some (.slice q kids.length c))) Q70 Q37 (fun hHeld => ?_)
 refine tk 0 23 ?_
 refine tk 1 24 ?_
 refine tk 2 25 ?_
 refine wpAnyH_ready (rs := [3]) Q70 (by simp) ?_
 refine AllReadyH.cons (o := ⟨some 26, _, _, _, _, _⟩) rfl (fun K hK => ?_) AllReadyH.nil
 go_simp
 refine (HTY.out _ hHeld.1.out).mono ?_; rintro e w1 ⟨v1, rfl, hT1⟩; have hb := hT1.1
 go_wp2_with fail
 refine hK.out _ _ Q23 (fun hNew => ?_)
 clear hK K
 clear hHeld hb; have hHeld := hNew; clear hNew
 try simp only [Act.put, List.setIfInBounds_toArray, List.set_cons_zero, List.set_cons_succ]
 refine wpAnyH_ready (rs := [4]) Q70 (by simp) ?_
 refine AllReadyH.cons (o := ⟨some 27, _, _, _, _, _⟩) rfl (fun K hK => ?_) AllReadyH.nil
 go_simp
 refine (HNM.out _ _ (ofTxS hT1 HLEN.out)).mono ?_; rintro e w2 ⟨rfl, hb⟩
 go_wp2_with fail
 refine hK.out _ _ Q23 (fun hNew => ?_)
 clear hK K
 clear hHeld hb; have hHeld := hNew; clear hNew
 try simp only [Act.put, List.setIfInBounds_toArray, List.set_cons_zero, List.set_cons_succ]
 refine tk 5 2 ?_
 refine wpAnyH_done Q70 ?_ _
 go_wp2
 go_ret
 exact ⟨rfl, hb0.trans (hHeld.1.out.mono hz0)⟩
theorem pat_15 (d : Nat) (HD : DocC 33 patB d) (p n : ByteArray) (N : Int) (q : Option Addr) (c : Nat) (kids : List Tm) (w : World) (hk : KidsT w d (.slice q kids.length c) kids) (hB : ∀ x ∈ kids, patB d x = true) (hG : ∀ x ∈ kids, Gd d x) (ht : ∀ x ∈ kids, tby d x ≤ 12000) (hlen : kids.length ≤ 12000)
 (hl : (qualT p n ++ (if kids.length = 0 then [] else heldT (kids.map (txt d)))).length ≤ 1000000000) :
 Calls Tryz.prog 33 #[tv 15 p n N (.slice q kids.length c)] w fun e w' => e = .returned (.string (ofL (qualT p n ++ (if kids.length = 0 then [] else heldT (kids.map (txt d)))))) ∧ Below w.heap.size w w' := by
 have hb0 := below_alloc w (.cells #[.int .i64 15, .string p, .string n, .int .i64 N, .slice q kids.length c] 24)
 have hn0 := hb_new w (.cells #[.int .i64 15, .string p, .string n, .int .i64 N, .slice q kids.length c] 24)
 have hz0 : w.heap.size ≤ (w.alloc (.cells #[.int .i64 15, .string p, .string n, .int .i64 N, .slice q kids.length c] 24)).heap.size := by simp
 have HTY : RowKit.Hid (∀ W, Below (w.alloc (.cells #[.int .i64 15, .string p, .string n, .int .i64 N, .slice q kids.length c] 24)).heap.size (w.alloc (.cells #[.int .i64 15, .string p, .string n, .int .i64 N, .slice q kids.length c] 24)) W → Calls Tryz.prog 94 #[.slice q kids.length c] W fun e w' => ∃ v, e = .returned v ∧ TxS W v (kids.map fun y => ofL (txt d y)) w') :=
  Hd fun W hW => pats9_any d HD _ kids W ((hk.below hb0).below hW) hB hG ht hlen
 have HNM : RowKit.Hid (∀ W v, RowS9 W v (kids.map fun y => ofL (txt d y)) → Calls Tryz.prog 86 #[.agg #[.int .i64 15, .string p, .string n, .int .i64 N, .slice q kids.length c], v] W fun e w' => e = .returned (.string (ofL (qualT p n ++ (if kids.length = 0 then [] else heldT (kids.map (txt d)))))) ∧ Below W.heap.size W w') := Hd fun W v hv => by
  have := named9_any 15 p n N q kids.length c v _ W hv Q54
  rw [List.length_map, tls_ofL] at this
  exact this
 have HLEN : RowKit.Hid ((kids.map fun y => ofL (txt d y)).length ≤ 100000) := Hd Q61
 clear hk hB hG ht hl HD
 generalize qualT p n ++ (if kids.length = 0 then [] else heldT (kids.map (txt d))) = T at *
 generalize (kids.map fun y => ofL (txt d y)) = SS at *
 go_enter Tryz.func33, Tryz.ntmps33
 go_upto_region 10 with (fail)
 obtain ⟨x0, x1, x2, x3, x4⟩ := hb5 hn0
 generalize w.alloc (.cells #[.int .i64 15, .string p, .string n, .int .i64 N, .slice q kids.length c] 24) = wb at *
 clear hn0
 refine wp_region_held_drew (S := (fun w' => RowKit.Hid (Below wb.heap.size wb w') ∧ w'.cell? ⟨w.heap.size, 0, none⟩ = some (.int .i64 15) ∧ w'.cell? ⟨w.heap.size, 1, none⟩ = some (.string p) ∧ w'.cell? ⟨w.heap.size, 2, none⟩ = some (.string n) ∧ w'.cell? ⟨w.heap.size, 3, none⟩ = some (.int .i64 N) ∧ w'.cell? ⟨w.heap.size, 4, none⟩ = some (.slice q kids.length c))) Q70 Q37 (fun hHeld => ?_)
 refine tk 0 23 ?_
 refine tk 1 24 ?_
 refine tk 2 25 ?_
 refine wpAnyH_ready (rs := [3]) Q70 (by simp) ?_
 refine AllReadyH.cons (o := ⟨some 26, _, _, _, _, _⟩) rfl (fun K hK => ?_) AllReadyH.nil
 go_simp
 refine (HTY.out _ hHeld.1.out).mono ?_; rintro e w1 ⟨v1, rfl, hT1⟩; have hb := hT1.1
 go_wp2_with fail
 refine hK.out _ _ Q23 (fun hNew => ?_)
 clear hK K
 clear hHeld hb; have hHeld := hNew; clear hNew
 try simp only [Act.put, List.setIfInBounds_toArray, List.set_cons_zero, List.set_cons_succ]
 refine wpAnyH_ready (rs := [4]) Q70 (by simp) ?_
 refine AllReadyH.cons (o := ⟨some 27, _, _, _, _, _⟩) rfl (fun K hK => ?_) AllReadyH.nil
 go_simp
 refine (HNM.out _ _ (ofTxS hT1 HLEN.out)).mono ?_; rintro e w2 ⟨rfl, hb⟩
 go_wp2_with fail
 refine hK.out _ _ Q23 (fun hNew => ?_)
 clear hK K
 clear hHeld hb; have hHeld := hNew; clear hNew
 try simp only [Act.put, List.setIfInBounds_toArray, List.set_cons_zero, List.set_cons_succ]
 refine tk 5 2 ?_
 refine wpAnyH_done Q70 ?_ _
 go_wp2
 go_ret
 exact ⟨rfl, hb0.trans (hHeld.1.out.mono hz0)⟩
theorem expr_21 (d : Nat) (HD : DocC 36 exprB d) (p n : ByteArray) (N : Int) (q : Option Addr) (c : Nat) (kids : List Tm) (w : World) (hk : KidsT w d (.slice q kids.length c) kids) (hB : ∀ x ∈ kids, exprB d x = true) (hG : ∀ x ∈ kids, Gd d x) (ht : ∀ x ∈ kids, tby d x ≤ 12000) (hlen : kids.length ≤ 12000)
 (hl : (qualT p n ++ (if kids.length = 0 then [] else heldT (kids.map (txt d)))).length ≤ 1000000000) :
 Calls Tryz.prog 36 #[tv 21 p n N (.slice q kids.length c)] w fun e w' => e = .returned (.string (ofL (qualT p n ++ (if kids.length = 0 then [] else heldT (kids.map (txt d)))))) ∧ Below w.heap.size w w' := by
 have hb0 := below_alloc w (.cells #[.int .i64 21, .string p, .string n, .int .i64 N, .slice q kids.length c] 24)
 have hn0 := hb_new w (.cells #[.int .i64 21, .string p, .string n, .int .i64 N, .slice q kids.length c] 24)
 have hz0 : w.heap.size ≤ (w.alloc (.cells #[.int .i64 21, .string p, .string n, .int .i64 N, .slice q kids.length c] 24)).heap.size := by simp
 have HTY : RowKit.Hid (∀ W, Below (w.alloc (.cells #[.int .i64 21, .string p, .string n, .int .i64 N, .slice q kids.length c] 24)).heap.size (w.alloc (.cells #[.int .i64 21, .string p, .string n, .int .i64 N, .slice q kids.length c] 24)) W → Calls Tryz.prog 98 #[.slice q kids.length c] W fun e w' => ∃ v, e = .returned v ∧ TxS W v (kids.map fun y => ofL (txt d y)) w') :=
  Hd fun W hW => exprs9_any d HD _ kids W ((hk.below hb0).below hW) hB hG ht hlen
 have HNM : RowKit.Hid (∀ W v, RowS9 W v (kids.map fun y => ofL (txt d y)) → Calls Tryz.prog 86 #[.agg #[.int .i64 21, .string p, .string n, .int .i64 N, .slice q kids.length c], v] W fun e w' => e = .returned (.string (ofL (qualT p n ++ (if kids.length = 0 then [] else heldT (kids.map (txt d)))))) ∧ Below W.heap.size W w') := Hd fun W v hv => by
  have := named9_any 21 p n N q kids.length c v _ W hv Q54
  rw [List.length_map, tls_ofL] at this
  exact this
 have HLEN : RowKit.Hid ((kids.map fun y => ofL (txt d y)).length ≤ 100000) := Hd Q61
 clear hk hB hG ht hl HD
 generalize qualT p n ++ (if kids.length = 0 then [] else heldT (kids.map (txt d))) = T at *
 generalize (kids.map fun y => ofL (txt d y)) = SS at *
 go_enter Tryz.func36, Tryz.ntmps36
 go_upto_region 8 with (fail)
 obtain ⟨x0, x1, x2, x3, x4⟩ := hb5 hn0
 generalize w.alloc (.cells #[.int .i64 21, .string p, .string n, .int .i64 N, .slice q kids.length c] 24) = wb at *
 clear hn0
 refine wp_region_held_drew (S := (fun w' => RowKit.Hid (Below wb.heap.size wb w') ∧ w'.cell? ⟨w.heap.size, 0, none⟩ = some (.int .i64 21) ∧ w'.cell? ⟨w.heap.size, 1, none⟩ = some (.string p) ∧ w'.cell? ⟨w.heap.size, 2, none⟩ = some (.string n) ∧ w'.cell? ⟨w.heap.size, 3, none⟩ = some (.int .i64 N) ∧ w'.cell? ⟨w.heap.size, 4, none⟩ = some (.slice q kids.length c))) Q70 Q37 (fun hHeld => ?_)
 refine tk 0 25 ?_
 refine tk 1 26 ?_
 refine tk 2 27 ?_
 refine wpAnyH_ready (rs := [3]) Q70 (by simp) ?_
 refine AllReadyH.cons (o := ⟨some 28, _, _, _, _, _⟩) rfl (fun K hK => ?_) AllReadyH.nil
 go_simp
 refine (HTY.out _ hHeld.1.out).mono ?_; rintro e w1 ⟨v1, rfl, hT1⟩; have hb := hT1.1
 go_wp2_with fail
 refine hK.out _ _ Q23 (fun hNew => ?_)
 clear hK K
 clear hHeld hb; have hHeld := hNew; clear hNew
 try simp only [Act.put, List.setIfInBounds_toArray, List.set_cons_zero, List.set_cons_succ]
 refine wpAnyH_ready (rs := [4]) Q70 (by simp) ?_
 refine AllReadyH.cons (o := ⟨some 29, _, _, _, _, _⟩) rfl (fun K hK => ?_) AllReadyH.nil
 go_simp
 refine (HNM.out _ _ (ofTxS hT1 HLEN.out)).mono ?_; rintro e w2 ⟨rfl, hb⟩
 go_wp2_with fail
 refine hK.out _ _ Q23 (fun hNew => ?_)
 clear hK K
 clear hHeld hb; have hHeld := hNew; clear hNew
 try simp only [Act.put, List.setIfInBounds_toArray, List.set_cons_zero, List.set_cons_succ]
 refine tk 5 2 ?_
 refine wpAnyH_done Q70 ?_ _
 go_wp2
 go_ret
 exact ⟨rfl, hb0.trans (hHeld.1.out.mono hz0)⟩
theorem expr_24 (d : Nat) (HD : DocC 36 exprB d) (p n : ByteArray) (N : Int) (q : Option Addr) (c : Nat) (kids : List Tm) (w : World) (hk : KidsT w d (.slice q kids.length c) kids) (hB : ∀ x ∈ kids, exprB d x = true) (hG : ∀ x ∈ kids, Gd d x) (ht : ∀ x ∈ kids, tby d x ≤ 12000) (hlen : kids.length ≤ 12000)
 (hl : (qualT p n ++ (if kids.length = 0 then [] else heldT (kids.map (txt d)))).length ≤ 1000000000) :
 Calls Tryz.prog 36 #[tv 24 p n N (.slice q kids.length c)] w fun e w' => e = .returned (.string (ofL (qualT p n ++ (if kids.length = 0 then [] else heldT (kids.map (txt d)))))) ∧ Below w.heap.size w w' := by
 have hb0 := below_alloc w (.cells #[.int .i64 24, .string p, .string n, .int .i64 N, .slice q kids.length c] 24)
 have hn0 := hb_new w (.cells #[.int .i64 24, .string p, .string n, .int .i64 N, .slice q kids.length c] 24)
 have hz0 : w.heap.size ≤ (w.alloc (.cells #[.int .i64 24, .string p, .string n, .int .i64 N, .slice q kids.length c] 24)).heap.size := by simp
 have HTY : RowKit.Hid (∀ W, Below (w.alloc (.cells #[.int .i64 24, .string p, .string n, .int .i64 N, .slice q kids.length c] 24)).heap.size (w.alloc (.cells #[.int .i64 24, .string p, .string n, .int .i64 N, .slice q kids.length c] 24)) W → Calls Tryz.prog 98 #[.slice q kids.length c] W fun e w' => ∃ v, e = .returned v ∧ TxS W v (kids.map fun y => ofL (txt d y)) w') :=
  Hd fun W hW => exprs9_any d HD _ kids W ((hk.below hb0).below hW) hB hG ht hlen
 have HNM : RowKit.Hid (∀ W v, RowS9 W v (kids.map fun y => ofL (txt d y)) → Calls Tryz.prog 86 #[.agg #[.int .i64 24, .string p, .string n, .int .i64 N, .slice q kids.length c], v] W fun e w' => e = .returned (.string (ofL (qualT p n ++ (if kids.length = 0 then [] else heldT (kids.map (txt d)))))) ∧ Below W.heap.size W w') := Hd fun W v hv => by
  have := named9_any 24 p n N q kids.length c v _ W hv Q54
  rw [List.length_map, tls_ofL] at this
  exact this
 have HLEN : RowKit.Hid ((kids.map fun y => ofL (txt d y)).length ≤ 100000) := Hd Q61
 clear hk hB hG ht hl HD
 generalize qualT p n ++ (if kids.length = 0 then [] else heldT (kids.map (txt d))) = T at *
 generalize (kids.map fun y => ofL (txt d y)) = SS at *
 go_enter Tryz.func36, Tryz.ntmps36
 go_upto_region 8 with (fail)
 obtain ⟨x0, x1, x2, x3, x4⟩ := hb5 hn0
 generalize w.alloc (.cells #[.int .i64 24, .string p, .string n, .int .i64 N, .slice q kids.length c] 24) = wb at *
 clear hn0
 refine wp_region_held_drew (S := (fun w' => RowKit.Hid (Below wb.heap.size wb w') ∧ w'.cell? ⟨w.heap.size, 0, none⟩ = some (.int .i64 24) ∧ w'.cell? ⟨w.heap.size, 1, none⟩ = some (.string p) ∧ w'.cell? ⟨w.heap.size, 2, none⟩ = some (.string n) ∧ w'.cell? ⟨w.heap.size, 3, none⟩ = some (.int .i64 N) ∧ w'.cell? ⟨w.heap.size, 4, none⟩ = some (.slice q kids.length c))) Q70 Q37 (fun hHeld => ?_)
 refine tk 0 25 ?_
 refine tk 1 26 ?_
 refine tk 2 27 ?_
 refine wpAnyH_ready (rs := [3]) Q70 (by simp) ?_
 refine AllReadyH.cons (o := ⟨some 28, _, _, _, _, _⟩) rfl (fun K hK => ?_) AllReadyH.nil
 go_simp
 refine (HTY.out _ hHeld.1.out).mono ?_; rintro e w1 ⟨v1, rfl, hT1⟩; have hb := hT1.1
 go_wp2_with fail
 refine hK.out _ _ Q23 (fun hNew => ?_)
 clear hK K
 clear hHeld hb; have hHeld := hNew; clear hNew
 try simp only [Act.put, List.setIfInBounds_toArray, List.set_cons_zero, List.set_cons_succ]
 refine wpAnyH_ready (rs := [4]) Q70 (by simp) ?_
 refine AllReadyH.cons (o := ⟨some 29, _, _, _, _, _⟩) rfl (fun K hK => ?_) AllReadyH.nil
 go_simp
 refine (HNM.out _ _ (ofTxS hT1 HLEN.out)).mono ?_; rintro e w2 ⟨rfl, hb⟩
 go_wp2_with fail
 refine hK.out _ _ Q23 (fun hNew => ?_)
 clear hK K
 clear hHeld hb; have hHeld := hNew; clear hNew
 try simp only [Act.put, List.setIfInBounds_toArray, List.set_cons_zero, List.set_cons_succ]
 refine tk 5 2 ?_
 refine wpAnyH_done Q70 ?_ _
 go_wp2
 go_ret
 exact ⟨rfl, hb0.trans (hHeld.1.out.mono hz0)⟩
theorem sum_mem {f : Tm → Nat} : ∀ {kids : List Tm} {y : Tm}, y ∈ kids → f y ≤ (kids.map f).sum := by
 intro kids
 induction kids with
 | nil => intro y h; cases h
 | cons a r ih =>
  intro y h
  rw [List.map_cons, List.sum_cons]
  rcases List.mem_cons.1 h with rfl | h
  · omega
  · have := ih h; omega
theorem sum_ge {f : Tm → Nat} : ∀ {kids : List Tm}, (∀ y ∈ kids, 1 ≤ f y) → kids.length ≤ (kids.map f).sum := by
 intro kids
 induction kids with
 | nil => intro _; simp
 | cons a r ih =>
  intro h
  have h1 := h a (by simp)
  have h2 := ih fun y hy => h y (by simp [hy])
  rw [List.map_cons, List.sum_cons, List.length_cons]
  omega
theorem kids_few {W : World} {d : Nat} {s : Value} {kids : List Tm} (hk : KidsT W d s kids) : kids.length ≤ (kids.map (tby d)).sum := by
 cases d with
 | zero =>
  obtain ⟨q, c, _, _, hr⟩ := hk
  cases kids with
  | nil => simp
  | cons a r =>
   obtain ⟨_, _, _, _, _, _, _, _, _, h⟩ := hr 0 a rfl
   cases h
 | succ d =>
  refine sum_ge fun y _ => ?_
  obtain ⟨k, p, n, N, ks⟩ := y
  show 1 ≤ p.size + n.size + 1 + (ks.map (tby d)).sum
  omega
theorem typ_next (d : Nat) (HD : DocC 30 typeB d) : DocC 30 typeB (d + 1) := by
 intro v x W h hB hG ht
 have hlen := txt_len (d + 1) x (wf_type (d + 1) x hB hG)
 obtain ⟨m, k, p, n, N, s, kids, em, rfl, rfl, hp, hn, hk⟩ := h.open
 obtain rfl : d = m := by omega
 obtain ⟨g1, g2, g3, g4⟩ := hG
 have htb : p.size + n.size + 1 + (kids.map (tby d)).sum ≤ 12000 := ht
 have hkl := kids_few hk
 have hkt : ∀ y ∈ kids, tby d y ≤ 12000 := fun y hy => by have := sum_mem (f := tby d) hy; omega
 have hl12 : (txt (d + 1) (.mk k p n N kids)).length ≤ 480000 := by
  have : 40 * tby (d + 1) (.mk k p n N kids) ≤ 40 * 12000 := Nat.mul_le_mul_left 40 ht
  omega
 clear hlen
 obtain ⟨q, c, rfl, hmx, hr⟩ := hk
 have hk : KidsT W d (.slice q kids.length c) kids := ⟨q, c, rfl, hmx, hr⟩
 simp only [typeB] at hB
 by_cases h1 : k = 1
 · subst h1
   have e : txt (d + 1) (.mk 1 p n N kids) = tellT ⟨3, n, 0⟩ := by simp [txt]
   rw [e]
   exact typ_1 p n N q _ c W g2
 rw [if_neg h1] at hB
 by_cases h2 : k = 2
 · subst h2
   rw [if_pos rfl] at hB
   simp only [Bool.and_eq_true] at hB
   have e : txt (d + 1) (.mk 2 p n N kids) = qualT p n ++ (if kids.length = 0 then [] else heldT (kids.map (txt d))) := by simp [txt]
   rw [e] at hl12 ⊢
   exact typ_2 d HD p n N q c kids W hk (List.all_eq_true.1 hB.2) g4 hkt (by omega) (by omega)
 rw [if_neg h2] at hB
 by_cases h3 : k = 3
 · subst h3
   rw [if_pos rfl, zip_two] at hB
   simp only [Bool.and_eq_true, beq_iff_eq] at hB
   have hall := List.all_eq_true.1 hB.2.2
   match kids, hB.2.1, hk, hall, g4, hkt, hl12 with
   | [A, C], _, hk, hall, g4, hkt, hl12 =>
    have e : txt (d + 1) (.mk 3 p n N [A, C]) = withinT (kdM A == 3) (txt d A) ++ ([32, 45, 62, 32] ++ txt d C) := by simp [txt, cmpT]
    have hw : (txt d A).length ≤ (withinT (kdM A == 3) (txt d A)).length := by unfold withinT; split <;> simp <;> omega
    rw [e] at hl12 ⊢
    exact typ_3 d HD p n N q c A C W hk hall g4 hkt Q51
 rw [if_neg h3] at hB
 by_cases h4 : k = 4
 · subst h4
   rw [if_pos rfl] at hB
   unfold tupB at hB
   simp only [Bool.and_eq_true] at hB
   have e : txt (d + 1) (.mk 4 p n N kids) = heldT (kids.map (txt d)) := by simp [txt]
   rw [e] at hl12 ⊢
   exact typ_4 d HD p n N q c kids W hk (List.all_eq_true.1 hB.2.2) g4 hkt (by omega) (by omega)
 rw [if_neg h4] at hB
 cases hB
theorem typ_any : ∀ d, DocC 30 typeB d
 | 0 => fun _ _ _ h => by cases h
 | d + 1 => typ_next d (typ_any d)
theorem pat_next9 (d : Nat) (HD : DocC 33 patB d) : DocC 33 patB (d + 1) := by
 intro v x W h hB hG ht
 have hlen := txt_len (d + 1) x (wf_pat (d + 1) x hB hG)
 obtain ⟨m, k, p, n, N, s, kids, em, rfl, rfl, hp, hn, hk⟩ := h.open
 obtain rfl : d = m := by omega
 obtain ⟨g1, g2, g3, g4⟩ := hG
 have htb : p.size + n.size + 1 + (kids.map (tby d)).sum ≤ 12000 := ht
 have hkl := kids_few hk
 have hkt : ∀ y ∈ kids, tby d y ≤ 12000 := fun y hy => by have := sum_mem (f := tby d) hy; omega
 have hl12 : (txt (d + 1) (.mk k p n N kids)).length ≤ 480000 := by
  have : 40 * tby (d + 1) (.mk k p n N kids) ≤ 40 * 12000 := Nat.mul_le_mul_left 40 ht
  omega
 clear hlen
 obtain ⟨q, c, rfl, hmx, hr⟩ := hk
 have hk : KidsT W d (.slice q kids.length c) kids := ⟨q, c, rfl, hmx, hr⟩
 have none : (kids.length == 0) = true → ∀ y ∈ kids, patB d y = true := fun h y hy => by
  have := List.eq_nil_of_length_eq_zero (beq_iff_eq.1 h)
  rw [this] at hy; cases hy
 simp only [patB] at hB
 by_cases h1 : k = 11
 · subst h1
   have e : txt (d + 1) (.mk 11 p n N kids) = [95] := by simp [txt]
   rw [e]
   exact pat_11 p n N q _ c W
 rw [if_neg h1] at hB
 by_cases h2 : k = 12
 · subst h2
   rw [if_pos rfl] at hB
   simp only [Bool.and_eq_true] at hB
   have e : txt (d + 1) (.mk 12 p n N kids) = qualT p n ++ (if kids.length = 0 then [] else heldT (kids.map (txt d))) := by simp [txt]
   rw [e] at hl12 ⊢
   exact pat_12 d HD p n N q c kids W hk (none hB.2) g4 hkt (by omega) (by omega)
 rw [if_neg h2] at hB
 by_cases h3 : k = 13
 · subst h3
   rw [if_pos rfl] at hB
   simp only [Bool.and_eq_true] at hB
   have e : txt (d + 1) (.mk 13 p n N kids) = tellT ⟨4, ⟨#[]⟩, N⟩ := by simp [txt]
   rw [e]
   exact pat_13 p n N q _ c W (num_r hB.1)
 rw [if_neg h3] at hB
 by_cases h4 : k = 14
 · subst h4
   have e : txt (d + 1) (.mk 14 p n N kids) = tellT ⟨5, n, 0⟩ := by simp [txt]
   rw [e]
   exact pat_14 p n N q _ c W g2
 rw [if_neg h4] at hB
 by_cases h5 : k = 15
 · subst h5
   rw [if_pos rfl] at hB
   simp only [Bool.and_eq_true] at hB
   have e : txt (d + 1) (.mk 15 p n N kids) = qualT p n ++ (if kids.length = 0 then [] else heldT (kids.map (txt d))) := by simp [txt]
   rw [e] at hl12 ⊢
   exact pat_15 d HD p n N q c kids W hk (List.all_eq_true.1 hB.2) g4 hkt (by omega) (by omega)
 rw [if_neg h5] at hB
 by_cases h6 : k = 16
 · subst h6
   rw [if_pos rfl] at hB
   unfold tupB at hB
   simp only [Bool.and_eq_true] at hB
   have e : txt (d + 1) (.mk 16 p n N kids) = heldT (kids.map (txt d)) := by simp [txt]
   rw [e] at hl12 ⊢
   exact pat_16 d HD p n N q c kids W hk (List.all_eq_true.1 hB.2.2) g4 hkt (by omega) (by omega)
 rw [if_neg h6] at hB
 cases hB
theorem pat_any9 : ∀ d, DocC 33 patB d
 | 0 => fun _ _ _ h => by cases h
 | d + 1 => pat_next9 d (pat_any9 d)
end Go.Proofs.YtmkjalnlldpdcaaGreatDoor
