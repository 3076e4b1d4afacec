/- Texts in a row: Vo Vp Vq Jm. -/
import Derived.Test.YtmkjalnlldpdcaaGreatDoorZT30
import Derived.Test.YtmkjalnlldpdcaaGreatDoorZT14
import Derived.Test.YtmkjalnlldpdcaaGreatDoorZT22
set_option maxHeartbeats 16000000
set_option maxRecDepth 100000
namespace Go.Proofs.YtmkjalnlldpdcaaGreatDoor
open Go.RowKit
set_option linter.unusedSimpArgs false
set_option linter.unusedVariables false
theorem expr_kind {d : Nat} {k : Int} {p n : ByteArray} {N : Int} {ks : List Tm} (h : exprB d (.mk k p n N ks) = true) : 21 ≤ k ∧ k ≤ 30 := by
 cases d with
 | zero => cases h
 | succ d =>
  refine Decidable.byContradiction fun hk => ?_
  simp only [exprB] at h
  rw [if_neg (by omega), if_neg (by omega), if_neg (by omega), if_neg (by omega), if_neg (by omega), if_neg (by omega), if_neg (by omega), if_neg (by omega), if_neg (by omega), if_neg (by omega)] at h
  cases h
theorem IsT.shp9 {w : World} {d : Nat} {k : Int} {p n : ByteArray} {N : Int} {q : Option Addr} {l c : Nat} {x : Tm} (h : IsT w d (tv k p n N (.slice q l c)) x) : ∃ ks, x = .mk k p n N ks ∧ l = ks.length := by
 obtain ⟨d1, k1, p1, n1, N1, s1, l1, e1, rfl, e2, _, _, q', c', hs, _⟩ := h.open
 injection e2 with e2
 simp at e2
 obtain ⟨rfl, rfl, rfl, rfl, rfl⟩ := e2
 cases hs
 exact ⟨l1, rfl, rfl⟩
theorem expr_27 (d : Nat) (HD : DocC 36 exprB d) (p n : ByteArray) (N : Int) (q : Option Addr) (c : Nat) (A C : Tm) (w : World) (hk : KidsT w d (.slice q 2 c) [A, C]) (hA : exprB d A = true ∧ Gd d A ∧ tby d A ≤ 12000) (hC : exprB d C = true ∧ Gd d C ∧ tby d C ≤ 12000)
 (hl : (txt d A).length + (txt d C).length ≤ 1000000) :
 Calls Tryz.prog 36 #[tv 27 p n N (.slice q 2 c)] w fun e w' => e = .returned (.string (ofL (withinT (openM A) (txt d A) ++ ([32] ++ withinT (openM C || kdM C == 27) (txt d C))))) ∧ Below w.heap.size w w' := by
 obtain ⟨_, _, e, _, hr⟩ := hk
 cases e
 obtain ⟨gg, oo, kk0, pp0, nn0, NN0, a4, eq0, ha0, ht0⟩ := hr 0 A rfl
 subst eq0
 obtain ⟨gg1, oo1, kk1, pp1, nn1, NN1, c4, eq1, ha1, ht1⟩ := hr 1 C rfl
 cases eq1
 obtain ⟨q0, l0, c0, rfl⟩ := ht0.spell
 obtain ⟨q1, l1, c1, rfl⟩ := ht1.spell
 obtain ⟨ka, rfl, hl0⟩ := ht0.shp9
 obtain ⟨kc, rfl, hl1⟩ := ht1.shp9
 simp only [Nat.zero_mul, Nat.one_mul, Nat.add_zero] at ha0 ha1
 have HL0 := Hd hl0
 have HL1 := Hd hl1
 clear hl0 hl1
 have hb0 := below_alloc w (.cells #[.int .i64 27, .string p, .string n, .int .i64 N, .slice (some ⟨gg, oo, none⟩) 2 c] 24)
 have hn0 := hb_new w (.cells #[.int .i64 27, .string p, .string n, .int .i64 N, .slice (some ⟨gg, oo, none⟩) 2 c] 24)
 have hz0 : w.heap.size ≤ (w.alloc (.cells #[.int .i64 27, .string p, .string n, .int .i64 N, .slice (some ⟨gg, oo, none⟩) 2 c] 24)).heap.size := by simp
 generalize hTA : txt d (.mk kk0 pp0 nn0 NN0 ka) = TA at *
 generalize hTC : txt d (.mk kk1 pp1 nn1 NN1 kc) = TC at *
 obtain ⟨SA, hSA⟩ : ∃ SA, SA = ofL TA := ⟨_, rfl⟩
 obtain ⟨SC, hSC⟩ : ∃ SC, SC = ofL TC := ⟨_, rfl⟩
 have h0 : RowKit.Hid (∀ W, Below w.heap.size w W → Calls Tryz.prog 36 #[tv kk0 pp0 nn0 NN0 (.slice q0 l0 c0)] W fun e w' => e = .returned (.string SA) ∧ Below W.heap.size W w') := Hd fun W hW => by rw [hSA, ← hTA]; exact HD _ _ W (ht0.below hW) hA.1 hA.2.1 hA.2.2
 have h1 : RowKit.Hid (∀ W, Below w.heap.size w W → Calls Tryz.prog 36 #[tv kk1 pp1 nn1 NN1 (.slice q1 l1 c1)] W fun e w' => e = .returned (.string SC) ∧ Below W.heap.size W w') := Hd fun W hW => by rw [hSC, ← hTC]; exact HD _ _ W (ht1.below hW) hC.1 hC.2.1 hC.2.2
 have cz1 : (⟨#[40]⟩ : ByteArray).size = 1 := rfl
 have cz2 : (⟨#[41]⟩ : ByteArray).size = 1 := rfl
 have cz5 : (⟨#[32]⟩ : ByteArray).size = 1 := rfl
 have cz3 : SA.size = TA.length := by rw [hSA, ofL_size]
 have cz4 : SC.size = TC.length := by rw [hSC, ofL_size]
 have hqSA : (⟨#[40]⟩ : ByteArray).size + SA.size ≤ 1000000000 := by omega
 have hrSA : ((⟨#[40]⟩ : ByteArray) ++ SA).size + 1 ≤ 1000000000 := by (try simp only [ByteArray.size_append]); omega
 have hqSC : (⟨#[40]⟩ : ByteArray).size + SC.size ≤ 1000000000 := by omega
 have hrSC : ((⟨#[40]⟩ : ByteArray) ++ SC).size + 1 ≤ 1000000000 := by (try simp only [ByteArray.size_append]); omega
 have hwa0 : SA.size + 1 ≤ 1000000000 := by (try simp only [ByteArray.size_append]); omega
 have hwb00 : (SA ++ (⟨#[32]⟩ : ByteArray)).size + SC.size ≤ 1000000000 := by (try simp only [ByteArray.size_append]); omega
 have hwb01 : (SA ++ (⟨#[32]⟩ : ByteArray)).size + (((⟨#[40]⟩ : ByteArray) ++ SC) ++ (⟨#[41]⟩ : ByteArray)).size ≤ 1000000000 := by (try simp only [ByteArray.size_append]); omega
 have hwa1 : (((⟨#[40]⟩ : ByteArray) ++ SA) ++ (⟨#[41]⟩ : ByteArray)).size + 1 ≤ 1000000000 := by (try simp only [ByteArray.size_append]); omega
 have hwb10 : ((((⟨#[40]⟩ : ByteArray) ++ SA) ++ (⟨#[41]⟩ : ByteArray)) ++ (⟨#[32]⟩ : ByteArray)).size + SC.size ≤ 1000000000 := by (try simp only [ByteArray.size_append]); omega
 have hwb11 : ((((⟨#[40]⟩ : ByteArray) ++ SA) ++ (⟨#[41]⟩ : ByteArray)) ++ (⟨#[32]⟩ : ByteArray)).size + (((⟨#[40]⟩ : ByteArray) ++ SC) ++ (⟨#[41]⟩ : ByteArray)).size ≤ 1000000000 := by (try simp only [ByteArray.size_append]); omega
 have HE00 : RowKit.Hid (openM (.mk kk0 pp0 nn0 NN0 ka) = false → (openM (.mk kk1 pp1 nn1 NN1 kc) || kdM (.mk kk1 pp1 nn1 NN1 kc) == 27) = false → (SA ++ (⟨#[32]⟩ : ByteArray)) ++ SC = ofL (withinT (openM (.mk kk0 pp0 nn0 NN0 ka)) TA ++ ([32] ++ withinT (openM (.mk kk1 pp1 nn1 NN1 kc) || kdM (.mk kk1 pp1 nn1 NN1 kc) == 27) TC))) := Hd fun e1 e2 => by rw [e1, e2, hSA, hSC]; apply ByteArray.ext; simp [ofL, withinT]
 have HE01 : RowKit.Hid (openM (.mk kk0 pp0 nn0 NN0 ka) = false → (openM (.mk kk1 pp1 nn1 NN1 kc) || kdM (.mk kk1 pp1 nn1 NN1 kc) == 27) = true → (SA ++ (⟨#[32]⟩ : ByteArray)) ++ (((⟨#[40]⟩ : ByteArray) ++ SC) ++ (⟨#[41]⟩ : ByteArray)) = ofL (withinT (openM (.mk kk0 pp0 nn0 NN0 ka)) TA ++ ([32] ++ withinT (openM (.mk kk1 pp1 nn1 NN1 kc) || kdM (.mk kk1 pp1 nn1 NN1 kc) == 27) TC))) := Hd fun e1 e2 => by rw [e1, e2, hSA, hSC]; apply ByteArray.ext; simp [ofL, withinT]
 have HE10 : RowKit.Hid (openM (.mk kk0 pp0 nn0 NN0 ka) = true → (openM (.mk kk1 pp1 nn1 NN1 kc) || kdM (.mk kk1 pp1 nn1 NN1 kc) == 27) = false → ((((⟨#[40]⟩ : ByteArray) ++ SA) ++ (⟨#[41]⟩ : ByteArray)) ++ (⟨#[32]⟩ : ByteArray)) ++ SC = ofL (withinT (openM (.mk kk0 pp0 nn0 NN0 ka)) TA ++ ([32] ++ withinT (openM (.mk kk1 pp1 nn1 NN1 kc) || kdM (.mk kk1 pp1 nn1 NN1 kc) == 27) TC))) := Hd fun e1 e2 => by rw [e1, e2, hSA, hSC]; apply ByteArray.ext; simp [ofL, withinT]
 have HE11 : RowKit.Hid (openM (.mk kk0 pp0 nn0 NN0 ka) = true → (openM (.mk kk1 pp1 nn1 NN1 kc) || kdM (.mk kk1 pp1 nn1 NN1 kc) == 27) = true → ((((⟨#[40]⟩ : ByteArray) ++ SA) ++ (⟨#[41]⟩ : ByteArray)) ++ (⟨#[32]⟩ : ByteArray)) ++ (((⟨#[40]⟩ : ByteArray) ++ SC) ++ (⟨#[41]⟩ : ByteArray)) = ofL (withinT (openM (.mk kk0 pp0 nn0 NN0 ka)) TA ++ ([32] ++ withinT (openM (.mk kk1 pp1 nn1 NN1 kc) || kdM (.mk kk1 pp1 nn1 NN1 kc) == 27) TC))) := Hd fun e1 e2 => by rw [e1, e2, hSA, hSC]; apply ByteArray.ext; simp [ofL, withinT]
 obtain ⟨y0, y1, y2, y3, y4⟩ := ha0.below hb0 ha0.lt
 obtain ⟨z0, z1, z2, z3, z4⟩ := ha1.below hb0 ha1.lt
 have x4 := hb_at hn0 4 rfl
 have HKA : RowKit.Hid (21 ≤ kk0 ∧ kk0 ≤ 30) := Hd (expr_kind hA.1)
 have HKC : RowKit.Hid (21 ≤ kk1 ∧ kk1 ≤ 30) := Hd (expr_kind hC.1)
 clear hSA hSC hTA hTC hr ha0 ht0 ha1 ht1 hA hC HD hl cz1 cz2 cz3 cz4 cz5 hn0
 go_enter Tryz.func36, Tryz.ntmps36
 go_upto_region 14 with (fail)
 generalize w.alloc (.cells #[.int .i64 27, .string p, .string n, .int .i64 N, .slice (some ⟨gg, oo, none⟩) 2 c] 24) = wb at *
 refine wp_region_held_drew (S := (fun w' => RowKit.Hid (Below wb.heap.size wb w') ∧ w'.cell? ⟨w.heap.size, 4, none⟩ = some (.slice (some ⟨gg, oo, none⟩) 2 c) ∧ w'.cell? ⟨gg, oo, none⟩ = some (.int .i64 kk0) ∧ w'.cell? ⟨gg, oo + 1, none⟩ = some (.string pp0) ∧ w'.cell? ⟨gg, oo + 2, none⟩ = some (.string nn0) ∧ w'.cell? ⟨gg, oo + 3, none⟩ = some (.int .i64 NN0) ∧ w'.cell? ⟨gg, oo + 4, none⟩ = some (.slice q0 l0 c0) ∧ w'.cell? ⟨gg, oo + 5, none⟩ = some (.int .i64 kk1) ∧ w'.cell? ⟨gg, oo + 5 + 1, none⟩ = some (.string pp1) ∧ w'.cell? ⟨gg, oo + 5 + 2, none⟩ = some (.string nn1) ∧ w'.cell? ⟨gg, oo + 5 + 3, none⟩ = some (.int .i64 NN1) ∧ w'.cell? ⟨gg, oo + 5 + 4, none⟩ = some (.slice q1 l1 c1))) Q70 Q36 (fun hHeld => ?_)
 refine tk 0 50 ?_
 refine tk 1 51 ?_
 refine tk 2 52 ?_
 refine tk 3 53 ?_
 refine tk 5 55 ?_
 refine tk 6 56 ?_
 refine tk 7 57 ?_
 refine tk 8 58 ?_
 refine wpAnyH_ready (rs := [4]) Q70 (by simp) ?_
 refine AllReadyH.cons (o := ⟨some 54, _, _, _, _, _⟩) rfl (fun K hK => ?_) AllReadyH.nil
 go_simp
 refine (h0.out _ (hb0.trans (hHeld.1.out.mono hz0))).mono ?_; rintro e w1 ⟨rfl, hb⟩
 go_wp2_with fail
 refine hK.out _ _ Q1 (fun hNew => ?_)
 clear hK K
 clear hHeld hb; have hHeld := hNew; clear hNew
 try simp only [Act.put, List.setIfInBounds_toArray, List.set_cons_zero, List.set_cons_succ]
 refine wpAnyH_ready (rs := [9]) Q70 (by simp) ?_
 refine AllReadyH.cons (o := ⟨some 59, _, _, _, _, _⟩) rfl (fun K hK => ?_) AllReadyH.nil
 go_simp
 refine (h1.out _ (hb0.trans (hHeld.1.out.mono hz0))).mono ?_; rintro e w2 ⟨rfl, hb⟩
 go_wp2_with fail
 refine hK.out _ _ Q1 (fun hNew => ?_)
 clear hK K
 clear hHeld hb; have hHeld := hNew; clear hNew
 try simp only [Act.put, List.setIfInBounds_toArray, List.set_cons_zero, List.set_cons_succ]
 refine tk 10 3 ?_
 refine tk 11 4 ?_
 refine wpAnyH_done Q70 ?_ _
 have HELD := Hd hHeld
 have HELD2 := Hd hHeld.1.out
 clear x4 y0 y1 y2 y3 y4 z0 z1 z2 z3 z4
 go_upto_region 15 with (fail)
 refine wp_region_held_drew (S := (fun w' => RowKit.Hid (Below wb.heap.size wb w') ∧ w'.cell? ⟨w.heap.size, 4, none⟩ = some (.slice (some ⟨gg, oo, none⟩) 2 c) ∧ w'.cell? ⟨gg, oo, none⟩ = some (.int .i64 kk0) ∧ w'.cell? ⟨gg, oo + 1, none⟩ = some (.string pp0) ∧ w'.cell? ⟨gg, oo + 2, none⟩ = some (.string nn0) ∧ w'.cell? ⟨gg, oo + 3, none⟩ = some (.int .i64 NN0) ∧ w'.cell? ⟨gg, oo + 4, none⟩ = some (.slice q0 l0 c0) ∧ w'.cell? ⟨gg, oo + 5, none⟩ = some (.int .i64 kk1) ∧ w'.cell? ⟨gg, oo + 5 + 1, none⟩ = some (.string pp1) ∧ w'.cell? ⟨gg, oo + 5 + 2, none⟩ = some (.string nn1) ∧ w'.cell? ⟨gg, oo + 5 + 3, none⟩ = some (.int .i64 NN1) ∧ w'.cell? ⟨gg, oo + 5 + 4, none⟩ = some (.slice q1 l1 c1))) Q70 (by obtain ⟨a0, a1, a2, a3, a4, a5, a6, a7, a8, a9, a10, a11⟩ := HELD.out; exact ⟨Hd (a0.out.trans (below_drewN (Below.refl _ _) 1)), a1, a2, a3, a4, a5, a6, a7, a8, a9, a10, a11⟩) (fun hHeld => ?_)
 refine tk 0 60 ?_
 refine tk 1 61 ?_
 refine tk 2 62 ?_
 refine tk 3 63 ?_
 refine tk 4 64 ?_
 refine tk 5 65 ?_
 refine tk 6 66 ?_
 refine tk 7 67 ?_
 refine tk 8 68 ?_
 refine tk 9 69 ?_
 refine tk 10 5 ?_
 refine tk 11 6 ?_
 refine wpAnyH_done Q70 ?_ _
 have HELD3 := Hd hHeld.1.out
 obtain ⟨_, x4, y0, y1, y2, y3, y4, z0, z1, z2, z3, z4⟩ := hHeld
 clear HELD
 have hA5 : kk0 = 26 ∨ kk0 = 28 ∨ kk0 = 29 ∨ (kk0 = 24 ∧ l0 = 0) ∨ (kk0 = 24 ∧ ∃ l, l0 = l + 1) ∨ (kk0 ≠ 26 ∧ kk0 ≠ 28 ∧ kk0 ≠ 29 ∧ kk0 ≠ 24) := by
  rcases Nat.eq_zero_or_pos l0 with h | h
  · omega
  · obtain ⟨l, rfl⟩ : ∃ l, l0 = l + 1 := ⟨l0 - 1, by omega⟩
    by_cases h4 : kk0 = 24
    · exact .inr (.inr (.inr (.inr (.inl ⟨h4, l, rfl⟩))))
    · omega
 have hC5 : (26 ≤ kk1 ∧ kk1 ≤ 29) ∨ (kk1 = 24 ∧ l1 = 0) ∨ (kk1 = 24 ∧ ∃ l, l1 = l + 1) ∨ (kk1 < 26 ∧ kk1 ≠ 24) ∨ kk1 = 30 := by
  have := HKC.out
  rcases Nat.eq_zero_or_pos l1 with h | h
  · omega
  · obtain ⟨l, rfl⟩ : ∃ l, l1 = l + 1 := ⟨l1 - 1, by omega⟩
    by_cases h4 : kk1 = 24
    · exact .inr (.inr (.inl ⟨h4, l, rfl⟩))
    · omega
 rcases hA5 with rfl | rfl | rfl | ⟨rfl, rfl⟩ | ⟨rfl, l, rfl⟩ | ⟨n6, n8, n9, n4⟩
 · have OA : RowKit.Hid (openM (.mk 26 pp0 nn0 NN0 ka) = true) := Hd (by have := HL0.out; simp [openM] <;> omega)
   rcases hC5 with ⟨ca, cb⟩ | ⟨rfl, rfl⟩ | ⟨rfl, m, rfl⟩ | ⟨ca, cb⟩ | rfl
   · have OC : RowKit.Hid ((openM (.mk kk1 pp1 nn1 NN1 kc) || kdM (.mk kk1 pp1 nn1 NN1 kc) == 27) = true) := Hd Q32
     have t1 : decide (26 ≤ kk1) = true := by simpa using ca
     have t2 : decide (kk1 ≤ 29) = true := by simpa using cb
     clear ca cb
     go_wp2
     go_ret
     exact ⟨congrArg (fun s => Ending.returned (.string s)) (HE11.out OA.out OC.out), hb0.trans (HELD3.out.mono hz0)⟩
   · have OC : RowKit.Hid ((openM (.mk 24 pp1 nn1 NN1 kc) || kdM (.mk 24 pp1 nn1 NN1 kc) == 27) = true) := Hd Q44
     go_wp2
     go_ret
     exact ⟨congrArg (fun s => Ending.returned (.string s)) (HE11.out OA.out OC.out), hb0.trans (HELD3.out.mono hz0)⟩
   · have OC : RowKit.Hid ((openM (.mk 24 pp1 nn1 NN1 kc) || kdM (.mk 24 pp1 nn1 NN1 kc) == 27) = false) := Hd Q44
     go_wp2
     go_ret
     exact ⟨congrArg (fun s => Ending.returned (.string s)) (HE10.out OA.out OC.out), hb0.trans (HELD3.out.mono hz0)⟩
   · have OC : RowKit.Hid ((openM (.mk kk1 pp1 nn1 NN1 kc) || kdM (.mk kk1 pp1 nn1 NN1 kc) == 27) = false) := Hd Q44
     have t1 : decide (26 ≤ kk1) = false := by simpa using ca
     have t2 : (kk1 == 24) = false := by simpa using cb
     have t3 : decide (kk1 = 24) = false := by simpa using cb
     clear ca cb
     go_wp2
     go_ret
     exact ⟨congrArg (fun s => Ending.returned (.string s)) (HE10.out OA.out OC.out), hb0.trans (HELD3.out.mono hz0)⟩
   · have OC : RowKit.Hid ((openM (.mk 30 pp1 nn1 NN1 kc) || kdM (.mk 30 pp1 nn1 NN1 kc) == 27) = false) := Hd Q44
     go_wp2
     go_ret
     exact ⟨congrArg (fun s => Ending.returned (.string s)) (HE10.out OA.out OC.out), hb0.trans (HELD3.out.mono hz0)⟩
 · have OA : RowKit.Hid (openM (.mk 28 pp0 nn0 NN0 ka) = true) := Hd (by have := HL0.out; simp [openM] <;> omega)
   rcases hC5 with ⟨ca, cb⟩ | ⟨rfl, rfl⟩ | ⟨rfl, m, rfl⟩ | ⟨ca, cb⟩ | rfl
   · have OC : RowKit.Hid ((openM (.mk kk1 pp1 nn1 NN1 kc) || kdM (.mk kk1 pp1 nn1 NN1 kc) == 27) = true) := Hd Q32
     have t1 : decide (26 ≤ kk1) = true := by simpa using ca
     have t2 : decide (kk1 ≤ 29) = true := by simpa using cb
     clear ca cb
     go_wp2
     go_ret
     exact ⟨congrArg (fun s => Ending.returned (.string s)) (HE11.out OA.out OC.out), hb0.trans (HELD3.out.mono hz0)⟩
   · have OC : RowKit.Hid ((openM (.mk 24 pp1 nn1 NN1 kc) || kdM (.mk 24 pp1 nn1 NN1 kc) == 27) = true) := Hd Q44
     go_wp2
     go_ret
     exact ⟨congrArg (fun s => Ending.returned (.string s)) (HE11.out OA.out OC.out), hb0.trans (HELD3.out.mono hz0)⟩
   · have OC : RowKit.Hid ((openM (.mk 24 pp1 nn1 NN1 kc) || kdM (.mk 24 pp1 nn1 NN1 kc) == 27) = false) := Hd Q44
     go_wp2
     go_ret
     exact ⟨congrArg (fun s => Ending.returned (.string s)) (HE10.out OA.out OC.out), hb0.trans (HELD3.out.mono hz0)⟩
   · have OC : RowKit.Hid ((openM (.mk kk1 pp1 nn1 NN1 kc) || kdM (.mk kk1 pp1 nn1 NN1 kc) == 27) = false) := Hd Q44
     have t1 : decide (26 ≤ kk1) = false := by simpa using ca
     have t2 : (kk1 == 24) = false := by simpa using cb
     have t3 : decide (kk1 = 24) = false := by simpa using cb
     clear ca cb
     go_wp2
     go_ret
     exact ⟨congrArg (fun s => Ending.returned (.string s)) (HE10.out OA.out OC.out), hb0.trans (HELD3.out.mono hz0)⟩
   · have OC : RowKit.Hid ((openM (.mk 30 pp1 nn1 NN1 kc) || kdM (.mk 30 pp1 nn1 NN1 kc) == 27) = false) := Hd Q44
     go_wp2
     go_ret
     exact ⟨congrArg (fun s => Ending.returned (.string s)) (HE10.out OA.out OC.out), hb0.trans (HELD3.out.mono hz0)⟩
 · have OA : RowKit.Hid (openM (.mk 29 pp0 nn0 NN0 ka) = true) := Hd (by have := HL0.out; simp [openM] <;> omega)
   rcases hC5 with ⟨ca, cb⟩ | ⟨rfl, rfl⟩ | ⟨rfl, m, rfl⟩ | ⟨ca, cb⟩ | rfl
   · have OC : RowKit.Hid ((openM (.mk kk1 pp1 nn1 NN1 kc) || kdM (.mk kk1 pp1 nn1 NN1 kc) == 27) = true) := Hd Q32
     have t1 : decide (26 ≤ kk1) = true := by simpa using ca
     have t2 : decide (kk1 ≤ 29) = true := by simpa using cb
     clear ca cb
     go_wp2
     go_ret
     exact ⟨congrArg (fun s => Ending.returned (.string s)) (HE11.out OA.out OC.out), hb0.trans (HELD3.out.mono hz0)⟩
   · have OC : RowKit.Hid ((openM (.mk 24 pp1 nn1 NN1 kc) || kdM (.mk 24 pp1 nn1 NN1 kc) == 27) = true) := Hd Q44
     go_wp2
     go_ret
     exact ⟨congrArg (fun s => Ending.returned (.string s)) (HE11.out OA.out OC.out), hb0.trans (HELD3.out.mono hz0)⟩
   · have OC : RowKit.Hid ((openM (.mk 24 pp1 nn1 NN1 kc) || kdM (.mk 24 pp1 nn1 NN1 kc) == 27) = false) := Hd Q44
     go_wp2
     go_ret
     exact ⟨congrArg (fun s => Ending.returned (.string s)) (HE10.out OA.out OC.out), hb0.trans (HELD3.out.mono hz0)⟩
   · have OC : RowKit.Hid ((openM (.mk kk1 pp1 nn1 NN1 kc) || kdM (.mk kk1 pp1 nn1 NN1 kc) == 27) = false) := Hd Q44
     have t1 : decide (26 ≤ kk1) = false := by simpa using ca
     have t2 : (kk1 == 24) = false := by simpa using cb
     have t3 : decide (kk1 = 24) = false := by simpa using cb
     clear ca cb
     go_wp2
     go_ret
     exact ⟨congrArg (fun s => Ending.returned (.string s)) (HE10.out OA.out OC.out), hb0.trans (HELD3.out.mono hz0)⟩
   · have OC : RowKit.Hid ((openM (.mk 30 pp1 nn1 NN1 kc) || kdM (.mk 30 pp1 nn1 NN1 kc) == 27) = false) := Hd Q44
     go_wp2
     go_ret
     exact ⟨congrArg (fun s => Ending.returned (.string s)) (HE10.out OA.out OC.out), hb0.trans (HELD3.out.mono hz0)⟩
 · have OA : RowKit.Hid (openM (.mk 24 pp0 nn0 NN0 ka) = true) := Hd (by have := HL0.out; simp [openM, ← HL0.out] <;> omega)
   rcases hC5 with ⟨ca, cb⟩ | ⟨rfl, rfl⟩ | ⟨rfl, m, rfl⟩ | ⟨ca, cb⟩ | rfl
   · have OC : RowKit.Hid ((openM (.mk kk1 pp1 nn1 NN1 kc) || kdM (.mk kk1 pp1 nn1 NN1 kc) == 27) = true) := Hd Q32
     have t1 : decide (26 ≤ kk1) = true := by simpa using ca
     have t2 : decide (kk1 ≤ 29) = true := by simpa using cb
     clear ca cb
     go_wp2
     go_ret
     exact ⟨congrArg (fun s => Ending.returned (.string s)) (HE11.out OA.out OC.out), hb0.trans (HELD3.out.mono hz0)⟩
   · have OC : RowKit.Hid ((openM (.mk 24 pp1 nn1 NN1 kc) || kdM (.mk 24 pp1 nn1 NN1 kc) == 27) = true) := Hd Q44
     go_wp2
     go_ret
     exact ⟨congrArg (fun s => Ending.returned (.string s)) (HE11.out OA.out OC.out), hb0.trans (HELD3.out.mono hz0)⟩
   · have OC : RowKit.Hid ((openM (.mk 24 pp1 nn1 NN1 kc) || kdM (.mk 24 pp1 nn1 NN1 kc) == 27) = false) := Hd Q44
     go_wp2
     go_ret
     exact ⟨congrArg (fun s => Ending.returned (.string s)) (HE10.out OA.out OC.out), hb0.trans (HELD3.out.mono hz0)⟩
   · have OC : RowKit.Hid ((openM (.mk kk1 pp1 nn1 NN1 kc) || kdM (.mk kk1 pp1 nn1 NN1 kc) == 27) = false) := Hd Q44
     have t1 : decide (26 ≤ kk1) = false := by simpa using ca
     have t2 : (kk1 == 24) = false := by simpa using cb
     have t3 : decide (kk1 = 24) = false := by simpa using cb
     clear ca cb
     go_wp2
     go_ret
     exact ⟨congrArg (fun s => Ending.returned (.string s)) (HE10.out OA.out OC.out), hb0.trans (HELD3.out.mono hz0)⟩
   · have OC : RowKit.Hid ((openM (.mk 30 pp1 nn1 NN1 kc) || kdM (.mk 30 pp1 nn1 NN1 kc) == 27) = false) := Hd Q44
     go_wp2
     go_ret
     exact ⟨congrArg (fun s => Ending.returned (.string s)) (HE10.out OA.out OC.out), hb0.trans (HELD3.out.mono hz0)⟩
 · have OA : RowKit.Hid (openM (.mk 24 pp0 nn0 NN0 ka) = false) := Hd (by have := HL0.out; simp [openM, ← HL0.out] <;> omega)
   rcases hC5 with ⟨ca, cb⟩ | ⟨rfl, rfl⟩ | ⟨rfl, m, rfl⟩ | ⟨ca, cb⟩ | rfl
   · have OC : RowKit.Hid ((openM (.mk kk1 pp1 nn1 NN1 kc) || kdM (.mk kk1 pp1 nn1 NN1 kc) == 27) = true) := Hd Q32
     have t1 : decide (26 ≤ kk1) = true := by simpa using ca
     have t2 : decide (kk1 ≤ 29) = true := by simpa using cb
     clear ca cb
     go_wp2
     go_ret
     exact ⟨congrArg (fun s => Ending.returned (.string s)) (HE01.out OA.out OC.out), hb0.trans (HELD3.out.mono hz0)⟩
   · have OC : RowKit.Hid ((openM (.mk 24 pp1 nn1 NN1 kc) || kdM (.mk 24 pp1 nn1 NN1 kc) == 27) = true) := Hd Q44
     go_wp2
     go_ret
     exact ⟨congrArg (fun s => Ending.returned (.string s)) (HE01.out OA.out OC.out), hb0.trans (HELD3.out.mono hz0)⟩
   · have OC : RowKit.Hid ((openM (.mk 24 pp1 nn1 NN1 kc) || kdM (.mk 24 pp1 nn1 NN1 kc) == 27) = false) := Hd Q44
     go_wp2
     go_ret
     exact ⟨congrArg (fun s => Ending.returned (.string s)) (HE00.out OA.out OC.out), hb0.trans (HELD3.out.mono hz0)⟩
   · have OC : RowKit.Hid ((openM (.mk kk1 pp1 nn1 NN1 kc) || kdM (.mk kk1 pp1 nn1 NN1 kc) == 27) = false) := Hd Q44
     have t1 : decide (26 ≤ kk1) = false := by simpa using ca
     have t2 : (kk1 == 24) = false := by simpa using cb
     have t3 : decide (kk1 = 24) = false := by simpa using cb
     clear ca cb
     go_wp2
     go_ret
     exact ⟨congrArg (fun s => Ending.returned (.string s)) (HE00.out OA.out OC.out), hb0.trans (HELD3.out.mono hz0)⟩
   · have OC : RowKit.Hid ((openM (.mk 30 pp1 nn1 NN1 kc) || kdM (.mk 30 pp1 nn1 NN1 kc) == 27) = false) := Hd Q44
     go_wp2
     go_ret
     exact ⟨congrArg (fun s => Ending.returned (.string s)) (HE00.out OA.out OC.out), hb0.trans (HELD3.out.mono hz0)⟩
 · have OA : RowKit.Hid (openM (.mk kk0 pp0 nn0 NN0 ka) = false) := Hd (by have := HL0.out; simp [openM, ← HL0.out, n6, n8, n9, n4] <;> omega)
   have u6 : (kk0 == 26) = false := by simpa using n6
   have u8 : (kk0 == 28) = false := by simpa using n8
   have u9 : (kk0 == 29) = false := by simpa using n9
   have u4 : (kk0 == 24) = false := by simpa using n4
   have v6 : decide (kk0 = 26) = false := by simpa using n6
   have v8 : decide (kk0 = 28) = false := by simpa using n8
   have v9 : decide (kk0 = 29) = false := by simpa using n9
   have v4 : decide (kk0 = 24) = false := by simpa using n4
   clear n6 n8 n9 n4
   rcases hC5 with ⟨ca, cb⟩ | ⟨rfl, rfl⟩ | ⟨rfl, m, rfl⟩ | ⟨ca, cb⟩ | rfl
   · have OC : RowKit.Hid ((openM (.mk kk1 pp1 nn1 NN1 kc) || kdM (.mk kk1 pp1 nn1 NN1 kc) == 27) = true) := Hd Q32
     have t1 : decide (26 ≤ kk1) = true := by simpa using ca
     have t2 : decide (kk1 ≤ 29) = true := by simpa using cb
     clear ca cb
     go_wp2
     go_ret
     exact ⟨congrArg (fun s => Ending.returned (.string s)) (HE01.out OA.out OC.out), hb0.trans (HELD3.out.mono hz0)⟩
   · have OC : RowKit.Hid ((openM (.mk 24 pp1 nn1 NN1 kc) || kdM (.mk 24 pp1 nn1 NN1 kc) == 27) = true) := Hd Q44
     go_wp2
     go_ret
     exact ⟨congrArg (fun s => Ending.returned (.string s)) (HE01.out OA.out OC.out), hb0.trans (HELD3.out.mono hz0)⟩
   · have OC : RowKit.Hid ((openM (.mk 24 pp1 nn1 NN1 kc) || kdM (.mk 24 pp1 nn1 NN1 kc) == 27) = false) := Hd Q44
     go_wp2
     go_ret
     exact ⟨congrArg (fun s => Ending.returned (.string s)) (HE00.out OA.out OC.out), hb0.trans (HELD3.out.mono hz0)⟩
   · have OC : RowKit.Hid ((openM (.mk kk1 pp1 nn1 NN1 kc) || kdM (.mk kk1 pp1 nn1 NN1 kc) == 27) = false) := Hd Q44
     have t1 : decide (26 ≤ kk1) = false := by simpa using ca
     have t2 : (kk1 == 24) = false := by simpa using cb
     have t3 : decide (kk1 = 24) = false := by simpa using cb
     clear ca cb
     go_wp2
     go_ret
     exact ⟨congrArg (fun s => Ending.returned (.string s)) (HE00.out OA.out OC.out), hb0.trans (HELD3.out.mono hz0)⟩
   · have OC : RowKit.Hid ((openM (.mk 30 pp1 nn1 NN1 kc) || kdM (.mk 30 pp1 nn1 NN1 kc) == 27) = false) := Hd Q44
     go_wp2
     go_ret
     exact ⟨congrArg (fun s => Ending.returned (.string s)) (HE00.out OA.out OC.out), hb0.trans (HELD3.out.mono hz0)⟩

theorem expr_29 (d : Nat) (HD : DocC 36 exprB d) (p n : ByteArray) (N : Int) (q : Option Addr) (c : Nat) (A : Tm) (R : List Tm) (M : Nat) (w : World) (hk : KidsT w d (.slice q (A :: R).length c) (A :: R)) (hA : exprB d A = true) (hR : ∀ (i : Nat) x, R[i]? = some x → altAt (patB d) (exprB d) (i + 1) x = true) (hM : R.length = 2 * M) (hM1 : 1 ≤ M) (hG : ∀ x ∈ A :: R, Gd d x) (ht : ∀ x ∈ A :: R, tby d x ≤ 12000)
 (hl : (txt d A).length + (armsT true (R.map (txt d))).length ≤ 1000000) :
 Calls Tryz.prog 36 #[tv 29 p n N (.slice q (A :: R).length c)] w fun e w' => e = .returned (.string (ofL ([109, 97, 116, 99, 104, 32] ++ (txt d A ++ (armsT true (R.map (txt d)) ++ [32, 101, 110, 100]))))) ∧ Below w.heap.size w w' := by
 have hk0 := hk
 obtain ⟨_, _, e, hmx, hr⟩ := hk
 cases e
 unfold maxLen at hmx
 obtain ⟨gg, oo, kk0, pp0, nn0, NN0, a4, eq0, ha0, ht0⟩ := hr 0 A rfl
 subst eq0
 obtain ⟨q0, l0, c0, rfl⟩ := ht0.spell
 simp only [Nat.zero_mul, Nat.add_zero] at ha0
 have HLl : RowKit.Hid ((A :: R).length = 2 * M + 1) := Hd (by rw [List.length_cons, hM])
 generalize hLn : (A :: R).length = L at *
 clear hLn
 have hL0 : (0 : Int) < (L : Int) := by rw [HLl.out]; omega
 have hL0n : 0 < L := by omega
 have hb0 := below_alloc w (.cells #[.int .i64 29, .string p, .string n, .int .i64 N, .slice (some ⟨gg, oo, none⟩) L c] 24)
 have hn0 := hb_new w (.cells #[.int .i64 29, .string p, .string n, .int .i64 N, .slice (some ⟨gg, oo, none⟩) L c] 24)
 have hz0 : w.heap.size ≤ (w.alloc (.cells #[.int .i64 29, .string p, .string n, .int .i64 N, .slice (some ⟨gg, oo, none⟩) L c] 24)).heap.size := by simp
 have hzw : w.heap.size < (w.alloc (.cells #[.int .i64 29, .string p, .string n, .int .i64 N, .slice (some ⟨gg, oo, none⟩) L c] 24)).heap.size := by simp
 obtain ⟨SA, hSA⟩ : ∃ SA, SA = ofL (txt d A) := ⟨_, rfl⟩
 have h0 : RowKit.Hid (∀ W, Below w.heap.size w W → Calls Tryz.prog 36 #[tv kk0 pp0 nn0 NN0 (.slice q0 l0 c0)] W fun e w' => e = .returned (.string SA) ∧ Below W.heap.size W w') := Hd fun W hW => by rw [hSA]; exact HD _ A W (ht0.below hW) hA (hG A (by simp)) (ht A (by simp))
 have cz1 : (⟨#[109, 97, 116, 99, 104, 32]⟩ : ByteArray).size = 6 := rfl
 have cz2 : (⟨#[32, 119, 105, 116, 104, 32]⟩ : ByteArray).size = 6 := rfl
 have cz3 : SA.size = (txt d A).length := by rw [hSA, ofL_size]
 have hS1 : (⟨#[109, 97, 116, 99, 104, 32]⟩ : ByteArray).size + SA.size ≤ 1000000000 := by omega
 have hS2 : ((⟨#[109, 97, 116, 99, 104, 32]⟩ : ByteArray) ++ SA).size + 6 ≤ 1000000000 := by rw [ByteArray.size_append]; omega
 obtain ⟨y0, y1, y2, y3, y4⟩ := ha0.below hb0 ha0.lt
 have x4 := hb_at hn0 4 rfl
 have HSA := Hd hSA
 have HN0 := Hd hn0
 have HB0 := Hd hb0
 have HR := Hd hr
 have HRB := Hd hR
 have HG := Hd hG
 have HT := Hd ht
 have HDC := Hd HD
 have HL := Hd hl
 have HM := Hd hM
 have HM1 := Hd hM1
 clear hSA hr ha0 ht0 hA hR hG ht HD hl cz1 cz2 cz3 hn0 hk0 hM hM1
 go_enter Tryz.func36, Tryz.ntmps36
 go_upto_region 30 with (fail)
 generalize hWB : w.alloc (.cells #[.int .i64 29, .string p, .string n, .int .i64 N, .slice (some ⟨gg, oo, none⟩) L c] 24) = wb at *
 clear hWB
 go_wp2_with (go_at_call 36; refine (h0.out _ HB0.out).mono ?_; rintro e wc ⟨rfl, hbc⟩; have HBC := Hd hbc; clear hbc)
 go_outline
 go_loopw [8, 9] (fun u i wr => ∃ (m j : Nat) (U : ByteArray), j = 2 * m + 1 ∧ i = .int .i64 j ∧ m ≤ M ∧ u = .string U ∧ RowKit.Hid (U = ofL ([109, 97, 116, 99, 104, 32] ++ (txt d A ++ (armsT true ((R.take (2 * m)).map (txt d)) ++ (if m = 0 then [32, 119, 105, 116, 104, 32] else []))))) ∧ Below wb.heap.size wb wr) (fun _ i _ => 2 * M + 2 - (intOf i).toNat)
 case atStart => exact ⟨0, 1, _, rfl, rfl, Nat.zero_le _, rfl, Hd (by rw [HSA.out]; apply ByteArray.ext; simp [ofL, armsT]), HBC.out⟩
 case round =>
  obtain ⟨m, j, U, hj, rfl, hm, rfl, HU, hBr⟩ := hrel
  have HB0r := Hd hBr
  have HBr := Hd (HB0.out.trans (hBr.mono hz0))
  have HZr := Hd HBr.out.size
  have HZ0r := Hd hBr.size
  have v4 := hb_at (hb_below HN0.out hBr hzw) 4 rfl
  have hUs : U.size ≤ 1000012 := by
   rw [HU.out, ofL_size]
   have := armsT_take m true (R.map (txt d))
   rw [← List.map_take] at this
   have := HL.out
   simp only [List.length_append, List.length_cons, List.length_nil]
   split <;> simp only [List.length_cons, List.length_nil] <;> omega
  clear hBr y0 y1 y2 y3 y4 x4 hS1 hS2
  by_cases hlt : m < M
  · have hji : (j : Int) < (L : Int) := by rw [HLl.out]; omega
    have hji1 : (j : Int) + 1 < (L : Int) := by rw [HLl.out]; omega
    have hx : (A :: R)[j]? = some (R[2 * m]'Q67) := by rw [hj, List.getElem?_cons_succ]; exact List.getElem?_eq_getElem Q67
    have hy : (A :: R)[j + 1]? = some (R[2 * m + 1]'Q67) := by rw [hj, List.getElem?_cons_succ]; exact List.getElem?_eq_getElem Q67
    have hx1 : R[2 * m]? = some (R[2 * m]'Q67) := List.getElem?_eq_getElem Q67
    have hy1 : R[2 * m + 1]? = some (R[2 * m + 1]'Q67) := List.getElem?_eq_getElem Q67
    have hx2 : (R.map (txt d))[2 * m]? = some (txt d (R[2 * m]'Q67)) := by rw [List.getElem?_map, hx1]; rfl
    have hy2 : (R.map (txt d))[2 * m + 1]? = some (txt d (R[2 * m + 1]'Q67)) := by rw [List.getElem?_map, hy1]; rfl
    have hn := armsT_next m true (R.map (txt d)) _ _ hx2 hy2
    have hlb := armsT_take (m + 1) true (R.map (txt d))
    rw [hn] at hlb
    simp only [← List.map_take, and_true] at hn hlb
    simp only [List.length_append] at hlb
    generalize (R[2 * m]'Q67) = X at *
    generalize (R[2 * m + 1]'Q67) = Y at *
    obtain ⟨_, _, kk1, pp1, nn1, NN1, ss1, eq1, ha1, ht1⟩ := HR.out j X hx
    cases eq1
    obtain ⟨q1, l1, c1, rfl⟩ := ht1.spell
    obtain ⟨_, _, kk2, pp2, nn2, NN2, ss2, eq2, ha2, ht2⟩ := HR.out (j + 1) Y hy
    cases eq2
    obtain ⟨q2, l2, c2, rfl⟩ := ht2.spell
    have hXB : patB d X = true := by have := HRB.out _ X hx1; unfold altAt at this; rwa [if_pos (by omega)] at this
    have hYB : exprB d Y = true := by have := HRB.out _ Y hy1; unfold altAt at this; rwa [if_neg (by omega)] at this
    have hXm := List.mem_of_getElem? hx
    have hYm := List.mem_of_getElem? hy
    obtain ⟨SX, hSX⟩ : ∃ SX, SX = ofL (txt d X) := ⟨_, rfl⟩
    obtain ⟨SY, hSY⟩ : ∃ SY, SY = ofL (txt d Y) := ⟨_, rfl⟩
    have h1 : RowKit.Hid (∀ W, Below w.heap.size w W → Calls Tryz.prog 33 #[tv kk1 pp1 nn1 NN1 (.slice q1 l1 c1)] W fun e w' => e = .returned (.string SX) ∧ Below W.heap.size W w') := Hd fun W hW => by rw [hSX]; exact pat_any9 d _ X W (ht1.below hW) hXB (HG.out X hXm) (HT.out X hXm)
    have h2 : RowKit.Hid (∀ W, Below w.heap.size w W → Calls Tryz.prog 36 #[tv kk2 pp2 nn2 NN2 (.slice q2 l2 c2)] W fun e w' => e = .returned (.string SY) ∧ Below W.heap.size W w') := Hd fun W hW => by rw [hSY]; exact HDC.out _ Y W (ht2.below hW) hYB (HG.out Y hYm) (HT.out Y hYm)
    have cz3 : SX.size ≤ 1000000 := by rw [hSX, ofL_size]; have := HL.out; omega
    have cz4 : SY.size ≤ 1000000 := by rw [hSY, ofL_size]; have := HL.out; omega
    have HSX := Hd hSX
    have HSY := Hd hSY
    have HG1 : RowKit.Hid (([109, 97, 116, 99, 104, 32] ++ (txt d A ++ (armsT true ((R.take (2 * (m + 1))).map (txt d)) ++ (if (m + 1) = 0 then [32, 119, 105, 116, 104, 32] else [])))) = [109, 97, 116, 99, 104, 32] ++ (txt d A ++ (armsT true ((R.take (2 * m)).map (txt d)) ++ ((if m = 0 then [32, 119, 105, 116, 104, 32] else [32, 124, 32]) ++ (txt d X ++ ([32, 45, 62, 32] ++ txt d Y)))))) := Hd (by rw [hn, if_neg (Nat.succ_ne_zero m)]; simp)
    obtain ⟨y0, y1, y2, y3, y4⟩ := ha1.below HBr.out ha1.lt
    obtain ⟨z0, z1, z2, z3, z4⟩ := ha2.below HBr.out ha2.lt
    have cz1 : (⟨#[32, 124, 32]⟩ : ByteArray).size = 3 := rfl
    have cz2 : (⟨#[32, 45, 62, 32]⟩ : ByteArray).size = 4 := rfl
    have cz5 : U.size + 3 ≤ 1000000000 := by omega
    have e1 : IntKind.i64.wrap ((j : Int) + 1) = (j : Int) + 1 := IntWalk.i64_in _ (by omega)
    have e2 : ((j : Int) + 1).toNat = j + 1 := by omega
    have e3 : (0 : Int) ≤ (j : Int) + 1 := by omega
    have hj0 : (j : Int) + 2 ≤ 9223372036854775807 := by omega
    clear ha1 ha2 ht1 ht2 hn hlb hx hy hx1 hy1 hx2 hy2 hXB hYB hXm hYm hSX hSY
    by_cases hm0 : m = 0
    · have hj1 : ¬ 1 < j := by omega
      have hj1' : ¬ (1 : Int) < (j : Int) := by omega
      have HJ := Hd hj
      have HM0 := Hd hm0
      clear hj hm0 hj1
      have hV1 : U.size + SX.size ≤ 1000000000 := by (try simp only [ByteArray.size_append]); omega
      have hV2 : (U ++ SX).size + 4 ≤ 1000000000 := by (try simp only [ByteArray.size_append]); omega
      have hV3 : ((U ++ SX) ++ (⟨#[32, 45, 62, 32]⟩ : ByteArray)).size + SY.size ≤ 1000000000 := by (try simp only [ByteArray.size_append]); omega
      clear cz1 cz2 cz3 cz4 hUs
      go_upto_region 36 with (fail)
      clear cz5
      refine wp_region_held_drew (S := (fun w' => RowKit.Hid (Below wr.heap.size wr w') ∧ w'.cell? ⟨w.heap.size, 4, none⟩ = some (.slice (some ⟨gg, oo, none⟩) L c) ∧ w'.cell? ⟨gg, oo + j * 5, none⟩ = some (.int .i64 kk1) ∧ w'.cell? ⟨gg, oo + j * 5 + 1, none⟩ = some (.string pp1) ∧ w'.cell? ⟨gg, oo + j * 5 + 2, none⟩ = some (.string nn1) ∧ w'.cell? ⟨gg, oo + j * 5 + 3, none⟩ = some (.int .i64 NN1) ∧ w'.cell? ⟨gg, oo + j * 5 + 4, none⟩ = some (.slice q1 l1 c1) ∧ w'.cell? ⟨gg, oo + (j + 1) * 5, none⟩ = some (.int .i64 kk2) ∧ w'.cell? ⟨gg, oo + (j + 1) * 5 + 1, none⟩ = some (.string pp2) ∧ w'.cell? ⟨gg, oo + (j + 1) * 5 + 2, none⟩ = some (.string nn2) ∧ w'.cell? ⟨gg, oo + (j + 1) * 5 + 3, none⟩ = some (.int .i64 NN2) ∧ w'.cell? ⟨gg, oo + (j + 1) * 5 + 4, none⟩ = some (.slice q2 l2 c2))) Q70 (by exact ⟨Hd (below_drewN (Below.refl _ _) 1), v4, y0, y1, y2, y3, y4, z0, z1, z2, z3, z4⟩) (fun hHeld => ?_)
      refine tk 0 180 ?_
      refine tk 1 181 ?_
      refine tk 2 182 ?_
      refine tk 3 183 ?_
      refine tk 4 184 ?_
      refine tk 5 185 ?_
      refine tk 9 189 ?_
      refine tk 10 190 ?_
      refine tk 11 191 ?_
      refine tk 12 192 ?_
      refine tk 13 193 ?_
      refine tk 14 194 ?_
      refine wpAnyH_ready (rs := [6]) Q70 (by simp) ?_
      refine AllReadyH.cons (o := ⟨some 186, _, _, _, _, _⟩) rfl (fun K hK => ?_) AllReadyH.nil
      go_simp
      refine (h1.out _ (HBr.out.trans (hHeld.1.out.mono HZr.out))).mono ?_; rintro e w1 ⟨rfl, hb⟩
      go_wp2_with fail
      refine hK.out _ _ Q1 (fun hNew => ?_)
      clear hK K
      clear hHeld hb; have hHeld := hNew; clear hNew
      try simp only [Act.put, List.setIfInBounds_toArray, List.set_cons_zero, List.set_cons_succ]
      refine tk 7 187 ?_ (hy := by (intro w hSw; (try dsimp only at hSw); go_simp; first | done | (rw [if_neg Q47]) | with_reducible rfl))
      refine tk 8 188 ?_ (hy := by (intro w hSw; (try dsimp only at hSw); go_simp; first | done | (rw [if_neg Q47]) | with_reducible rfl))
      refine wpAnyH_ready (rs := [15]) Q70 (by simp) ?_
      refine AllReadyH.cons (o := ⟨some 195, _, _, _, _, _⟩) rfl (fun K hK => ?_) AllReadyH.nil
      go_simp
      refine (h2.out _ (HBr.out.trans (hHeld.1.out.mono HZr.out))).mono ?_; rintro e w2 ⟨rfl, hb⟩
      go_wp2_with fail
      refine hK.out _ _ Q1 (fun hNew => ?_)
      clear hK K
      clear hHeld hb; have hHeld := hNew; clear hNew
      try simp only [Act.put, List.setIfInBounds_toArray, List.set_cons_zero, List.set_cons_succ]
      refine tk 16 196 ?_ (hy := by (intro w hSw; (try dsimp only at hSw); go_simp; first | done | (rw [if_neg Q47]) | with_reducible rfl))
      refine tk 17 8 ?_
      refine wpAnyH_done Q70 ?_ _
      go_wp2
      have hJ := HJ.out
      exact ⟨⟨m + 1, j + 2, _, by have := HJ.out; omega, by go_num, by omega, rfl, Hd (by
       rw [HU.out, HSX.out, HSY.out, HG1.out]
       obtain rfl := HM0.out
       apply ByteArray.ext
       simp [ofL]), HB0r.out.trans (hHeld.1.out.mono HZ0r.out)⟩, by simp [intOf]; omega⟩
    · have hj1 : 1 < j := by omega
      have hj1' : (1 : Int) < (j : Int) := by omega
      have HJ := Hd hj
      have HM0 := Hd hm0
      clear hj hm0 hj1
      have hV1 : (U ++ (⟨#[32, 124, 32]⟩ : ByteArray)).size + SX.size ≤ 1000000000 := by (try simp only [ByteArray.size_append]); omega
      have hV2 : ((U ++ (⟨#[32, 124, 32]⟩ : ByteArray)) ++ SX).size + 4 ≤ 1000000000 := by (try simp only [ByteArray.size_append]); omega
      have hV3 : (((U ++ (⟨#[32, 124, 32]⟩ : ByteArray)) ++ SX) ++ (⟨#[32, 45, 62, 32]⟩ : ByteArray)).size + SY.size ≤ 1000000000 := by (try simp only [ByteArray.size_append]); omega
      have hW1 : U.size + 3 + SX.size ≤ 1000000000 := by omega
      have hW2 : U.size + 3 + SX.size + 4 ≤ 1000000000 := by omega
      have hW3 : U.size + 3 + SX.size + 4 + SY.size ≤ 1000000000 := by omega
      clear cz1 cz2 cz3 cz4 hUs
      go_upto_region 36 with (fail)
      clear cz5
      refine wp_region_held_drew (S := (fun w' => RowKit.Hid (Below wr.heap.size wr w') ∧ w'.cell? ⟨w.heap.size, 4, none⟩ = some (.slice (some ⟨gg, oo, none⟩) L c) ∧ w'.cell? ⟨gg, oo + j * 5, none⟩ = some (.int .i64 kk1) ∧ w'.cell? ⟨gg, oo + j * 5 + 1, none⟩ = some (.string pp1) ∧ w'.cell? ⟨gg, oo + j * 5 + 2, none⟩ = some (.string nn1) ∧ w'.cell? ⟨gg, oo + j * 5 + 3, none⟩ = some (.int .i64 NN1) ∧ w'.cell? ⟨gg, oo + j * 5 + 4, none⟩ = some (.slice q1 l1 c1) ∧ w'.cell? ⟨gg, oo + (j + 1) * 5, none⟩ = some (.int .i64 kk2) ∧ w'.cell? ⟨gg, oo + (j + 1) * 5 + 1, none⟩ = some (.string pp2) ∧ w'.cell? ⟨gg, oo + (j + 1) * 5 + 2, none⟩ = some (.string nn2) ∧ w'.cell? ⟨gg, oo + (j + 1) * 5 + 3, none⟩ = some (.int .i64 NN2) ∧ w'.cell? ⟨gg, oo + (j + 1) * 5 + 4, none⟩ = some (.slice q2 l2 c2))) Q70 (by exact ⟨Hd (below_drewN (Below.refl _ _) 1), v4, y0, y1, y2, y3, y4, z0, z1, z2, z3, z4⟩) (fun hHeld => ?_)
      refine tk 0 180 ?_
      refine tk 1 181 ?_
      refine tk 2 182 ?_
      refine tk 3 183 ?_
      refine tk 4 184 ?_
      refine tk 5 185 ?_
      refine tk 9 189 ?_
      refine tk 10 190 ?_
      refine tk 11 191 ?_
      refine tk 12 192 ?_
      refine tk 13 193 ?_
      refine tk 14 194 ?_
      refine wpAnyH_ready (rs := [6]) Q70 (by simp) ?_
      refine AllReadyH.cons (o := ⟨some 186, _, _, _, _, _⟩) rfl (fun K hK => ?_) AllReadyH.nil
      go_simp
      refine (h1.out _ (HBr.out.trans (hHeld.1.out.mono HZr.out))).mono ?_; rintro e w1 ⟨rfl, hb⟩
      go_wp2_with fail
      refine hK.out _ _ Q1 (fun hNew => ?_)
      clear hK K
      clear hHeld hb; have hHeld := hNew; clear hNew
      try simp only [Act.put, List.setIfInBounds_toArray, List.set_cons_zero, List.set_cons_succ]
      refine tk 7 187 ?_ (hy := by (intro w hSw; (try dsimp only at hSw); go_simp; first | done | (rw [if_neg Q47]) | with_reducible rfl))
      refine tk 8 188 ?_ (hy := by (intro w hSw; (try dsimp only at hSw); go_simp; first | done | (rw [if_neg Q47]) | with_reducible rfl))
      refine wpAnyH_ready (rs := [15]) Q70 (by simp) ?_
      refine AllReadyH.cons (o := ⟨some 195, _, _, _, _, _⟩) rfl (fun K hK => ?_) AllReadyH.nil
      go_simp
      refine (h2.out _ (HBr.out.trans (hHeld.1.out.mono HZr.out))).mono ?_; rintro e w2 ⟨rfl, hb⟩
      go_wp2_with fail
      refine hK.out _ _ Q1 (fun hNew => ?_)
      clear hK K
      clear hHeld hb; have hHeld := hNew; clear hNew
      try simp only [Act.put, List.setIfInBounds_toArray, List.set_cons_zero, List.set_cons_succ]
      refine tk 16 196 ?_ (hy := by (intro w hSw; (try dsimp only at hSw); go_simp; first | done | (rw [if_neg Q47]) | with_reducible rfl))
      refine tk 17 8 ?_
      refine wpAnyH_done Q70 ?_ _
      go_wp2
      have hJ := HJ.out
      exact ⟨⟨m + 1, j + 2, _, by have := HJ.out; omega, by go_num, by omega, rfl, Hd (by
       rw [HU.out, HSX.out, HSY.out, HG1.out]
       rw [if_neg HM0.out]
       apply ByteArray.ext
       simp [ofL, HM0.out]), HB0r.out.trans (hHeld.1.out.mono HZ0r.out)⟩, by simp [intOf]; omega⟩
  · have hji : ¬ (j : Int) < (L : Int) := by rw [HLl.out]; omega
    obtain rfl : m = M := by omega
    have hU5 : U.size + 4 ≤ 1000000000 := by omega
    have cz1 : (⟨#[32, 101, 110, 100]⟩ : ByteArray).size = 4 := rfl
    clear hUs
    go_wp2
    go_ret
    exact ⟨congrArg (fun s => Ending.returned (.string s)) (by
     rw [HU.out, if_neg (by have := HM1.out; omega), List.take_of_length_le Q67]
     apply ByteArray.ext
     simp [ofL]), HBr.out⟩
theorem alt_at {f11 f13 : Tm → Bool} : ∀ {r : List Tm} {m i : Nat} {x : Tm}, altB f11 f13 m r = true → r[i]? = some x → altAt f11 f13 (m + i) x = true := by
 intro r
 induction r with
 | nil => intro m i x _ h; simp at h
 | cons y r ih =>
  intro m i x h hx
  simp only [altB, Bool.and_eq_true] at h
  cases i with
  | zero => simp at hx; subst hx; exact h.1
  | succ i =>
   have := ih (i := i) h.2 (by simpa using hx)
   rwa [show m + 1 + i = m + (i + 1) from by omega] at this
theorem expr_next9 (d : Nat) (HD : DocC 36 exprB d) : DocC 36 exprB (d + 1) := by
 intro v x W h hB hG ht
 have hlen := txt_len (d + 1) x (wf_expr (d + 1) x hB hG)
 obtain ⟨m, k, p, n, N, s, kids, em, rfl, rfl, hp, hn, hk⟩ := h.open
 obtain rfl : d = m := by omega
 obtain ⟨g1, g2, g3, g4⟩ := hG
 have htb : p.size + n.size + 1 + (kids.map (tby d)).sum ≤ 12000 := ht
 have hkl := kids_few hk
 have hkt : ∀ y ∈ kids, tby d y ≤ 12000 := fun y hy => by have := sum_mem (f := tby d) hy; omega
 have hl12 : (txt (d + 1) (.mk k p n N kids)).length ≤ 480000 := by
  have : 40 * tby (d + 1) (.mk k p n N kids) ≤ 40 * 12000 := Nat.mul_le_mul_left 40 ht
  omega
 clear hlen
 obtain ⟨q, c, rfl, hmx, hr⟩ := hk
 have hk : KidsT W d (.slice q kids.length c) kids := ⟨q, c, rfl, hmx, hr⟩
 have none : (kids.length == 0) = true → ∀ y ∈ kids, exprB d y = true := fun h y hy => by
  have := List.eq_nil_of_length_eq_zero (beq_iff_eq.1 h)
  rw [this] at hy; cases hy
 simp only [exprB] at hB
 by_cases h21 : k = 21
 · subst h21
   rw [if_pos rfl] at hB
   simp only [Bool.and_eq_true] at hB
   have e : txt (d + 1) (.mk 21 p n N kids) = qualT p n ++ (if kids.length = 0 then [] else heldT (kids.map (txt d))) := by simp [txt]
   rw [e] at hl12 ⊢
   exact expr_21 d HD p n N q c kids W hk (none hB.2) g4 hkt (by omega) (by omega)
 rw [if_neg h21] at hB
 by_cases h22 : k = 22
 · subst h22
   rw [if_pos rfl] at hB
   simp only [Bool.and_eq_true] at hB
   have e : txt (d + 1) (.mk 22 p n N kids) = tellT ⟨4, ⟨#[]⟩, N⟩ := by simp [txt]
   rw [e]
   exact expr_22 p n N q _ c W (num_r hB.1)
 rw [if_neg h22] at hB
 by_cases h23 : k = 23
 · subst h23
   have e : txt (d + 1) (.mk 23 p n N kids) = tellT ⟨5, n, 0⟩ := by simp [txt]
   rw [e]
   exact expr_23 p n N q _ c W g2
 rw [if_neg h23] at hB
 by_cases h24 : k = 24
 · subst h24
   rw [if_pos rfl] at hB
   simp only [Bool.and_eq_true] at hB
   have e : txt (d + 1) (.mk 24 p n N kids) = qualT p n ++ (if kids.length = 0 then [] else heldT (kids.map (txt d))) := by simp [txt]
   rw [e] at hl12 ⊢
   exact expr_24 d HD p n N q c kids W hk (List.all_eq_true.1 hB.2) g4 hkt (by omega) (by omega)
 rw [if_neg h24] at hB
 by_cases h25 : k = 25
 · subst h25
   rw [if_pos rfl] at hB
   unfold tupB at hB
   simp only [Bool.and_eq_true] at hB
   have e : txt (d + 1) (.mk 25 p n N kids) = heldT (kids.map (txt d)) := by simp [txt]
   rw [e] at hl12 ⊢
   exact expr_25 d HD p n N q c kids W hk (List.all_eq_true.1 hB.2.2) g4 hkt (by omega) (by omega)
 rw [if_neg h25] at hB
 by_cases h26 : k = 26
 · subst h26
   rw [if_pos rfl] at hB
   simp only [Bool.and_eq_true] at hB
   obtain ⟨A, rfl, hA⟩ := zip_e hB.2
   have e : txt (d + 1) (.mk 26 p n N [A]) = [102, 117, 110, 32] ++ (n.data.toList ++ ([32, 45, 62, 32] ++ txt d A)) := by simp [txt, cmpT]
   rw [e] at hl12 ⊢
   exact expr_26 d HD p n N q c A W hk hA (g4 A (by simp)) (hkt A (by simp)) g2 Q51
 rw [if_neg h26] at hB
 by_cases h27 : k = 27
 · subst h27
   rw [if_pos rfl] at hB
   simp only [Bool.and_eq_true] at hB
   obtain ⟨A, C, rfl, hA, hC⟩ := zip_ee hB.2
   have e : txt (d + 1) (.mk 27 p n N [A, C]) = withinT (openM A) (txt d A) ++ ([32] ++ withinT (openM C || kdM C == 27) (txt d C)) := by simp [txt, cmpT]
   have hw : ∀ b (l : List UInt8), l.length ≤ (withinT b l).length := fun b l => by unfold withinT; split <;> simp <;> omega
   have hw1 := hw (openM A) (txt d A)
   have hw2 := hw (openM C || kdM C == 27) (txt d C)
   rw [e] at hl12 ⊢
   exact expr_27 d HD p n N q c A C W hk ⟨hA, g4 A (by simp), hkt A (by simp)⟩ ⟨hC, g4 C (by simp), hkt C (by simp)⟩ Q51
 rw [if_neg h27] at hB
 by_cases h28 : k = 28
 · subst h28
   rw [if_pos rfl] at hB
   unfold letB at hB
   simp only [Bool.and_eq_true, Bool.or_eq_true] at hB
   by_cases hN1 : N = 1
   · subst hN1
     rcases hB.2 with h2 | h2
     · obtain ⟨A, C, rfl, hA, hC⟩ := zip_ee h2
       have e : txt (d + 1) (.mk 28 p n 1 [A, C]) = [108, 101, 116, 32] ++ ([114, 101, 99, 32] ++ (n.data.toList ++ (([32, 61, 32] ++ (txt d A ++ ([32, 105, 110, 32] ++ txt d C)))))) := by simp [txt, cmpT, annT]
       rw [e] at hl12 ⊢
       exact expr_28r d HD p n q c A C W hk ⟨hA, g4 A (by simp), hkt A (by simp)⟩ ⟨hC, g4 C (by simp), hkt C (by simp)⟩ g2 Q51
     · obtain ⟨A, C, T, rfl, hA, hC, hT⟩ := zip_eet h2
       have e : txt (d + 1) (.mk 28 p n 1 [A, C, T]) = [108, 101, 116, 32] ++ ([114, 101, 99, 32] ++ (n.data.toList ++ (([32, 58, 32] ++ txt d T) ++ ([32, 61, 32] ++ (txt d A ++ ([32, 105, 110, 32] ++ txt d C)))))) := by simp [txt, cmpT, annT]
       rw [e] at hl12 ⊢
       exact expr_28r3 d HD p n q c A C T W hk ⟨hA, g4 A (by simp), hkt A (by simp)⟩ ⟨hC, g4 C (by simp), hkt C (by simp)⟩ ⟨hT, g4 T (by simp), hkt T (by simp)⟩ g2 Q51
   · rcases hB.2 with h2 | h2
     · obtain ⟨A, C, rfl, hA, hC⟩ := zip_ee h2
       have e : txt (d + 1) (.mk 28 p n N [A, C]) = [108, 101, 116, 32] ++ (n.data.toList ++ (([32, 61, 32] ++ (txt d A ++ ([32, 105, 110, 32] ++ txt d C))))) := by simp [txt, cmpT, annT, hN1]
       rw [e] at hl12 ⊢
       exact expr_28n d HD p n N hN1 q c A C W hk ⟨hA, g4 A (by simp), hkt A (by simp)⟩ ⟨hC, g4 C (by simp), hkt C (by simp)⟩ g2 Q51
     · obtain ⟨A, C, T, rfl, hA, hC, hT⟩ := zip_eet h2
       have e : txt (d + 1) (.mk 28 p n N [A, C, T]) = [108, 101, 116, 32] ++ (n.data.toList ++ (([32, 58, 32] ++ txt d T) ++ ([32, 61, 32] ++ (txt d A ++ ([32, 105, 110, 32] ++ txt d C))))) := by simp [txt, cmpT, annT, hN1]
       rw [e] at hl12 ⊢
       exact expr_28n3 d HD p n N hN1 q c A C T W hk ⟨hA, g4 A (by simp), hkt A (by simp)⟩ ⟨hC, g4 C (by simp), hkt C (by simp)⟩ ⟨hT, g4 T (by simp), hkt T (by simp)⟩ g2 Q51
 rw [if_neg h28] at hB
 by_cases h29 : k = 29
 · subst h29
   simp only [if_true, Bool.and_eq_true] at hB
   have hB2 := hB.2
   unfold matchB at hB2
   simp only [Bool.and_eq_true, decide_eq_true_eq, beq_iff_eq] at hB2
   match kids, hB2, hk, g4, hkt, hl12 with
   | A :: R, hB2, hk, g4, hkt, hl12 =>
    have hal := hB2.2.2
    simp only [altB, Bool.and_eq_true] at hal
    rw [if_neg (by decide)] at hal
    have e : txt (d + 1) (.mk 29 p n N (A :: R)) = [109, 97, 116, 99, 104, 32] ++ (txt d A ++ (armsT true (R.map (txt d)) ++ [32, 101, 110, 100])) := by simp [txt, cmpT, Function.comp_def]
    rw [e] at hl12 ⊢
    exact expr_29 d HD p n N q c A R (R.length / 2) W hk hal.1 (fun i x hx => by rw [Nat.add_comm]; exact alt_at hal.2 hx) (by have := hB2.2.1; simp only [List.length_cons] at this; omega) (by have := hB2.1; have := hB2.2.1; simp only [List.length_cons] at *; omega) g4 hkt Q51
 rw [if_neg h29] at hB
 by_cases h30 : k = 30
 · subst h30
   rw [if_pos rfl] at hB
   simp only [Bool.and_eq_true] at hB
   obtain ⟨A, C, rfl, hA, hC⟩ := zip_et hB.2
   have e : txt (d + 1) (.mk 30 p n N [A, C]) = [40] ++ (txt d A ++ (([32, 58, 32] ++ txt d C) ++ [41])) := by simp [txt, cmpT, annT]
   rw [e] at hl12 ⊢
   exact expr_30 d HD p n N q c A C W hk ⟨hA, g4 A (by simp), hkt A (by simp)⟩ ⟨hC, g4 C (by simp), hkt C (by simp)⟩ Q51
 rw [if_neg h30] at hB
 cases hB
theorem expr_any9 : ∀ d, DocC 36 exprB d
 | 0 => fun _ _ _ h => by cases h
 | d + 1 => expr_next9 d (expr_any9 d)
theorem exprD_30 (d : Nat) (hd : Judge 35 (exprB d) d) (p n : ByteArray) (N : Int) (q : Option Addr) (c : Nat) (kids : List Tm) (hp : p.size ≤ 100000) (hn : n.size ≤ 100000) (hm : kids.length ≤ 2 ^ 63 - 1) (hg : ∀ x ∈ kids, Gd d x) (w : World) (hw : LxW w) (hk : KidsT w d (.slice q kids.length c) kids) :
 Calls Tryz.prog 35 #[tv 30 p n N (.slice q kids.length c)] w (Ans (onlyB ⟨#[]⟩ p n N && zipB (typeB d) (exprB d) [34, 28] kids) w) := by
 by_cases hl : kids.length = 2
 rotate_left
 · have hz : zipB (typeB d) (exprB d) [34, 28] kids = false := zip_len (fun e => hl e.symm)
   rw [hz]
   have hL : ((kids.length : Int) == 2) = false := by rw [beq_eq_false_iff_ne]; omega
   have Hb1 := Hd (fun W => only_any 30 p n N q kids.length c ⟨#[]⟩ (by decide) W)
   generalize onlyB ⟨#[]⟩ p n N = b1 at *
   have hnew := hb_new w (.cells #[.int .i64 30, .string p, .string n, .int .i64 N, .slice q kids.length c] 24)
   have K0 := Hd hnew
   have LX0 := Hd (fun o => hw.under rfl (below_alloc w o))
   have HK0 := Hd (hk.below (below_alloc w (.cells #[.int .i64 30, .string p, .string n, .int .i64 N, .slice q kids.length c] 24)))
   clear hw hk hg hp hn hd hnew hl hz
   cases b1
   all_goals
    go_enter Tryz.func35, Tryz.ntmps35
    go_wp2_with (go_at_call 82; ((with_reducible refine (Hb1.out _).mono ?_); rintro e w1 ⟨rfl, hb⟩; have HBB1 := Hd ((below_alloc w _).trans (hb.mono (by simp))); have kk1 := hb_below K0.out hb (by simp); have LX1 := Hd ((LX0.out _).under rfl hb); have HK1 := Hd (HK0.out.below hb); have K1 := Hd kk1; obtain ⟨r1_0, r1_1, r1_2, r1_3, r1_4⟩ := hb5 kk1; clear hb kk1))
    go_ret
    exact ⟨rfl, HBB1.out⟩
 obtain ⟨x, y, rfl⟩ : ∃ x y, kids = [x, y] := by
   match kids, hl with
   | [x, y], _ => exact ⟨x, y, rfl⟩
 obtain ⟨q', c', hqc, _, hr⟩ := hk
 injection hqc with e1 _ e3
 subst e1 e3
 have hz : zipB (typeB d) (exprB d) [34, 28] [x, y] = (exprB d x && typeB d y) := by simp [zipB, byF]
 rw [hz]
 show Calls Tryz.prog 35 #[tv 30 p n N (.slice q 2 c)] w _
 obtain ⟨b0, o0, k0, p0, n0, N0, s0, hq0, ha0, ht0⟩ := hr 0 x rfl
 obtain ⟨b1, o1, k1, p1, n1, N1, s1, hq1, ha1, ht1⟩ := hr 1 y rfl
 subst hq0
 have hq1' := hq1
 injection hq1' with hq1'
 injection hq1' with hb1 ho1 _
 subst hb1 ho1
 clear hq1
 obtain ⟨q0, l0, c0, hs0⟩ := ht0.spell
 subst hs0
 obtain ⟨q1, l1, c1, hs1⟩ := ht1.spell
 subst hs1
 rw [Nat.zero_mul, Nat.add_zero] at ha0
 rw [Nat.one_mul] at ha1
 have HC0 := Hd (fun W (hb : Below w.heap.size w W) => ha0.below hb ha0.lt)
 have HC1 := Hd (fun W (hb : Below w.heap.size w W) => ha1.below hb ha1.lt)
 have HJ0 := Hd (fun W (hb : Below w.heap.size w W) => hd _ x W (ht0.below hb) (hg x (by simp)) (hw.below hb))
 have HJ1 := Hd (fun W (hb : Below w.heap.size w W) => typeD_any d _ y W (ht1.below hb) (hg y (by simp)) (hw.below hb))
 have Hb1 := Hd (fun W => only_any 30 p n N (some ⟨b0, o0, none⟩) 2 c ⟨#[]⟩ (by decide) W)
 generalize onlyB ⟨#[]⟩ p n N = b1 at *
 generalize exprB d x = b2 at *
 generalize typeB d y = b3 at *
 have hnew := hb_new w (.cells #[.int .i64 30, .string p, .string n, .int .i64 N, .slice (some ⟨b0, o0, none⟩) 2 c] 24)
 have K0 := Hd hnew
 have LX0 := Hd (fun o => hw.under rfl (below_alloc w o))
 clear hw hg hp hn hd hnew hl hz hr ha0 ha1 ht0 ht1
 cases b1
 · go_enter Tryz.func35, Tryz.ntmps35
   go_wp2_with (go_at_call 82; ((with_reducible refine (Hb1.out _).mono ?_); rintro e w1 ⟨rfl, hb⟩; have HBB1 := Hd ((below_alloc w _).trans (hb.mono (by simp))); have kk1 := hb_below K0.out hb (by simp); have LX1 := Hd ((LX0.out _).under rfl hb); have K1 := Hd kk1; obtain ⟨r1_0, r1_1, r1_2, r1_3, r1_4⟩ := hb5 kk1; clear hb kk1; obtain ⟨y100, y101, y102, y103, y104⟩ := HC0.out _ HBB1.out))
   go_ret
   exact ⟨rfl, HBB1.out⟩
 cases b2
 · go_enter Tryz.func35, Tryz.ntmps35
   go_wp2_with (first
    | (go_at_call 82; ((with_reducible refine (Hb1.out _).mono ?_); rintro e w1 ⟨rfl, hb⟩; have HBB1 := Hd ((below_alloc w _).trans (hb.mono (by simp))); have kk1 := hb_below K0.out hb (by simp); have LX1 := Hd ((LX0.out _).under rfl hb); have K1 := Hd kk1; obtain ⟨r1_0, r1_1, r1_2, r1_3, r1_4⟩ := hb5 kk1; clear hb kk1; obtain ⟨y100, y101, y102, y103, y104⟩ := HC0.out _ HBB1.out))
    | (go_at_call 35; ((with_reducible refine (HJ0.out _ HBB1.out).mono ?_); rintro e w2 ⟨rfl, hb⟩; have HBB2 := Hd (HBB1.out.trans (hb.mono HBB1.out.size)); have kk2 := hb_below K1.out hb (hb_lt K1.out); have LX2 := Hd (LX1.out.under rfl hb); have K2 := Hd kk2; obtain ⟨r2_0, r2_1, r2_2, r2_3, r2_4⟩ := hb5 kk2; clear hb kk2; obtain ⟨y210, y211, y212, y213, y214⟩ := HC1.out _ HBB2.out)))
   go_ret
   exact ⟨rfl, HBB2.out⟩
 go_enter Tryz.func35, Tryz.ntmps35
 go_wp2_with (first
   | (go_at_call 82; ((with_reducible refine (Hb1.out _).mono ?_); rintro e w1 ⟨rfl, hb⟩; have HBB1 := Hd ((below_alloc w _).trans (hb.mono (by simp))); have kk1 := hb_below K0.out hb (by simp); have LX1 := Hd ((LX0.out _).under rfl hb); have K1 := Hd kk1; obtain ⟨r1_0, r1_1, r1_2, r1_3, r1_4⟩ := hb5 kk1; clear hb kk1; obtain ⟨y100, y101, y102, y103, y104⟩ := HC0.out _ HBB1.out))
   | (go_at_call 35; ((with_reducible refine (HJ0.out _ HBB1.out).mono ?_); rintro e w2 ⟨rfl, hb⟩; have HBB2 := Hd (HBB1.out.trans (hb.mono HBB1.out.size)); have kk2 := hb_below K1.out hb (hb_lt K1.out); have LX2 := Hd (LX1.out.under rfl hb); have K2 := Hd kk2; obtain ⟨r2_0, r2_1, r2_2, r2_3, r2_4⟩ := hb5 kk2; clear hb kk2; obtain ⟨y210, y211, y212, y213, y214⟩ := HC1.out _ HBB2.out))
   | (go_at_call 29; ((with_reducible refine (HJ1.out _ HBB2.out).mono ?_); rintro e w3 ⟨rfl, hb⟩; have HBB3 := Hd (HBB2.out.trans (hb.mono HBB2.out.size)); clear hb)))
 go_ret
 exact ⟨rfl, HBB3.out⟩
end Go.Proofs.YtmkjalnlldpdcaaGreatDoor
