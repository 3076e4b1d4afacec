/- Texts in a row: Vi Vj Vk Vl. -/
import Derived.Test.YtmkjalnlldpdcaaGreatDoorZT29
set_option maxHeartbeats 16000000
set_option maxRecDepth 100000
namespace Go.Proofs.YtmkjalnlldpdcaaGreatDoor
open Go.RowKit
set_option linter.unusedSimpArgs false
set_option linter.unusedVariables false
theorem expr_26 (d : Nat) (HD : DocC 36 exprB d) (p n : ByteArray) (N : Int) (q : Option Addr) (c : Nat) (A : Tm) (w : World) (hk : KidsT w d (.slice q 1 c) [A]) (hB : exprB d A = true) (hG : Gd d A) (ht : tby d A ≤ 12000) (hn : n.size ≤ 100000)
 (hl : (txt d A).length ≤ 1000000) :
 Calls Tryz.prog 36 #[tv 26 p n N (.slice q 1 c)] w fun e w' => e = .returned (.string (ofL ([102, 117, 110, 32] ++ (n.data.toList ++ ([32, 45, 62, 32] ++ txt d A))))) ∧ Below w.heap.size w w' := by
 obtain ⟨_, _, e, _, hr⟩ := hk
 cases e
 obtain ⟨gg, oo, kk0, pp0, nn0, NN0, a4, eq0, ha0, ht0⟩ := hr 0 A rfl
 subst eq0
 obtain ⟨q0, l0, c0, rfl⟩ := ht0.spell
 simp only [Nat.zero_mul, Nat.add_zero] at ha0
 have hb0 := below_alloc w (.cells #[.int .i64 26, .string p, .string n, .int .i64 N, .slice (some ⟨gg, oo, none⟩) 1 c] 24)
 have hn0 := hb_new w (.cells #[.int .i64 26, .string p, .string n, .int .i64 N, .slice (some ⟨gg, oo, none⟩) 1 c] 24)
 have hz0 : w.heap.size ≤ (w.alloc (.cells #[.int .i64 26, .string p, .string n, .int .i64 N, .slice (some ⟨gg, oo, none⟩) 1 c] 24)).heap.size := by simp
 obtain ⟨SA, hSA⟩ : ∃ SA, SA = ofL (txt d A) := ⟨_, rfl⟩
 have h0 : RowKit.Hid (∀ W, Below w.heap.size w W → Calls Tryz.prog 36 #[tv kk0 pp0 nn0 NN0 (.slice q0 l0 c0)] W fun e w' => e = .returned (.string SA) ∧ Below W.heap.size W w') := Hd fun W hW => by rw [hSA]; exact HD _ A W (ht0.below hW) hB hG ht
 have cz1 : (⟨#[102, 117, 110, 32]⟩ : ByteArray).size = 4 := rfl
 have cz2 : (⟨#[32, 45, 62, 32]⟩ : ByteArray).size = 4 := rfl
 have cz3 : SA.size = (txt d A).length := by rw [hSA, ofL_size]
 have hS1 : (⟨#[102, 117, 110, 32]⟩ : ByteArray).size + n.size ≤ 1000000000 := by omega
 have hS2 : ((⟨#[102, 117, 110, 32]⟩ : ByteArray) ++ n).size + 4 ≤ 1000000000 := by rw [ByteArray.size_append]; omega
 have hS3 : (((⟨#[102, 117, 110, 32]⟩ : ByteArray) ++ n) ++ ⟨#[32, 45, 62, 32]⟩).size + SA.size ≤ 1000000000 := by rw [ByteArray.size_append, ByteArray.size_append]; omega
 clear cz1 cz2 cz3
 have HE : RowKit.Hid ((((⟨#[102, 117, 110, 32]⟩ : ByteArray) ++ n) ++ ⟨#[32, 45, 62, 32]⟩) ++ SA = ofL ([102, 117, 110, 32] ++ (n.data.toList ++ ([32, 45, 62, 32] ++ txt d A)))) := Hd (by rw [hSA]; apply ByteArray.ext; simp [ofL])
 obtain ⟨y0, y1, y2, y3, y4⟩ := ha0.below hb0 ha0.lt
 clear hSA hr ha0 ht0 hB hG ht HD hl
 go_enter Tryz.func36, Tryz.ntmps36
 go_upto_region 12 with (fail)
 obtain ⟨x0, x1, x2, x3, x4⟩ := hb5 hn0
 generalize w.alloc (.cells #[.int .i64 26, .string p, .string n, .int .i64 N, .slice (some ⟨gg, oo, none⟩) 1 c] 24) = wb at *
 clear hn0
 refine wp_region_held_drew (S := (fun w' => RowKit.Hid (Below wb.heap.size wb w') ∧ w'.cell? ⟨w.heap.size, 0, none⟩ = some (.int .i64 26) ∧ w'.cell? ⟨w.heap.size, 1, none⟩ = some (.string p) ∧ w'.cell? ⟨w.heap.size, 2, none⟩ = some (.string n) ∧ w'.cell? ⟨w.heap.size, 3, none⟩ = some (.int .i64 N) ∧ w'.cell? ⟨w.heap.size, 4, none⟩ = some (.slice (some ⟨gg, oo, none⟩) 1 c) ∧ w'.cell? ⟨gg, oo, none⟩ = some (.int .i64 kk0) ∧ w'.cell? ⟨gg, oo + 1, none⟩ = some (.string pp0) ∧ w'.cell? ⟨gg, oo + 2, none⟩ = some (.string nn0) ∧ w'.cell? ⟨gg, oo + 3, none⟩ = some (.int .i64 NN0) ∧ w'.cell? ⟨gg, oo + 4, none⟩ = some (.slice q0 l0 c0))) Q70 (by exact ⟨Hd (below_drewN (Below.refl _ _) 1), x0, x1, x2, x3, x4, y0, y1, y2, y3, y4⟩) (fun hHeld => ?_)
 refine tk 0 38 ?_
 refine tk 1 39 ?_
 refine tk 2 40 ?_ (hy := by (intro w hSw; (try dsimp only at hSw); go_simp; first | done | (rw [if_neg Q47]) | with_reducible rfl))
 refine tk 3 41 ?_ (hy := by (intro w hSw; (try dsimp only at hSw); go_simp; first | done | (rw [if_neg Q47]) | with_reducible rfl))
 refine tk 4 42 ?_
 refine tk 5 43 ?_
 refine tk 6 44 ?_
 refine tk 7 45 ?_
 refine wpAnyH_ready (rs := [8]) Q70 (by simp) ?_
 refine AllReadyH.cons (o := ⟨some 46, _, _, _, _, _⟩) rfl (fun K hK => ?_) AllReadyH.nil
 go_simp
 refine (h0.out _ (hb0.trans (hHeld.1.out.mono hz0))).mono ?_; rintro e w1 ⟨rfl, hb⟩
 go_wp2_with fail
 refine hK.out _ _ (by exact ⟨Hd (hHeld.1.out.trans (hb.mono hHeld.1.out.size)), keep_cell hb hHeld.2.1, keep_cell hb hHeld.2.2.1, keep_cell hb hHeld.2.2.2.1, keep_cell hb hHeld.2.2.2.2.1, keep_cell hb hHeld.2.2.2.2.2.1, keep_cell hb hHeld.2.2.2.2.2.2.1, keep_cell hb hHeld.2.2.2.2.2.2.2.1, keep_cell hb hHeld.2.2.2.2.2.2.2.2.1, keep_cell hb hHeld.2.2.2.2.2.2.2.2.2.1, keep_cell hb hHeld.2.2.2.2.2.2.2.2.2.2⟩) (fun hNew => ?_)
 clear hK K
 clear hHeld hb; have hHeld := hNew; clear hNew
 try simp only [Act.put, List.setIfInBounds_toArray, List.set_cons_zero, List.set_cons_succ]
 refine tk 9 47 ?_ (hy := by (intro w hSw; (try dsimp only at hSw); go_simp; first | done | (rw [if_neg Q47]) | with_reducible rfl))
 refine tk 10 2 ?_
 refine wpAnyH_done Q70 ?_ _
 go_wp2
 go_ret
 exact ⟨congrArg (fun s => Ending.returned (.string s)) HE.out, hb0.trans (hHeld.1.out.mono hz0)⟩
theorem expr_30 (d : Nat) (HD : DocC 36 exprB d) (p n : ByteArray) (N : Int) (q : Option Addr) (c : Nat) (A C : Tm) (w : World) (hk : KidsT w d (.slice q 2 c) [A, C]) (hA : exprB d A = true ∧ Gd d A ∧ tby d A ≤ 12000) (hC : typeB d C = true ∧ Gd d C ∧ tby d C ≤ 12000)
 (hl : (txt d A).length + (txt d C).length ≤ 1000000) :
 Calls Tryz.prog 36 #[tv 30 p n N (.slice q 2 c)] w fun e w' => e = .returned (.string (ofL ([40] ++ (txt d A ++ (([32, 58, 32] ++ txt d C) ++ [41]))))) ∧ Below w.heap.size w w' := by
 obtain ⟨_, _, e, _, hr⟩ := hk
 cases e
 obtain ⟨gg, oo, kk0, pp0, nn0, NN0, a4, eq0, ha0, ht0⟩ := hr 0 A rfl
 subst eq0
 obtain ⟨gg1, oo1, kk1, pp1, nn1, NN1, c4, eq1, ha1, ht1⟩ := hr 1 C rfl
 cases eq1
 obtain ⟨q0, l0, c0, rfl⟩ := ht0.spell
 obtain ⟨q1, l1, c1, rfl⟩ := ht1.spell
 simp only [Nat.zero_mul, Nat.one_mul, Nat.add_zero] at ha0 ha1
 have hb0 := below_alloc w (.cells #[.int .i64 30, .string p, .string n, .int .i64 N, .slice (some ⟨gg, oo, none⟩) 2 c] 24)
 have hn0 := hb_new w (.cells #[.int .i64 30, .string p, .string n, .int .i64 N, .slice (some ⟨gg, oo, none⟩) 2 c] 24)
 have hz0 : w.heap.size ≤ (w.alloc (.cells #[.int .i64 30, .string p, .string n, .int .i64 N, .slice (some ⟨gg, oo, none⟩) 2 c] 24)).heap.size := by simp
 obtain ⟨SA, hSA⟩ : ∃ SA, SA = ofL (txt d A) := ⟨_, rfl⟩
 obtain ⟨SC, hSC⟩ : ∃ SC, SC = ofL (txt d C) := ⟨_, rfl⟩
 have h0 : RowKit.Hid (∀ W, Below w.heap.size w W → Calls Tryz.prog 36 #[tv kk0 pp0 nn0 NN0 (.slice q0 l0 c0)] W fun e w' => e = .returned (.string SA) ∧ Below W.heap.size W w') := Hd fun W hW => by rw [hSA]; exact HD _ A W (ht0.below hW) hA.1 hA.2.1 hA.2.2
 have h1 : RowKit.Hid (∀ W, Below w.heap.size w W → Calls Tryz.prog 30 #[tv kk1 pp1 nn1 NN1 (.slice q1 l1 c1)] W fun e w' => e = .returned (.string SC) ∧ Below W.heap.size W w') := Hd fun W hW => by rw [hSC]; exact typ_any d _ C W (ht1.below hW) hC.1 hC.2.1 hC.2.2
 have cz1 : (⟨#[40]⟩ : ByteArray).size = 1 := rfl
 have cz2 : (⟨#[32, 58, 32]⟩ : ByteArray).size = 3 := rfl
 have cz3 : SA.size = (txt d A).length := by rw [hSA, ofL_size]
 have cz4 : SC.size = (txt d C).length := by rw [hSC, ofL_size]
 have hS1 : (⟨#[40]⟩ : ByteArray).size + SA.size ≤ 1000000000 := by omega
 have hS2 : ((⟨#[40]⟩ : ByteArray) ++ SA).size + 3 ≤ 1000000000 := by rw [ByteArray.size_append]; omega
 have hS3 : (((⟨#[40]⟩ : ByteArray) ++ SA) ++ ⟨#[32, 58, 32]⟩).size + SC.size ≤ 1000000000 := by rw [ByteArray.size_append, ByteArray.size_append]; omega
 have hS4 : ((((⟨#[40]⟩ : ByteArray) ++ SA) ++ ⟨#[32, 58, 32]⟩) ++ SC).size + 1 ≤ 1000000000 := by rw [ByteArray.size_append, ByteArray.size_append, ByteArray.size_append]; omega
 have HE : RowKit.Hid (((((⟨#[40]⟩ : ByteArray) ++ SA) ++ ⟨#[32, 58, 32]⟩) ++ SC) ++ ⟨#[41]⟩ = ofL ([40] ++ (txt d A ++ (([32, 58, 32] ++ txt d C) ++ [41])))) := Hd Q50
 obtain ⟨y0, y1, y2, y3, y4⟩ := ha0.below hb0 ha0.lt
 obtain ⟨z0, z1, z2, z3, z4⟩ := ha1.below hb0 ha1.lt
 clear hSA hSC hr ha0 ht0 ha1 ht1 hA hC HD hl cz1 cz2 cz3 cz4
 go_enter Tryz.func36, Tryz.ntmps36
 go_upto_region 38 with (fail)
 have x4 := hb_at hn0 4 rfl
 generalize w.alloc (.cells #[.int .i64 30, .string p, .string n, .int .i64 N, .slice (some ⟨gg, oo, none⟩) 2 c] 24) = wb at *
 clear hn0
 refine wp_region_held_drew (S := (fun w' => RowKit.Hid (Below wb.heap.size wb w') ∧ w'.cell? ⟨w.heap.size, 4, none⟩ = some (.slice (some ⟨gg, oo, none⟩) 2 c) ∧ w'.cell? ⟨gg, oo, none⟩ = some (.int .i64 kk0) ∧ w'.cell? ⟨gg, oo + 1, none⟩ = some (.string pp0) ∧ w'.cell? ⟨gg, oo + 2, none⟩ = some (.string nn0) ∧ w'.cell? ⟨gg, oo + 3, none⟩ = some (.int .i64 NN0) ∧ w'.cell? ⟨gg, oo + 4, none⟩ = some (.slice q0 l0 c0) ∧ w'.cell? ⟨gg, oo + 5, none⟩ = some (.int .i64 kk1) ∧ w'.cell? ⟨gg, oo + 5 + 1, none⟩ = some (.string pp1) ∧ w'.cell? ⟨gg, oo + 5 + 2, none⟩ = some (.string nn1) ∧ w'.cell? ⟨gg, oo + 5 + 3, none⟩ = some (.int .i64 NN1) ∧ w'.cell? ⟨gg, oo + 5 + 4, none⟩ = some (.slice q1 l1 c1))) Q70 Q36 (fun hHeld => ?_)
 refine tk 0 199 ?_
 refine tk 1 200 ?_
 refine tk 2 201 ?_
 refine tk 3 202 ?_
 refine tk 7 206 ?_
 refine tk 8 207 ?_
 refine tk 9 208 ?_
 refine tk 10 209 ?_
 refine wpAnyH_ready (rs := [4]) Q70 (by simp) ?_
 refine AllReadyH.cons (o := ⟨some 203, _, _, _, _, _⟩) rfl (fun K hK => ?_) AllReadyH.nil
 go_simp
 refine (h0.out _ (hb0.trans (hHeld.1.out.mono hz0))).mono ?_; rintro e w1 ⟨rfl, hb⟩
 go_wp2_with fail
 refine hK.out _ _ Q1 (fun hNew => ?_)
 clear hK K
 clear hHeld hb; have hHeld := hNew; clear hNew
 try simp only [Act.put, List.setIfInBounds_toArray, List.set_cons_zero, List.set_cons_succ]
 refine tk 5 204 ?_ (hy := by (intro w hSw; (try dsimp only at hSw); go_simp; first | done | (rw [if_neg Q47]) | with_reducible rfl))
 refine tk 6 205 ?_ (hy := by (intro w hSw; (try dsimp only at hSw); go_simp; first | done | (rw [if_neg Q47]) | with_reducible rfl))
 refine wpAnyH_ready (rs := [11]) Q70 (by simp) ?_
 refine AllReadyH.cons (o := ⟨some 210, _, _, _, _, _⟩) rfl (fun K hK => ?_) AllReadyH.nil
 go_simp
 refine (h1.out _ (hb0.trans (hHeld.1.out.mono hz0))).mono ?_; rintro e w2 ⟨rfl, hb⟩
 go_wp2_with fail
 refine hK.out _ _ Q1 (fun hNew => ?_)
 clear hK K
 clear hHeld hb; have hHeld := hNew; clear hNew
 try simp only [Act.put, List.setIfInBounds_toArray, List.set_cons_zero, List.set_cons_succ]
 refine tk 12 211 ?_ (hy := by (intro w hSw; (try dsimp only at hSw); go_simp; first | done | (rw [if_neg Q47]) | with_reducible rfl))
 refine tk 13 212 ?_ (hy := by (intro w hSw; (try dsimp only at hSw); go_simp; first | done | (rw [if_neg Q47]) | with_reducible rfl))
 refine tk 14 2 ?_
 refine wpAnyH_done Q70 ?_ _
 go_wp2
 go_ret
 exact ⟨congrArg (fun s => Ending.returned (.string s)) HE.out, hb0.trans (hHeld.1.out.mono hz0)⟩
theorem expr_28n (d : Nat) (HD : DocC 36 exprB d) (p n : ByteArray) (N : Int) (hN : ¬ N = 1) (q : Option Addr) (c : Nat) (A C : Tm) (w : World) (hk : KidsT w d (.slice q 2 c) [A, C]) (hA : exprB d A = true ∧ Gd d A ∧ tby d A ≤ 12000) (hC : exprB d C = true ∧ Gd d C ∧ tby d C ≤ 12000) (hn : n.size ≤ 100000)
 (hl : (txt d A).length + (txt d C).length ≤ 1000000) :
 Calls Tryz.prog 36 #[tv 28 p n N (.slice q 2 c)] w fun e w' => e = .returned (.string (ofL ([108, 101, 116, 32] ++ (n.data.toList ++ ([32, 61, 32] ++ (txt d A ++ ([32, 105, 110, 32] ++ txt d C))))))) ∧ Below w.heap.size w w' := by
 obtain ⟨_, _, e, _, hr⟩ := hk
 cases e
 obtain ⟨gg, oo, kk0, pp0, nn0, NN0, a4, eq0, ha0, ht0⟩ := hr 0 A rfl
 subst eq0
 obtain ⟨gg1, oo1, kk1, pp1, nn1, NN1, c4, eq1, ha1, ht1⟩ := hr 1 C rfl
 cases eq1
 obtain ⟨q0, l0, c0, rfl⟩ := ht0.spell
 obtain ⟨q1, l1, c1, rfl⟩ := ht1.spell
 simp only [Nat.zero_mul, Nat.one_mul, Nat.add_zero] at ha0 ha1
 have hb0 := below_alloc w (.cells #[.int .i64 28, .string p, .string n, .int .i64 N, .slice (some ⟨gg, oo, none⟩) 2 c] 24)
 have hn0 := hb_new w (.cells #[.int .i64 28, .string p, .string n, .int .i64 N, .slice (some ⟨gg, oo, none⟩) 2 c] 24)
 have hz0 : w.heap.size ≤ (w.alloc (.cells #[.int .i64 28, .string p, .string n, .int .i64 N, .slice (some ⟨gg, oo, none⟩) 2 c] 24)).heap.size := by simp
 obtain ⟨SA, hSA⟩ : ∃ SA, SA = ofL (txt d A) := ⟨_, rfl⟩
 obtain ⟨SC, hSC⟩ : ∃ SC, SC = ofL (txt d C) := ⟨_, rfl⟩
 have h0 : RowKit.Hid (∀ W, Below w.heap.size w W → Calls Tryz.prog 36 #[tv kk0 pp0 nn0 NN0 (.slice q0 l0 c0)] W fun e w' => e = .returned (.string SA) ∧ Below W.heap.size W w') := Hd fun W hW => by rw [hSA]; exact HD _ A W (ht0.below hW) hA.1 hA.2.1 hA.2.2
 have h1 : RowKit.Hid (∀ W, Below w.heap.size w W → Calls Tryz.prog 36 #[tv kk1 pp1 nn1 NN1 (.slice q1 l1 c1)] W fun e w' => e = .returned (.string SC) ∧ Below W.heap.size W w') := Hd fun W hW => by rw [hSC]; exact HD _ C W (ht1.below hW) hC.1 hC.2.1 hC.2.2
 have cz1 : (⟨#[108, 101, 116, 32]⟩ : ByteArray).size = 4 := rfl
 have cz2 : (⟨#[114, 101, 99, 32]⟩ : ByteArray).size = 4 := rfl
 have cz3 : SA.size = (txt d A).length := by rw [hSA, ofL_size]
 have cz4 : SC.size = (txt d C).length := by rw [hSC, ofL_size]
 have cz5 : (⟨#[32, 61, 32]⟩ : ByteArray).size = 3 := rfl
 have cz6 : (⟨#[32, 105, 110, 32]⟩ : ByteArray).size = 4 := rfl
 have hS1 : (⟨#[108, 101, 116, 32]⟩ : ByteArray).size + n.size ≤ 1000000000 := by omega
 have hS2 : ((⟨#[108, 101, 116, 32]⟩ : ByteArray) ++ n).size + 3 ≤ 1000000000 := by rw [ByteArray.size_append]; omega
 have hS3 : (((⟨#[108, 101, 116, 32]⟩ : ByteArray) ++ n) ++ (⟨#[32, 61, 32]⟩ : ByteArray)).size + SA.size ≤ 1000000000 := by rw [ByteArray.size_append, ByteArray.size_append]; omega
 have hS4 : ((((⟨#[108, 101, 116, 32]⟩ : ByteArray) ++ n) ++ (⟨#[32, 61, 32]⟩ : ByteArray)) ++ SA).size + 4 ≤ 1000000000 := by rw [ByteArray.size_append, ByteArray.size_append, ByteArray.size_append]; omega
 have hS5 : (((((⟨#[108, 101, 116, 32]⟩ : ByteArray) ++ n) ++ (⟨#[32, 61, 32]⟩ : ByteArray)) ++ SA) ++ (⟨#[32, 105, 110, 32]⟩ : ByteArray)).size + SC.size ≤ 1000000000 := by rw [ByteArray.size_append, ByteArray.size_append, ByteArray.size_append, ByteArray.size_append]; omega
 have HE : RowKit.Hid ((((((⟨#[108, 101, 116, 32]⟩ : ByteArray) ++ n) ++ (⟨#[32, 61, 32]⟩ : ByteArray)) ++ SA) ++ (⟨#[32, 105, 110, 32]⟩ : ByteArray)) ++ SC = ofL ([108, 101, 116, 32] ++ (n.data.toList ++ ([32, 61, 32] ++ (txt d A ++ ([32, 105, 110, 32] ++ txt d C)))))) := Hd Q50
 obtain ⟨y0, y1, y2, y3, y4⟩ := ha0.below hb0 ha0.lt
 obtain ⟨z0, z1, z2, z3, z4⟩ := ha1.below hb0 ha1.lt
 have x2 := hb_at hn0 2 rfl
 have x3 := hb_at hn0 3 rfl
 have x4 := hb_at hn0 4 rfl
 clear hSA hSC hr ha0 ht0 ha1 ht1 hA hC HD hl cz1 cz2 cz3 cz4 cz5 cz6 hn0
 go_enter Tryz.func36, Tryz.ntmps36
 go_upto_region 28 with (fail)
 generalize w.alloc (.cells #[.int .i64 28, .string p, .string n, .int .i64 N, .slice (some ⟨gg, oo, none⟩) 2 c] 24) = wb at *
 refine wp_region_held_drew (S := (fun w' => RowKit.Hid (Below wb.heap.size wb w') ∧ w'.cell? ⟨w.heap.size, 4, none⟩ = some (.slice (some ⟨gg, oo, none⟩) 2 c) ∧ w'.cell? ⟨gg, oo, none⟩ = some (.int .i64 kk0) ∧ w'.cell? ⟨gg, oo + 1, none⟩ = some (.string pp0) ∧ w'.cell? ⟨gg, oo + 2, none⟩ = some (.string nn0) ∧ w'.cell? ⟨gg, oo + 3, none⟩ = some (.int .i64 NN0) ∧ w'.cell? ⟨gg, oo + 4, none⟩ = some (.slice q0 l0 c0) ∧ w'.cell? ⟨gg, oo + 5, none⟩ = some (.int .i64 kk1) ∧ w'.cell? ⟨gg, oo + 5 + 1, none⟩ = some (.string pp1) ∧ w'.cell? ⟨gg, oo + 5 + 2, none⟩ = some (.string nn1) ∧ w'.cell? ⟨gg, oo + 5 + 3, none⟩ = some (.int .i64 NN1) ∧ w'.cell? ⟨gg, oo + 5 + 4, none⟩ = some (.slice q1 l1 c1))) Q70 Q36 (fun hHeld => ?_)
 refine tk 0 145 ?_
 refine tk 1 146 ?_ (hy := by (intro w hSw; (try dsimp only at hSw); go_simp; first | done | (rw [if_neg Q47]) | with_reducible rfl))
 refine tk 2 147 ?_
 refine tk 3 148 ?_
 refine tk 4 149 ?_
 refine tk 5 150 ?_
 refine tk 9 154 ?_
 refine tk 10 155 ?_
 refine tk 11 156 ?_
 refine tk 12 157 ?_
 refine wpAnyH_ready (rs := [6]) Q70 (by simp) ?_
 refine AllReadyH.cons (o := ⟨some 151, _, _, _, _, _⟩) rfl (fun K hK => ?_) AllReadyH.nil
 go_simp
 refine (h0.out _ (hb0.trans (hHeld.1.out.mono hz0))).mono ?_; rintro e w1 ⟨rfl, hb⟩
 go_wp2_with fail
 refine hK.out _ _ Q1 (fun hNew => ?_)
 clear hK K
 clear hHeld hb; have hHeld := hNew; clear hNew
 try simp only [Act.put, List.setIfInBounds_toArray, List.set_cons_zero, List.set_cons_succ]
 refine tk 7 152 ?_ (hy := by (intro w hSw; (try dsimp only at hSw); go_simp; first | done | (rw [if_neg Q47]) | with_reducible rfl))
 refine tk 8 153 ?_ (hy := by (intro w hSw; (try dsimp only at hSw); go_simp; first | done | (rw [if_neg Q47]) | with_reducible rfl))
 refine wpAnyH_ready (rs := [13]) Q70 (by simp) ?_
 refine AllReadyH.cons (o := ⟨some 158, _, _, _, _, _⟩) rfl (fun K hK => ?_) AllReadyH.nil
 go_simp
 refine (h1.out _ (hb0.trans (hHeld.1.out.mono hz0))).mono ?_; rintro e w2 ⟨rfl, hb⟩
 go_wp2_with fail
 refine hK.out _ _ Q1 (fun hNew => ?_)
 clear hK K
 clear hHeld hb; have hHeld := hNew; clear hNew
 try simp only [Act.put, List.setIfInBounds_toArray, List.set_cons_zero, List.set_cons_succ]
 refine tk 14 159 ?_ (hy := by (intro w hSw; (try dsimp only at hSw); go_simp; first | done | (rw [if_neg Q47]) | with_reducible rfl))
 refine tk 15 2 ?_
 refine wpAnyH_done Q70 ?_ _
 go_wp2
 go_ret
 exact ⟨congrArg (fun s => Ending.returned (.string s)) HE.out, hb0.trans (hHeld.1.out.mono hz0)⟩
theorem expr_28r (d : Nat) (HD : DocC 36 exprB d) (p n : ByteArray) (q : Option Addr) (c : Nat) (A C : Tm) (w : World) (hk : KidsT w d (.slice q 2 c) [A, C]) (hA : exprB d A = true ∧ Gd d A ∧ tby d A ≤ 12000) (hC : exprB d C = true ∧ Gd d C ∧ tby d C ≤ 12000) (hn : n.size ≤ 100000)
 (hl : (txt d A).length + (txt d C).length ≤ 1000000) :
 Calls Tryz.prog 36 #[tv 28 p n 1 (.slice q 2 c)] w fun e w' => e = .returned (.string (ofL ([108, 101, 116, 32] ++ ([114, 101, 99, 32] ++ (n.data.toList ++ ([32, 61, 32] ++ (txt d A ++ ([32, 105, 110, 32] ++ txt d C)))))))) ∧ Below w.heap.size w w' := by
 obtain ⟨_, _, e, _, hr⟩ := hk
 cases e
 obtain ⟨gg, oo, kk0, pp0, nn0, NN0, a4, eq0, ha0, ht0⟩ := hr 0 A rfl
 subst eq0
 obtain ⟨gg1, oo1, kk1, pp1, nn1, NN1, c4, eq1, ha1, ht1⟩ := hr 1 C rfl
 cases eq1
 obtain ⟨q0, l0, c0, rfl⟩ := ht0.spell
 obtain ⟨q1, l1, c1, rfl⟩ := ht1.spell
 simp only [Nat.zero_mul, Nat.one_mul, Nat.add_zero] at ha0 ha1
 have hb0 := below_alloc w (.cells #[.int .i64 28, .string p, .string n, .int .i64 1, .slice (some ⟨gg, oo, none⟩) 2 c] 24)
 have hn0 := hb_new w (.cells #[.int .i64 28, .string p, .string n, .int .i64 1, .slice (some ⟨gg, oo, none⟩) 2 c] 24)
 have hz0 : w.heap.size ≤ (w.alloc (.cells #[.int .i64 28, .string p, .string n, .int .i64 1, .slice (some ⟨gg, oo, none⟩) 2 c] 24)).heap.size := by simp
 obtain ⟨SA, hSA⟩ : ∃ SA, SA = ofL (txt d A) := ⟨_, rfl⟩
 obtain ⟨SC, hSC⟩ : ∃ SC, SC = ofL (txt d C) := ⟨_, rfl⟩
 have h0 : RowKit.Hid (∀ W, Below w.heap.size w W → Calls Tryz.prog 36 #[tv kk0 pp0 nn0 NN0 (.slice q0 l0 c0)] W fun e w' => e = .returned (.string SA) ∧ Below W.heap.size W w') := Hd fun W hW => by rw [hSA]; exact HD _ A W (ht0.below hW) hA.1 hA.2.1 hA.2.2
 have h1 : RowKit.Hid (∀ W, Below w.heap.size w W → Calls Tryz.prog 36 #[tv kk1 pp1 nn1 NN1 (.slice q1 l1 c1)] W fun e w' => e = .returned (.string SC) ∧ Below W.heap.size W w') := Hd fun W hW => by rw [hSC]; exact HD _ C W (ht1.below hW) hC.1 hC.2.1 hC.2.2
 have cz1 : (⟨#[108, 101, 116, 32]⟩ : ByteArray).size = 4 := rfl
 have cz2 : (⟨#[114, 101, 99, 32]⟩ : ByteArray).size = 4 := rfl
 have cz3 : SA.size = (txt d A).length := by rw [hSA, ofL_size]
 have cz4 : SC.size = (txt d C).length := by rw [hSC, ofL_size]
 have cz5 : (⟨#[32, 61, 32]⟩ : ByteArray).size = 3 := rfl
 have cz6 : (⟨#[32, 105, 110, 32]⟩ : ByteArray).size = 4 := rfl
 have hS0 : (⟨#[108, 101, 116, 32]⟩ : ByteArray).size + 4 ≤ 1000000000 := by omega
 have hS1 : ((⟨#[108, 101, 116, 32]⟩ : ByteArray) ++ (⟨#[114, 101, 99, 32]⟩ : ByteArray)).size + n.size ≤ 1000000000 := by rw [ByteArray.size_append]; omega
 have hS2 : (((⟨#[108, 101, 116, 32]⟩ : ByteArray) ++ (⟨#[114, 101, 99, 32]⟩ : ByteArray)) ++ n).size + 3 ≤ 1000000000 := by rw [ByteArray.size_append, ByteArray.size_append]; omega
 have hS3 : ((((⟨#[108, 101, 116, 32]⟩ : ByteArray) ++ (⟨#[114, 101, 99, 32]⟩ : ByteArray)) ++ n) ++ (⟨#[32, 61, 32]⟩ : ByteArray)).size + SA.size ≤ 1000000000 := by rw [ByteArray.size_append, ByteArray.size_append, ByteArray.size_append]; omega
 have hS4 : (((((⟨#[108, 101, 116, 32]⟩ : ByteArray) ++ (⟨#[114, 101, 99, 32]⟩ : ByteArray)) ++ n) ++ (⟨#[32, 61, 32]⟩ : ByteArray)) ++ SA).size + 4 ≤ 1000000000 := by rw [ByteArray.size_append, ByteArray.size_append, ByteArray.size_append, ByteArray.size_append]; omega
 have hS5 : ((((((⟨#[108, 101, 116, 32]⟩ : ByteArray) ++ (⟨#[114, 101, 99, 32]⟩ : ByteArray)) ++ n) ++ (⟨#[32, 61, 32]⟩ : ByteArray)) ++ SA) ++ (⟨#[32, 105, 110, 32]⟩ : ByteArray)).size + SC.size ≤ 1000000000 := by rw [ByteArray.size_append, ByteArray.size_append, ByteArray.size_append, ByteArray.size_append, ByteArray.size_append]; omega
 have HE : RowKit.Hid (((((((⟨#[108, 101, 116, 32]⟩ : ByteArray) ++ (⟨#[114, 101, 99, 32]⟩ : ByteArray)) ++ n) ++ (⟨#[32, 61, 32]⟩ : ByteArray)) ++ SA) ++ (⟨#[32, 105, 110, 32]⟩ : ByteArray)) ++ SC = ofL ([108, 101, 116, 32] ++ ([114, 101, 99, 32] ++ (n.data.toList ++ ([32, 61, 32] ++ (txt d A ++ ([32, 105, 110, 32] ++ txt d C))))))) := Hd Q50
 obtain ⟨y0, y1, y2, y3, y4⟩ := ha0.below hb0 ha0.lt
 obtain ⟨z0, z1, z2, z3, z4⟩ := ha1.below hb0 ha1.lt
 have x2 := hb_at hn0 2 rfl
 have x3 := hb_at hn0 3 rfl
 have x4 := hb_at hn0 4 rfl
 clear hSA hSC hr ha0 ht0 ha1 ht1 hA hC HD hl cz1 cz2 cz3 cz4 cz5 cz6 hn0
 go_enter Tryz.func36, Tryz.ntmps36
 go_upto_region 28 with (fail)
 generalize w.alloc (.cells #[.int .i64 28, .string p, .string n, .int .i64 1, .slice (some ⟨gg, oo, none⟩) 2 c] 24) = wb at *
 refine wp_region_held_drew (S := (fun w' => RowKit.Hid (Below wb.heap.size wb w') ∧ w'.cell? ⟨w.heap.size, 4, none⟩ = some (.slice (some ⟨gg, oo, none⟩) 2 c) ∧ w'.cell? ⟨gg, oo, none⟩ = some (.int .i64 kk0) ∧ w'.cell? ⟨gg, oo + 1, none⟩ = some (.string pp0) ∧ w'.cell? ⟨gg, oo + 2, none⟩ = some (.string nn0) ∧ w'.cell? ⟨gg, oo + 3, none⟩ = some (.int .i64 NN0) ∧ w'.cell? ⟨gg, oo + 4, none⟩ = some (.slice q0 l0 c0) ∧ w'.cell? ⟨gg, oo + 5, none⟩ = some (.int .i64 kk1) ∧ w'.cell? ⟨gg, oo + 5 + 1, none⟩ = some (.string pp1) ∧ w'.cell? ⟨gg, oo + 5 + 2, none⟩ = some (.string nn1) ∧ w'.cell? ⟨gg, oo + 5 + 3, none⟩ = some (.int .i64 NN1) ∧ w'.cell? ⟨gg, oo + 5 + 4, none⟩ = some (.slice q1 l1 c1))) Q70 Q36 (fun hHeld => ?_)
 refine tk 0 145 ?_
 refine tk 1 146 ?_ (hy := by (intro w hSw; (try dsimp only at hSw); go_simp; first | done | (rw [if_neg Q47]) | with_reducible rfl))
 refine tk 2 147 ?_
 refine tk 3 148 ?_
 refine tk 4 149 ?_
 refine tk 5 150 ?_
 refine tk 9 154 ?_
 refine tk 10 155 ?_
 refine tk 11 156 ?_
 refine tk 12 157 ?_
 refine wpAnyH_ready (rs := [6]) Q70 (by simp) ?_
 refine AllReadyH.cons (o := ⟨some 151, _, _, _, _, _⟩) rfl (fun K hK => ?_) AllReadyH.nil
 go_simp
 refine (h0.out _ (hb0.trans (hHeld.1.out.mono hz0))).mono ?_; rintro e w1 ⟨rfl, hb⟩
 go_wp2_with fail
 refine hK.out _ _ Q1 (fun hNew => ?_)
 clear hK K
 clear hHeld hb; have hHeld := hNew; clear hNew
 try simp only [Act.put, List.setIfInBounds_toArray, List.set_cons_zero, List.set_cons_succ]
 refine tk 7 152 ?_ (hy := by (intro w hSw; (try dsimp only at hSw); go_simp; first | done | (rw [if_neg Q47]) | with_reducible rfl))
 refine tk 8 153 ?_ (hy := by (intro w hSw; (try dsimp only at hSw); go_simp; first | done | (rw [if_neg Q47]) | with_reducible rfl))
 refine wpAnyH_ready (rs := [13]) Q70 (by simp) ?_
 refine AllReadyH.cons (o := ⟨some 158, _, _, _, _, _⟩) rfl (fun K hK => ?_) AllReadyH.nil
 go_simp
 refine (h1.out _ (hb0.trans (hHeld.1.out.mono hz0))).mono ?_; rintro e w2 ⟨rfl, hb⟩
 go_wp2_with fail
 refine hK.out _ _ Q1 (fun hNew => ?_)
 clear hK K
 clear hHeld hb; have hHeld := hNew; clear hNew
 try simp only [Act.put, List.setIfInBounds_toArray, List.set_cons_zero, List.set_cons_succ]
 refine tk 14 159 ?_ (hy := by (intro w hSw; (try dsimp only at hSw); go_simp; first | done | (rw [if_neg Q47]) | with_reducible rfl))
 refine tk 15 2 ?_
 refine wpAnyH_done Q70 ?_ _
 go_wp2
 go_ret
 exact ⟨congrArg (fun s => Ending.returned (.string s)) HE.out, hb0.trans (hHeld.1.out.mono hz0)⟩
theorem expr_28n3 (d : Nat) (HD : DocC 36 exprB d) (p n : ByteArray) (N : Int) (hN : ¬ N = 1) (q : Option Addr) (c : Nat) (A C T : Tm) (w : World) (hk : KidsT w d (.slice q 3 c) [A, C, T]) (hA : exprB d A = true ∧ Gd d A ∧ tby d A ≤ 12000) (hC : exprB d C = true ∧ Gd d C ∧ tby d C ≤ 12000) (hT : typeB d T = true ∧ Gd d T ∧ tby d T ≤ 12000) (hn : n.size ≤ 100000)
 (hl : (txt d A).length + (txt d C).length + (txt d T).length ≤ 1000000) :
 Calls Tryz.prog 36 #[tv 28 p n N (.slice q 3 c)] w fun e w' => e = .returned (.string (ofL ([108, 101, 116, 32] ++ (n.data.toList ++ (([32, 58, 32] ++ txt d T) ++ ([32, 61, 32] ++ (txt d A ++ ([32, 105, 110, 32] ++ txt d C)))))))) ∧ Below w.heap.size w w' := by
 obtain ⟨_, _, e, _, hr⟩ := hk
 cases e
 obtain ⟨gg, oo, kk0, pp0, nn0, NN0, a4, eq0, ha0, ht0⟩ := hr 0 A rfl
 subst eq0
 obtain ⟨gg1, oo1, kk1, pp1, nn1, NN1, c4, eq1, ha1, ht1⟩ := hr 1 C rfl
 cases eq1
 obtain ⟨gg2, oo2, kk2, pp2, nn2, NN2, f4, eq2, ha2, ht2⟩ := hr 2 T rfl
 cases eq2
 obtain ⟨q0, l0, c0, rfl⟩ := ht0.spell
 obtain ⟨q2, l2, c2, rfl⟩ := ht2.spell
 obtain ⟨q1, l1, c1, rfl⟩ := ht1.spell
 simp only [Nat.zero_mul, Nat.one_mul, Nat.add_zero] at ha0 ha1
 simp only [Nat.reduceMul] at ha2
 have hb0 := below_alloc w (.cells #[.int .i64 28, .string p, .string n, .int .i64 N, .slice (some ⟨gg, oo, none⟩) 3 c] 24)
 have hn0 := hb_new w (.cells #[.int .i64 28, .string p, .string n, .int .i64 N, .slice (some ⟨gg, oo, none⟩) 3 c] 24)
 have hz0 : w.heap.size ≤ (w.alloc (.cells #[.int .i64 28, .string p, .string n, .int .i64 N, .slice (some ⟨gg, oo, none⟩) 3 c] 24)).heap.size := by simp
 obtain ⟨SA, hSA⟩ : ∃ SA, SA = ofL (txt d A) := ⟨_, rfl⟩
 obtain ⟨SC, hSC⟩ : ∃ SC, SC = ofL (txt d C) := ⟨_, rfl⟩
 have h0 : RowKit.Hid (∀ W, Below w.heap.size w W → Calls Tryz.prog 36 #[tv kk0 pp0 nn0 NN0 (.slice q0 l0 c0)] W fun e w' => e = .returned (.string SA) ∧ Below W.heap.size W w') := Hd fun W hW => by rw [hSA]; exact HD _ A W (ht0.below hW) hA.1 hA.2.1 hA.2.2
 have h1 : RowKit.Hid (∀ W, Below w.heap.size w W → Calls Tryz.prog 36 #[tv kk1 pp1 nn1 NN1 (.slice q1 l1 c1)] W fun e w' => e = .returned (.string SC) ∧ Below W.heap.size W w') := Hd fun W hW => by rw [hSC]; exact HD _ C W (ht1.below hW) hC.1 hC.2.1 hC.2.2
 obtain ⟨ST, hST⟩ : ∃ ST, ST = ofL (txt d T) := ⟨_, rfl⟩
 have h2 : RowKit.Hid (∀ W, Below w.heap.size w W → Calls Tryz.prog 30 #[tv kk2 pp2 nn2 NN2 (.slice q2 l2 c2)] W fun e w' => e = .returned (.string ST) ∧ Below W.heap.size W w') := Hd fun W hW => by rw [hST]; exact typ_any d _ T W (ht2.below hW) hT.1 hT.2.1 hT.2.2
 have cz7 : ST.size = (txt d T).length := by rw [hST, ofL_size]
 have cz8 : (⟨#[32, 58, 32]⟩ : ByteArray).size = 3 := rfl
 have cz1 : (⟨#[108, 101, 116, 32]⟩ : ByteArray).size = 4 := rfl
 have cz2 : (⟨#[114, 101, 99, 32]⟩ : ByteArray).size = 4 := rfl
 have cz3 : SA.size = (txt d A).length := by rw [hSA, ofL_size]
 have cz4 : SC.size = (txt d C).length := by rw [hSC, ofL_size]
 have cz5 : (⟨#[32, 61, 32]⟩ : ByteArray).size = 3 := rfl
 have cz6 : (⟨#[32, 105, 110, 32]⟩ : ByteArray).size = 4 := rfl
 have hS1 : (⟨#[108, 101, 116, 32]⟩ : ByteArray).size + n.size ≤ 1000000000 := by omega
 have hT1 : ((⟨#[108, 101, 116, 32]⟩ : ByteArray) ++ n).size + 3 ≤ 1000000000 := by rw [ByteArray.size_append]; omega
 have hT2 : (((⟨#[108, 101, 116, 32]⟩ : ByteArray) ++ n) ++ (⟨#[32, 58, 32]⟩ : ByteArray)).size + ST.size ≤ 1000000000 := by rw [ByteArray.size_append, ByteArray.size_append]; omega
 have hS2 : ((((⟨#[108, 101, 116, 32]⟩ : ByteArray) ++ n) ++ (⟨#[32, 58, 32]⟩ : ByteArray)) ++ ST).size + 3 ≤ 1000000000 := by rw [ByteArray.size_append, ByteArray.size_append, ByteArray.size_append]; omega
 have hS3 : (((((⟨#[108, 101, 116, 32]⟩ : ByteArray) ++ n) ++ (⟨#[32, 58, 32]⟩ : ByteArray)) ++ ST) ++ (⟨#[32, 61, 32]⟩ : ByteArray)).size + SA.size ≤ 1000000000 := by rw [ByteArray.size_append, ByteArray.size_append, ByteArray.size_append, ByteArray.size_append]; omega
 have hS4 : ((((((⟨#[108, 101, 116, 32]⟩ : ByteArray) ++ n) ++ (⟨#[32, 58, 32]⟩ : ByteArray)) ++ ST) ++ (⟨#[32, 61, 32]⟩ : ByteArray)) ++ SA).size + 4 ≤ 1000000000 := by rw [ByteArray.size_append, ByteArray.size_append, ByteArray.size_append, ByteArray.size_append, ByteArray.size_append]; omega
 have hS5 : (((((((⟨#[108, 101, 116, 32]⟩ : ByteArray) ++ n) ++ (⟨#[32, 58, 32]⟩ : ByteArray)) ++ ST) ++ (⟨#[32, 61, 32]⟩ : ByteArray)) ++ SA) ++ (⟨#[32, 105, 110, 32]⟩ : ByteArray)).size + SC.size ≤ 1000000000 := by rw [ByteArray.size_append, ByteArray.size_append, ByteArray.size_append, ByteArray.size_append, ByteArray.size_append, ByteArray.size_append]; omega
 have HE : RowKit.Hid ((((((((⟨#[108, 101, 116, 32]⟩ : ByteArray) ++ n) ++ (⟨#[32, 58, 32]⟩ : ByteArray)) ++ ST) ++ (⟨#[32, 61, 32]⟩ : ByteArray)) ++ SA) ++ (⟨#[32, 105, 110, 32]⟩ : ByteArray)) ++ SC = ofL ([108, 101, 116, 32] ++ (n.data.toList ++ (([32, 58, 32] ++ txt d T) ++ ([32, 61, 32] ++ (txt d A ++ ([32, 105, 110, 32] ++ txt d C))))))) := Hd (by rw [hSA, hSC, hST]; apply ByteArray.ext; simp [ofL])
 obtain ⟨u0, u1, u2, u3, u4⟩ := ha2.below hb0 ha2.lt
 have x2 := hb_at hn0 2 rfl
 have x3 := hb_at hn0 3 rfl
 have x4' := hb_at hn0 4 rfl
 have HA0 := Hd ha0
 have HA1 := Hd ha1
 have HN0 := Hd hn0
 have HB0 := Hd hb0
 clear hSA hSC hST hr ha0 ht0 ha1 ht1 ha2 ht2 hA hC hT HD hl cz1 cz2 cz3 cz4 cz5 cz6 cz7 cz8 hn0
 go_enter Tryz.func36, Tryz.ntmps36
 go_upto_region 28 with (go_at_call 30; refine (h2.out _ HB0.out).mono ?_; rintro e wb ⟨rfl, hbT⟩)
 have hbw : Below w.heap.size w wb := HB0.out.trans (hbT.mono hz0)
 have hz1 := hbw.size
 have x4 := hb_at (hb_below HN0.out hbT (by simp)) 4 rfl
 obtain ⟨y0, y1, y2, y3, y4⟩ := HA0.out.below hbw HA0.out.lt
 obtain ⟨z0, z1, z2, z3, z4⟩ := HA1.out.below hbw HA1.out.lt
 clear hb0 hz0 hbT x4' u0 u1 u2 u3 u4 x2 x3
 refine wp_region_held_drew (S := (fun w' => RowKit.Hid (Below wb.heap.size wb w') ∧ w'.cell? ⟨w.heap.size, 4, none⟩ = some (.slice (some ⟨gg, oo, none⟩) 3 c) ∧ w'.cell? ⟨gg, oo, none⟩ = some (.int .i64 kk0) ∧ w'.cell? ⟨gg, oo + 1, none⟩ = some (.string pp0) ∧ w'.cell? ⟨gg, oo + 2, none⟩ = some (.string nn0) ∧ w'.cell? ⟨gg, oo + 3, none⟩ = some (.int .i64 NN0) ∧ w'.cell? ⟨gg, oo + 4, none⟩ = some (.slice q0 l0 c0) ∧ w'.cell? ⟨gg, oo + 5, none⟩ = some (.int .i64 kk1) ∧ w'.cell? ⟨gg, oo + 5 + 1, none⟩ = some (.string pp1) ∧ w'.cell? ⟨gg, oo + 5 + 2, none⟩ = some (.string nn1) ∧ w'.cell? ⟨gg, oo + 5 + 3, none⟩ = some (.int .i64 NN1) ∧ w'.cell? ⟨gg, oo + 5 + 4, none⟩ = some (.slice q1 l1 c1))) Q70 Q36 (fun hHeld => ?_)
 refine tk 0 145 ?_
 refine tk 1 146 ?_ (hy := by (intro w hSw; (try dsimp only at hSw); go_simp; first | done | (rw [if_neg Q47]) | with_reducible rfl))
 refine tk 2 147 ?_
 refine tk 3 148 ?_
 refine tk 4 149 ?_
 refine tk 5 150 ?_
 refine tk 9 154 ?_
 refine tk 10 155 ?_
 refine tk 11 156 ?_
 refine tk 12 157 ?_
 refine wpAnyH_ready (rs := [6]) Q70 (by simp) ?_
 refine AllReadyH.cons (o := ⟨some 151, _, _, _, _, _⟩) rfl (fun K hK => ?_) AllReadyH.nil
 go_simp
 refine (h0.out _ (hbw.trans (hHeld.1.out.mono hz1))).mono ?_; rintro e w1 ⟨rfl, hb⟩
 go_wp2_with fail
 refine hK.out _ _ Q1 (fun hNew => ?_)
 clear hK K
 clear hHeld hb; have hHeld := hNew; clear hNew
 try simp only [Act.put, List.setIfInBounds_toArray, List.set_cons_zero, List.set_cons_succ]
 refine tk 7 152 ?_ (hy := by (intro w hSw; (try dsimp only at hSw); go_simp; first | done | (rw [if_neg Q47]) | with_reducible rfl))
 refine tk 8 153 ?_ (hy := by (intro w hSw; (try dsimp only at hSw); go_simp; first | done | (rw [if_neg Q47]) | with_reducible rfl))
 refine wpAnyH_ready (rs := [13]) Q70 (by simp) ?_
 refine AllReadyH.cons (o := ⟨some 158, _, _, _, _, _⟩) rfl (fun K hK => ?_) AllReadyH.nil
 go_simp
 refine (h1.out _ (hbw.trans (hHeld.1.out.mono hz1))).mono ?_; rintro e w2 ⟨rfl, hb⟩
 go_wp2_with fail
 refine hK.out _ _ Q1 (fun hNew => ?_)
 clear hK K
 clear hHeld hb; have hHeld := hNew; clear hNew
 try simp only [Act.put, List.setIfInBounds_toArray, List.set_cons_zero, List.set_cons_succ]
 refine tk 14 159 ?_ (hy := by (intro w hSw; (try dsimp only at hSw); go_simp; first | done | (rw [if_neg Q47]) | with_reducible rfl))
 refine tk 15 2 ?_
 refine wpAnyH_done Q70 ?_ _
 go_wp2
 go_ret
 exact ⟨congrArg (fun s => Ending.returned (.string s)) HE.out, hbw.trans (hHeld.1.out.mono hz1)⟩
theorem expr_28r3 (d : Nat) (HD : DocC 36 exprB d) (p n : ByteArray) (q : Option Addr) (c : Nat) (A C T : Tm) (w : World) (hk : KidsT w d (.slice q 3 c) [A, C, T]) (hA : exprB d A = true ∧ Gd d A ∧ tby d A ≤ 12000) (hC : exprB d C = true ∧ Gd d C ∧ tby d C ≤ 12000) (hT : typeB d T = true ∧ Gd d T ∧ tby d T ≤ 12000) (hn : n.size ≤ 100000)
 (hl : (txt d A).length + (txt d C).length + (txt d T).length ≤ 1000000) :
 Calls Tryz.prog 36 #[tv 28 p n 1 (.slice q 3 c)] w fun e w' => e = .returned (.string (ofL ([108, 101, 116, 32] ++ ([114, 101, 99, 32] ++ (n.data.toList ++ (([32, 58, 32] ++ txt d T) ++ ([32, 61, 32] ++ (txt d A ++ ([32, 105, 110, 32] ++ txt d C))))))))) ∧ Below w.heap.size w w' := by
 obtain ⟨_, _, e, _, hr⟩ := hk
 cases e
 obtain ⟨gg, oo, kk0, pp0, nn0, NN0, a4, eq0, ha0, ht0⟩ := hr 0 A rfl
 subst eq0
 obtain ⟨gg1, oo1, kk1, pp1, nn1, NN1, c4, eq1, ha1, ht1⟩ := hr 1 C rfl
 cases eq1
 obtain ⟨gg2, oo2, kk2, pp2, nn2, NN2, f4, eq2, ha2, ht2⟩ := hr 2 T rfl
 cases eq2
 obtain ⟨q0, l0, c0, rfl⟩ := ht0.spell
 obtain ⟨q2, l2, c2, rfl⟩ := ht2.spell
 obtain ⟨q1, l1, c1, rfl⟩ := ht1.spell
 simp only [Nat.zero_mul, Nat.one_mul, Nat.add_zero] at ha0 ha1
 simp only [Nat.reduceMul] at ha2
 have hb0 := below_alloc w (.cells #[.int .i64 28, .string p, .string n, .int .i64 1, .slice (some ⟨gg, oo, none⟩) 3 c] 24)
 have hn0 := hb_new w (.cells #[.int .i64 28, .string p, .string n, .int .i64 1, .slice (some ⟨gg, oo, none⟩) 3 c] 24)
 have hz0 : w.heap.size ≤ (w.alloc (.cells #[.int .i64 28, .string p, .string n, .int .i64 1, .slice (some ⟨gg, oo, none⟩) 3 c] 24)).heap.size := by simp
 obtain ⟨SA, hSA⟩ : ∃ SA, SA = ofL (txt d A) := ⟨_, rfl⟩
 obtain ⟨SC, hSC⟩ : ∃ SC, SC = ofL (txt d C) := ⟨_, rfl⟩
 have h0 : RowKit.Hid (∀ W, Below w.heap.size w W → Calls Tryz.prog 36 #[tv kk0 pp0 nn0 NN0 (.slice q0 l0 c0)] W fun e w' => e = .returned (.string SA) ∧ Below W.heap.size W w') := Hd fun W hW => by rw [hSA]; exact HD _ A W (ht0.below hW) hA.1 hA.2.1 hA.2.2
 have h1 : RowKit.Hid (∀ W, Below w.heap.size w W → Calls Tryz.prog 36 #[tv kk1 pp1 nn1 NN1 (.slice q1 l1 c1)] W fun e w' => e = .returned (.string SC) ∧ Below W.heap.size W w') := Hd fun W hW => by rw [hSC]; exact HD _ C W (ht1.below hW) hC.1 hC.2.1 hC.2.2
 obtain ⟨ST, hST⟩ : ∃ ST, ST = ofL (txt d T) := ⟨_, rfl⟩
 have h2 : RowKit.Hid (∀ W, Below w.heap.size w W → Calls Tryz.prog 30 #[tv kk2 pp2 nn2 NN2 (.slice q2 l2 c2)] W fun e w' => e = .returned (.string ST) ∧ Below W.heap.size W w') := Hd fun W hW => by rw [hST]; exact typ_any d _ T W (ht2.below hW) hT.1 hT.2.1 hT.2.2
 have cz7 : ST.size = (txt d T).length := by rw [hST, ofL_size]
 have cz8 : (⟨#[32, 58, 32]⟩ : ByteArray).size = 3 := rfl
 have cz1 : (⟨#[108, 101, 116, 32]⟩ : ByteArray).size = 4 := rfl
 have cz2 : (⟨#[114, 101, 99, 32]⟩ : ByteArray).size = 4 := rfl
 have cz3 : SA.size = (txt d A).length := by rw [hSA, ofL_size]
 have cz4 : SC.size = (txt d C).length := by rw [hSC, ofL_size]
 have cz5 : (⟨#[32, 61, 32]⟩ : ByteArray).size = 3 := rfl
 have cz6 : (⟨#[32, 105, 110, 32]⟩ : ByteArray).size = 4 := rfl
 have hS0 : (⟨#[108, 101, 116, 32]⟩ : ByteArray).size + 4 ≤ 1000000000 := by omega
 have hS1 : ((⟨#[108, 101, 116, 32]⟩ : ByteArray) ++ (⟨#[114, 101, 99, 32]⟩ : ByteArray)).size + n.size ≤ 1000000000 := by rw [ByteArray.size_append]; omega
 have hT1 : (((⟨#[108, 101, 116, 32]⟩ : ByteArray) ++ (⟨#[114, 101, 99, 32]⟩ : ByteArray)) ++ n).size + 3 ≤ 1000000000 := by rw [ByteArray.size_append, ByteArray.size_append]; omega
 have hT2 : ((((⟨#[108, 101, 116, 32]⟩ : ByteArray) ++ (⟨#[114, 101, 99, 32]⟩ : ByteArray)) ++ n) ++ (⟨#[32, 58, 32]⟩ : ByteArray)).size + ST.size ≤ 1000000000 := by rw [ByteArray.size_append, ByteArray.size_append, ByteArray.size_append]; omega
 have hS2 : (((((⟨#[108, 101, 116, 32]⟩ : ByteArray) ++ (⟨#[114, 101, 99, 32]⟩ : ByteArray)) ++ n) ++ (⟨#[32, 58, 32]⟩ : ByteArray)) ++ ST).size + 3 ≤ 1000000000 := by rw [ByteArray.size_append, ByteArray.size_append, ByteArray.size_append, ByteArray.size_append]; omega
 have hS3 : ((((((⟨#[108, 101, 116, 32]⟩ : ByteArray) ++ (⟨#[114, 101, 99, 32]⟩ : ByteArray)) ++ n) ++ (⟨#[32, 58, 32]⟩ : ByteArray)) ++ ST) ++ (⟨#[32, 61, 32]⟩ : ByteArray)).size + SA.size ≤ 1000000000 := by rw [ByteArray.size_append, ByteArray.size_append, ByteArray.size_append, ByteArray.size_append, ByteArray.size_append]; omega
 have hS4 : (((((((⟨#[108, 101, 116, 32]⟩ : ByteArray) ++ (⟨#[114, 101, 99, 32]⟩ : ByteArray)) ++ n) ++ (⟨#[32, 58, 32]⟩ : ByteArray)) ++ ST) ++ (⟨#[32, 61, 32]⟩ : ByteArray)) ++ SA).size + 4 ≤ 1000000000 := by rw [ByteArray.size_append, ByteArray.size_append, ByteArray.size_append, ByteArray.size_append, ByteArray.size_append, ByteArray.size_append]; omega
 have hS5 : ((((((((⟨#[108, 101, 116, 32]⟩ : ByteArray) ++ (⟨#[114, 101, 99, 32]⟩ : ByteArray)) ++ n) ++ (⟨#[32, 58, 32]⟩ : ByteArray)) ++ ST) ++ (⟨#[32, 61, 32]⟩ : ByteArray)) ++ SA) ++ (⟨#[32, 105, 110, 32]⟩ : ByteArray)).size + SC.size ≤ 1000000000 := by rw [ByteArray.size_append, ByteArray.size_append, ByteArray.size_append, ByteArray.size_append, ByteArray.size_append, ByteArray.size_append, ByteArray.size_append]; omega
 have HE : RowKit.Hid (((((((((⟨#[108, 101, 116, 32]⟩ : ByteArray) ++ (⟨#[114, 101, 99, 32]⟩ : ByteArray)) ++ n) ++ (⟨#[32, 58, 32]⟩ : ByteArray)) ++ ST) ++ (⟨#[32, 61, 32]⟩ : ByteArray)) ++ SA) ++ (⟨#[32, 105, 110, 32]⟩ : ByteArray)) ++ SC = ofL ([108, 101, 116, 32] ++ ([114, 101, 99, 32] ++ (n.data.toList ++ (([32, 58, 32] ++ txt d T) ++ ([32, 61, 32] ++ (txt d A ++ ([32, 105, 110, 32] ++ txt d C)))))))) := Hd (by rw [hSA, hSC, hST]; apply ByteArray.ext; simp [ofL])
 obtain ⟨u0, u1, u2, u3, u4⟩ := ha2.below hb0 ha2.lt
 have x2 := hb_at hn0 2 rfl
 have x3 := hb_at hn0 3 rfl
 have x4' := hb_at hn0 4 rfl
 have HA0 := Hd ha0
 have HA1 := Hd ha1
 have HN0 := Hd hn0
 have HB0 := Hd hb0
 clear hSA hSC hST hr ha0 ht0 ha1 ht1 ha2 ht2 hA hC hT HD hl cz1 cz2 cz3 cz4 cz5 cz6 cz7 cz8 hn0
 go_enter Tryz.func36, Tryz.ntmps36
 go_upto_region 28 with (go_at_call 30; refine (h2.out _ HB0.out).mono ?_; rintro e wb ⟨rfl, hbT⟩)
 have hbw : Below w.heap.size w wb := HB0.out.trans (hbT.mono hz0)
 have hz1 := hbw.size
 have x4 := hb_at (hb_below HN0.out hbT (by simp)) 4 rfl
 obtain ⟨y0, y1, y2, y3, y4⟩ := HA0.out.below hbw HA0.out.lt
 obtain ⟨z0, z1, z2, z3, z4⟩ := HA1.out.below hbw HA1.out.lt
 clear hb0 hz0 hbT x4' u0 u1 u2 u3 u4 x2 x3
 refine wp_region_held_drew (S := (fun w' => RowKit.Hid (Below wb.heap.size wb w') ∧ w'.cell? ⟨w.heap.size, 4, none⟩ = some (.slice (some ⟨gg, oo, none⟩) 3 c) ∧ w'.cell? ⟨gg, oo, none⟩ = some (.int .i64 kk0) ∧ w'.cell? ⟨gg, oo + 1, none⟩ = some (.string pp0) ∧ w'.cell? ⟨gg, oo + 2, none⟩ = some (.string nn0) ∧ w'.cell? ⟨gg, oo + 3, none⟩ = some (.int .i64 NN0) ∧ w'.cell? ⟨gg, oo + 4, none⟩ = some (.slice q0 l0 c0) ∧ w'.cell? ⟨gg, oo + 5, none⟩ = some (.int .i64 kk1) ∧ w'.cell? ⟨gg, oo + 5 + 1, none⟩ = some (.string pp1) ∧ w'.cell? ⟨gg, oo + 5 + 2, none⟩ = some (.string nn1) ∧ w'.cell? ⟨gg, oo + 5 + 3, none⟩ = some (.int .i64 NN1) ∧ w'.cell? ⟨gg, oo + 5 + 4, none⟩ = some (.slice q1 l1 c1))) Q70 Q36 (fun hHeld => ?_)
 refine tk 0 145 ?_
 refine tk 1 146 ?_ (hy := by (intro w hSw; (try dsimp only at hSw); go_simp; first | done | (rw [if_neg Q47]) | with_reducible rfl))
 refine tk 2 147 ?_
 refine tk 3 148 ?_
 refine tk 4 149 ?_
 refine tk 5 150 ?_
 refine tk 9 154 ?_
 refine tk 10 155 ?_
 refine tk 11 156 ?_
 refine tk 12 157 ?_
 refine wpAnyH_ready (rs := [6]) Q70 (by simp) ?_
 refine AllReadyH.cons (o := ⟨some 151, _, _, _, _, _⟩) rfl (fun K hK => ?_) AllReadyH.nil
 go_simp
 refine (h0.out _ (hbw.trans (hHeld.1.out.mono hz1))).mono ?_; rintro e w1 ⟨rfl, hb⟩
 go_wp2_with fail
 refine hK.out _ _ Q1 (fun hNew => ?_)
 clear hK K
 clear hHeld hb; have hHeld := hNew; clear hNew
 try simp only [Act.put, List.setIfInBounds_toArray, List.set_cons_zero, List.set_cons_succ]
 refine tk 7 152 ?_ (hy := by (intro w hSw; (try dsimp only at hSw); go_simp; first | done | (rw [if_neg Q47]) | with_reducible rfl))
 refine tk 8 153 ?_ (hy := by (intro w hSw; (try dsimp only at hSw); go_simp; first | done | (rw [if_neg Q47]) | with_reducible rfl))
 refine wpAnyH_ready (rs := [13]) Q70 (by simp) ?_
 refine AllReadyH.cons (o := ⟨some 158, _, _, _, _, _⟩) rfl (fun K hK => ?_) AllReadyH.nil
 go_simp
 refine (h1.out _ (hbw.trans (hHeld.1.out.mono hz1))).mono ?_; rintro e w2 ⟨rfl, hb⟩
 go_wp2_with fail
 refine hK.out _ _ Q1 (fun hNew => ?_)
 clear hK K
 clear hHeld hb; have hHeld := hNew; clear hNew
 try simp only [Act.put, List.setIfInBounds_toArray, List.set_cons_zero, List.set_cons_succ]
 refine tk 14 159 ?_ (hy := by (intro w hSw; (try dsimp only at hSw); go_simp; first | done | (rw [if_neg Q47]) | with_reducible rfl))
 refine tk 15 2 ?_
 refine wpAnyH_done Q70 ?_ _
 go_wp2
 go_ret
 exact ⟨congrArg (fun s => Ending.returned (.string s)) HE.out, hbw.trans (hHeld.1.out.mono hz1)⟩
end Go.Proofs.YtmkjalnlldpdcaaGreatDoor
