/- Texts in a row: Wn Wp Wo Wq. -/
import Derived.Test.YtmkjalnlldpdcaaGreatDoorZT14
import Derived.Test.YtmkjalnlldpdcaaGreatDoorZT12
set_option maxHeartbeats 16000000
set_option maxRecDepth 100000
namespace Go.Proofs.YtmkjalnlldpdcaaGreatDoor
open Go.RowKit
set_option linter.unusedSimpArgs false
set_option linter.unusedVariables false
theorem cmp27_any {w0 : World} (b d : Nat) (HT : TermC d) (l : List UInt8) (p n : ByteArray) (N : Int) (q : Option Addr) (c : Nat) (A C : Tm) (w : World) (h : Cx w0 b l w) (hk : KidsC w0 d (.slice q [A, C].length c) [A, C]) (hw : ∀ x ∈ [A, C], WfT d x) 
 (hl : l.length + (cmpT 27 n N ([A, C].map fun x => (x, txt d x))).length ≤ 1000000000) :
 Calls Tryz.prog 143 #[wp b, tv 27 p n N (.slice q [A, C].length c)] w (Tells w0 b l (cmpT 27 n N ([A, C].map fun x => (x, txt d x))) w) := by
 obtain ⟨_, _, e, _, hr⟩ := hk
 cases e
 obtain ⟨gg, oo, kk0, pp0, nn0, NN0, a4, eq0, ha0, ht0⟩ := hr 0 A rfl
 subst eq0
 obtain ⟨gg1, oo1, kk1, pp1, nn1, NN1, c4, eq1, ha1, ht1⟩ := hr 1 C rfl
 cases eq1
 obtain ⟨dm, z0, z1, z2, z3, qq0, cc0, ks0, ed, rfl, e0, _, _, _, _⟩ := ht0.open
 simp only [tv, Value.agg.injEq, Array.mk.injEq, List.cons.injEq, Value.int.injEq, Value.string.injEq, true_and, and_true] at e0
 obtain ⟨rfl, rfl, rfl, rfl, rfl⟩ := e0
 obtain ⟨dn, y0, y1, y2, y3, qq1, cc1, ks1, en, rfl, e1, _, _, _, _⟩ := ht1.open
 simp only [tv, Value.agg.injEq, Array.mk.injEq, List.cons.injEq, Value.int.injEq, Value.string.injEq, true_and, and_true] at e1
 obtain ⟨rfl, rfl, rfl, rfl, rfl⟩ := e1
 simp only [Nat.zero_mul, Nat.one_mul, Nat.add_zero] at ha0 ha1
 have HA0 := Hd ha0
 have HA1 := Hd ha1
 clear ed en
 have hX : cmpT 27 n N ([(.mk kk0 pp0 nn0 NN0 ks0 : Tm), .mk kk1 pp1 nn1 NN1 ks1].map fun x => (x, txt d x)) = ((([] ++ withinT (openM (.mk kk0 pp0 nn0 NN0 ks0)) (txt d (.mk kk0 pp0 nn0 NN0 ks0))) ++ [32]) ++ withinT (openM (.mk kk1 pp1 nn1 NN1 ks1) || kk1 == 27) (txt d (.mk kk1 pp1 nn1 NN1 ks1))) := by simp [cmpT, kdM]
 rw [hX] at hl ⊢
 have h0 : RowKit.Hid (∀ W, Cx w0 b (l ++ []) W → Calls Tryz.prog 196 #[wp b, tv kk0 pp0 nn0 NN0 (.slice qq0 ks0.length cc0), .bool (openM (.mk kk0 pp0 nn0 NN0 ks0))] W (Tells w0 b (l ++ []) (withinT (openM (.mk kk0 pp0 nn0 NN0 ks0)) (txt d (.mk kk0 pp0 nn0 NN0 ks0))) W)) := Hd fun W hW => within_any b d HT _ (openM (.mk kk0 pp0 nn0 NN0 ks0)) _ _ W hW ht0 (hw _ (by simp)) Q63
 have h1 := Hd (fun W g (hW : Cx w0 b (l ++ ([] ++ withinT (openM (.mk kk0 pp0 nn0 NN0 ks0)) (txt d (.mk kk0 pp0 nn0 NN0 ks0)))) W) hg => add1 (w0 := w0) (b := b) ⟨#[32]⟩ W g hW hg Q63)
 have h2 : RowKit.Hid (∀ W, Cx w0 b (l ++ (([] ++ withinT (openM (.mk kk0 pp0 nn0 NN0 ks0)) (txt d (.mk kk0 pp0 nn0 NN0 ks0))) ++ [32])) W → Calls Tryz.prog 196 #[wp b, tv kk1 pp1 nn1 NN1 (.slice qq1 ks1.length cc1), .bool (openM (.mk kk1 pp1 nn1 NN1 ks1) || kk1 == 27)] W (Tells w0 b (l ++ (([] ++ withinT (openM (.mk kk0 pp0 nn0 NN0 ks0)) (txt d (.mk kk0 pp0 nn0 NN0 ks0))) ++ [32])) (withinT (openM (.mk kk1 pp1 nn1 NN1 ks1) || kk1 == 27) (txt d (.mk kk1 pp1 nn1 NN1 ks1))) W)) := Hd fun W hW => within_any b d HT _ (openM (.mk kk1 pp1 nn1 NN1 ks1) || kk1 == 27) _ _ W hW ht1 (hw _ (by simp)) Q63
 have hO0 := Hd (fun W => isOpen_any kk0 pp0 nn0 NN0 qq0 cc0 ks0 W)
 have hO1 := Hd (fun W => isOpen_any kk1 pp1 nn1 NN1 qq1 cc1 ks1 W)
 have S0 := Hd (St.start h #[.int .i64 27, .string p, .string n, .int .i64 N, .slice (some ⟨gg, oo, none⟩) [(.mk kk0 pp0 nn0 NN0 ks0 : Tm), .mk kk1 pp1 nn1 NN1 ks1].length c])
 clear h hl hX hw HT hr ha0 ht0 ha1 ht1
 generalize withinT (openM (.mk kk0 pp0 nn0 NN0 ks0)) (txt d (.mk kk0 pp0 nn0 NN0 ks0)) = T0 at *
 generalize openM (.mk kk0 pp0 nn0 NN0 ks0) = oa at *
 generalize openM (.mk kk1 pp1 nn1 NN1 ks1) = ob at *
 generalize txt d (.mk kk1 pp1 nn1 NN1 ks1) = T1 at *
 go_enter Tryz.func143, Tryz.ntmps143
 go_upto_region 10 with (fail)
 refine wp_region_held_drew (S := (fun w' => RowKit.Hid (∃ x, St w0 b l w #[.int .i64 27, .string p, .string n, .int .i64 N, .slice (some ⟨gg, oo, none⟩) [(.mk kk0 pp0 nn0 NN0 ks0 : Tm), .mk kk1 pp1 nn1 NN1 ks1].length c] x w') ∧ w'.cell? ⟨w.heap.size, 4, none⟩ = some (.slice (some ⟨gg, oo, none⟩) [(.mk kk0 pp0 nn0 NN0 ks0 : Tm), .mk kk1 pp1 nn1 NN1 ks1].length c) ∧ w'.cell? ⟨gg, oo, none⟩ = some (.int .i64 kk0) ∧ w'.cell? ⟨gg, oo + 1, none⟩ = some (.string pp0) ∧ w'.cell? ⟨gg, oo + 2, none⟩ = some (.string nn0) ∧ w'.cell? ⟨gg, oo + 3, none⟩ = some (.int .i64 NN0) ∧ w'.cell? ⟨gg, oo + 4, none⟩ = some (.slice qq0 ks0.length cc0))) Q70 (by exact (S0.out.grow (drewN1 _)).pack HA0.out) (fun hHeld => ?_)
 refine tk 0 44 ?_
 refine tk 1 45 ?_
 refine tk 2 46 ?_
 refine tk 3 47 ?_
 refine tk 4 48 ?_
 refine tk 5 49 ?_
 refine tk 6 50 ?_
 refine tk 7 51 ?_
 refine tk 8 52 ?_
 refine wpAnyH_ready (rs := [9]) Q70 (by simp) ?_
 refine AllReadyH.cons (o := ⟨some 53, _, _, _, _, _⟩) rfl (fun K hK => ?_) AllReadyH.nil
 go_simp
 refine (hO0.out _).mono ?_; rintro e w1 ⟨rfl, hb1⟩; have S1 := Hd ((S0.out.grow (drewN1 _)).grow hb1); clear hb1; have hP := S1.out.pack HA0.out
 go_wp2_with fail
 refine hK.out _ _ (by exact hP) (fun hNew => ?_)
 clear hK K
 have hHeld := hNew
 try simp only [Act.put, List.setIfInBounds_toArray, List.set_cons_zero, List.set_cons_succ]
 refine wpAnyH_ready (rs := [10]) Q70 (by simp) ?_
 refine AllReadyH.cons (o := ⟨some 54, _, _, _, _, _⟩) rfl (fun K hK => ?_) AllReadyH.nil
 go_simp
 refine (h0.out _ S1.out.cx).mono ?_; rintro e w2 ⟨rfl, k1⟩; have S2 := Hd (S1.out.next (Below.refl _ _) k1); clear k1; have hP2 := S2.out.pack HA0.out
 go_wp2_with fail
 refine hK.out _ _ (by exact hP2) (fun hNew => ?_)
 clear hK K
 have hHeld := hNew
 try simp only [Act.put, List.setIfInBounds_toArray, List.set_cons_zero, List.set_cons_succ]
 refine wpAnyH_done Q70 ?_ _
 clear hHeld hP hP2
 have m1 := S2.out.bx
 obtain ⟨b20, b21, b22, b23, b24⟩ := hb5 m1
 clear m1
 go_upto_region 12 with (go_at_call 99; refine (h1.out _ _ (S2.out.cx.alloc _) (new_at _ _ _ _ (by simp))).mono ?_; rintro e w3 ⟨rfl, k1⟩; have S3 := Hd (S2.out.next (below_alloc _ _) k1); clear k1)
 cases ob
 · refine wp_region_held_drew (S := (fun w' => RowKit.Hid (∃ x, St w0 b l w #[.int .i64 27, .string p, .string n, .int .i64 N, .slice (some ⟨gg, oo, none⟩) [(.mk kk0 pp0 nn0 NN0 ks0 : Tm), .mk kk1 pp1 nn1 NN1 ks1].length c] x w') ∧ w'.cell? ⟨w.heap.size, 4, none⟩ = some (.slice (some ⟨gg, oo, none⟩) [(.mk kk0 pp0 nn0 NN0 ks0 : Tm), .mk kk1 pp1 nn1 NN1 ks1].length c) ∧ w'.cell? ⟨gg, oo + 5, none⟩ = some (.int .i64 kk1) ∧ w'.cell? ⟨gg, oo + 5 + 1, none⟩ = some (.string pp1) ∧ w'.cell? ⟨gg, oo + 5 + 2, none⟩ = some (.string nn1) ∧ w'.cell? ⟨gg, oo + 5 + 3, none⟩ = some (.int .i64 NN1) ∧ w'.cell? ⟨gg, oo + 5 + 4, none⟩ = some (.slice qq1 ks1.length cc1))) Q70 (by exact (S3.out.grow (drewN1 _)).pack HA1.out) (fun hHeld => ?_)
   refine tk 0 58 ?_
   refine tk 1 59 ?_
   refine tk 2 60 ?_
   refine tk 3 61 ?_
   refine tk 4 62 ?_
   refine tk 5 63 ?_
   refine tk 6 64 ?_
   refine tk 7 65 ?_
   refine tk 8 66 ?_
   refine wpAnyH_ready (rs := [9]) Q70 (by simp) ?_
   refine AllReadyH.cons (o := ⟨some 67, _, _, _, _, _⟩) rfl (fun K hK => ?_) AllReadyH.nil
   go_simp
   refine (hO1.out _).mono ?_; rintro e w4 ⟨rfl, hb1⟩; have S4 := Hd ((S3.out.grow (drewN1 _)).grow hb1); clear hb1; have hP3 := S4.out.pack HA1.out
   go_wp2_with fail
   refine hK.out _ _ (by exact hP3) (fun hNew => ?_)
   clear hK K
   have hHeld := hNew
   try simp only [Act.put, List.setIfInBounds_toArray, List.set_cons_zero, List.set_cons_succ]
   refine tk 10 68 ?_
   refine tk 11 69 ?_
   refine tk 12 70 ?_
   refine tk 13 71 ?_
   refine tk 14 72 ?_
   refine tk 15 73 ?_
   refine tk 16 74 ?_
   refine tk 17 75 ?_
   refine wpAnyH_ready (rs := [18]) Q70 (by simp) ?_
   refine AllReadyH.cons (o := ⟨some 76, _, _, _, _, _⟩) rfl (fun K hK => ?_) AllReadyH.nil
   go_simp
   refine (h2.out _ S4.out.cx).mono ?_; rintro e w5 ⟨rfl, k1⟩; have S5 := Hd (S4.out.next (Below.refl _ _) k1); clear k1; have hP4 := S5.out.pack HA1.out
   go_wp2_with fail
   refine hK.out _ _ (by exact hP4) (fun hNew => ?_)
   clear hK K
   have hHeld := hNew
   try simp only [Act.put, List.setIfInBounds_toArray, List.set_cons_zero, List.set_cons_succ]
   refine wpAnyH_done Q70 ?_ _
   go_wp2
   go_end0
   exact ⟨rfl, S5.out.wr⟩
 · refine wp_region_held_drew (S := (fun w' => RowKit.Hid (∃ x, St w0 b l w #[.int .i64 27, .string p, .string n, .int .i64 N, .slice (some ⟨gg, oo, none⟩) [(.mk kk0 pp0 nn0 NN0 ks0 : Tm), .mk kk1 pp1 nn1 NN1 ks1].length c] x w') ∧ w'.cell? ⟨w.heap.size, 4, none⟩ = some (.slice (some ⟨gg, oo, none⟩) [(.mk kk0 pp0 nn0 NN0 ks0 : Tm), .mk kk1 pp1 nn1 NN1 ks1].length c) ∧ w'.cell? ⟨gg, oo + 5, none⟩ = some (.int .i64 kk1) ∧ w'.cell? ⟨gg, oo + 5 + 1, none⟩ = some (.string pp1) ∧ w'.cell? ⟨gg, oo + 5 + 2, none⟩ = some (.string nn1) ∧ w'.cell? ⟨gg, oo + 5 + 3, none⟩ = some (.int .i64 NN1) ∧ w'.cell? ⟨gg, oo + 5 + 4, none⟩ = some (.slice qq1 ks1.length cc1))) Q70 (by exact (S3.out.grow (drewN1 _)).pack HA1.out) (fun hHeld => ?_)
   refine tk 0 58 ?_
   refine tk 1 59 ?_
   refine tk 2 60 ?_
   refine tk 3 61 ?_
   refine tk 4 62 ?_
   refine tk 5 63 ?_
   refine tk 6 64 ?_
   refine tk 7 65 ?_
   refine tk 8 66 ?_
   refine wpAnyH_ready (rs := [9]) Q70 (by simp) ?_
   refine AllReadyH.cons (o := ⟨some 67, _, _, _, _, _⟩) rfl (fun K hK => ?_) AllReadyH.nil
   go_simp
   refine (hO1.out _).mono ?_; rintro e w4 ⟨rfl, hb1⟩; have S4 := Hd ((S3.out.grow (drewN1 _)).grow hb1); clear hb1; have hP3 := S4.out.pack HA1.out
   go_wp2_with fail
   refine hK.out _ _ (by exact hP3) (fun hNew => ?_)
   clear hK K
   have hHeld := hNew
   try simp only [Act.put, List.setIfInBounds_toArray, List.set_cons_zero, List.set_cons_succ]
   refine tk 10 68 ?_
   refine wpAnyH_take (i := 11) (oi := ⟨some 69, _, _, _, _, _⟩) (v := undef) rfl Q70 Q70 Q70 (fun _ _ _ h => h) (Or.inr ⟨by rfl, rfl⟩) Q71 ?_
   try simp only [Act.put, List.setIfInBounds_toArray, List.set_cons_zero, List.set_cons_succ]
   refine wpAnyH_take (i := 12) (oi := ⟨some 70, _, _, _, _, _⟩) (v := undef) rfl Q70 Q70 Q70 (fun _ _ _ h => h) (Or.inr ⟨by rfl, rfl⟩) Q71 ?_
   try simp only [Act.put, List.setIfInBounds_toArray, List.set_cons_zero, List.set_cons_succ]
   refine wpAnyH_take (i := 13) (oi := ⟨some 71, _, _, _, _, _⟩) (v := undef) rfl Q70 Q70 Q70 (fun _ _ _ h => h) (Or.inr ⟨by rfl, rfl⟩) Q71 ?_
   try simp only [Act.put, List.setIfInBounds_toArray, List.set_cons_zero, List.set_cons_succ]
   refine wpAnyH_take (i := 14) (oi := ⟨some 72, _, _, _, _, _⟩) (v := undef) rfl Q70 Q70 Q70 (fun _ _ _ h => h) (Or.inr ⟨by rfl, rfl⟩) Q71 ?_
   try simp only [Act.put, List.setIfInBounds_toArray, List.set_cons_zero, List.set_cons_succ]
   refine wpAnyH_take (i := 15) (oi := ⟨some 73, _, _, _, _, _⟩) (v := undef) rfl Q70 Q70 Q70 (fun _ _ _ h => h) (Or.inr ⟨by rfl, rfl⟩) Q71 ?_
   try simp only [Act.put, List.setIfInBounds_toArray, List.set_cons_zero, List.set_cons_succ]
   refine wpAnyH_take (i := 16) (oi := ⟨some 74, _, _, _, _, _⟩) (v := undef) rfl Q70 Q70 Q70 (fun _ _ _ h => h) (Or.inr ⟨by rfl, rfl⟩) Q71 ?_
   try simp only [Act.put, List.setIfInBounds_toArray, List.set_cons_zero, List.set_cons_succ]
   refine tk 17 75 ?_
   refine wpAnyH_ready (rs := [18]) Q70 (by simp) ?_
   refine AllReadyH.cons (o := ⟨some 76, _, _, _, _, _⟩) rfl (fun K hK => ?_) AllReadyH.nil
   go_simp
   refine (h2.out _ S4.out.cx).mono ?_; rintro e w5 ⟨rfl, k1⟩; have S5 := Hd (S4.out.next (Below.refl _ _) k1); clear k1; have hP4 := S5.out.pack HA1.out
   go_wp2_with fail
   refine hK.out _ _ (by exact hP4) (fun hNew => ?_)
   clear hK K
   have hHeld := hNew
   try simp only [Act.put, List.setIfInBounds_toArray, List.set_cons_zero, List.set_cons_succ]
   refine wpAnyH_done Q70 ?_ _
   go_wp2
   go_end0
   exact ⟨rfl, S5.out.wr⟩
theorem cmp29_any {w0 : World} (b d : Nat) (HT : TermC d) (l : List UInt8) (p n : ByteArray) (N : Int) (q : Option Addr) (c : Nat) (kids : List Tm) (w : World) (h : Cx w0 b l w) (hk : KidsC w0 d (.slice q kids.length c) kids) (hw : ∀ x ∈ kids, WfT d x) (hlen : 3 ≤ kids.length ∧ kids.length % 2 = 1)
 (hl : l.length + (cmpT 29 n N (kids.map fun x => (x, txt d x))).length ≤ 1000000000) :
 Calls Tryz.prog 143 #[wp b, tv 29 p n N (.slice q kids.length c)] w (Tells w0 b l (cmpT 29 n N (kids.map fun x => (x, txt d x))) w) := by
 have h1 : RowKit.Hid (∀ W, Cx w0 b l W → Calls Tryz.prog 199 #[wp b, tv 29 p n N (.slice q kids.length c)] W (Tells w0 b l (cmpT 29 n N (kids.map fun x => (x, txt d x))) W)) := Hd fun W hW => by
  match kids, hlen, hk, hw, hl with
  | A :: R, hlen, hk, hw, hl => exact match_any b d HT l 29 p n N q c A R W hW hk hw (by have := hlen.2; simp only [List.length_cons] at this; omega) hl
  | [], h, _, _, _ => simp at h
 have HH := Hd h
 clear h hl hw HT hk hlen
 generalize cmpT 29 n N (kids.map fun x => (x, txt d x)) = X at *
 go_enter Tryz.func143, Tryz.ntmps143
 go_wp2_with (go_at_call 199; refine (h1.out _ (HH.out.alloc _)).mono ?_; rintro e w1 ⟨rfl, k1⟩)
 go_end0
 exact ⟨rfl, Wr.first HH.out (below_alloc w _) k1⟩
theorem var_told {w0 : World} (b d : Nat) (HT : TermC d) (l : List UInt8) (p n : ByteArray) (N : Int) (q : Option Addr) (c : Nat) (kids : List Tm) (w : World) (h : Cx w0 b l w) (hk : KidsC w0 d (.slice q kids.length c) kids) (hw : ∀ x ∈ kids, WfT d x) (hr : RightT ⟨3, n, 0⟩) (hs : n.size ≤ 100000)
 (hl : l.length + (tellT ⟨3, n, 0⟩).length ≤ 1000000000) :
 Calls Tryz.prog 75 #[wp b, tv 1 p n N (.slice q kids.length c)] w (Tells w0 b l (tellT ⟨3, n, 0⟩) w) := by
 have h1 := Hd (fun W hW => variable_any (w0 := w0) b l n W hW hr (by omega) hl)
 have HH := Hd h
 clear h hl hk hw HT hr
 generalize tellT ⟨3, n, 0⟩ = T at *
 go_enter Tryz.func75, Tryz.ntmps75
 go_wp2_with (go_at_call 140; refine (h1.out _ (HH.out.alloc _)).mono ?_; rintro e w1 ⟨rfl, k1⟩)
 go_end0
 exact ⟨rfl, Wr.first HH.out (below_alloc w _) k1⟩
theorem any_told {w0 : World} (b d : Nat) (HT : TermC d) (l : List UInt8) (p n : ByteArray) (N : Int) (q : Option Addr) (c : Nat) (kids : List Tm) (w : World) (h : Cx w0 b l w) (hk : KidsC w0 d (.slice q kids.length c) kids) (hw : ∀ x ∈ kids, WfT d x)
 (hl : l.length + ([95]).length ≤ 1000000000) :
 Calls Tryz.prog 75 #[wp b, tv 11 p n N (.slice q kids.length c)] w (Tells w0 b l ([95]) w) := by
 have h1 := Hd (fun W g hW hg => add1 (w0 := w0) (b := b) (l := l) ⟨#[95]⟩ W g hW hg Q63)
 have HH := Hd h
 clear h hl hk hw HT
 go_enter Tryz.func75, Tryz.ntmps75
 go_wp2_with (go_at_call 99; refine (h1.out _ _ ((HH.out.alloc _).alloc _) (new_at _ _ _ _ (by simp))).mono ?_; rintro e w1 ⟨rfl, k1⟩)
 go_end0
 exact ⟨rfl, Wr.first HH.out (below_two w _ _) k1⟩
theorem int13_told {w0 : World} (b d : Nat) (HT : TermC d) (l : List UInt8) (p n : ByteArray) (N : Int) (q : Option Addr) (c : Nat) (kids : List Tm) (w : World) (h : Cx w0 b l w) (hk : KidsC w0 d (.slice q kids.length c) kids) (hw : ∀ x ∈ kids, WfT d x) (hr : RightT ⟨4, ⟨#[]⟩, N⟩) (hN : -9223372036854775808 ≤ N ∧ N ≤ 9223372036854775807)
 (hl : l.length + (tellT ⟨4, ⟨#[]⟩, N⟩).length ≤ 1000000000) :
 Calls Tryz.prog 75 #[wp b, tv 13 p n N (.slice q kids.length c)] w (Tells w0 b l (tellT ⟨4, ⟨#[]⟩, N⟩) w) := by
 have h1 : RowKit.Hid (∀ W, Cx w0 b l W → Calls Tryz.prog 141 #[wp b, .agg #[.int .i64 4, .string ⟨#[]⟩, .int .i64 N, .int .i64 0]] W (Tells w0 b l (tellT ⟨4, ⟨#[]⟩, N⟩) W)) := Hd (fun W hW => token_any b l ⟨4, ⟨#[]⟩, N⟩ 0 W hW hr hN (by show 0 ≤ 1000000; decide) hl)
 have HH := Hd h
 clear h hl hk hw HT hr
 generalize tellT ⟨4, ⟨#[]⟩, N⟩ = T at *
 go_enter Tryz.func75, Tryz.ntmps75
 go_wp2_with (go_at_call 141; refine (h1.out _ (HH.out.alloc _)).mono ?_; rintro e w1 ⟨rfl, k1⟩)
 go_end0
 exact ⟨rfl, Wr.first HH.out (below_alloc w _) k1⟩
theorem int22_told {w0 : World} (b d : Nat) (HT : TermC d) (l : List UInt8) (p n : ByteArray) (N : Int) (q : Option Addr) (c : Nat) (kids : List Tm) (w : World) (h : Cx w0 b l w) (hk : KidsC w0 d (.slice q kids.length c) kids) (hw : ∀ x ∈ kids, WfT d x) (hr : RightT ⟨4, ⟨#[]⟩, N⟩) (hN : -9223372036854775808 ≤ N ∧ N ≤ 9223372036854775807)
 (hl : l.length + (tellT ⟨4, ⟨#[]⟩, N⟩).length ≤ 1000000000) :
 Calls Tryz.prog 75 #[wp b, tv 22 p n N (.slice q kids.length c)] w (Tells w0 b l (tellT ⟨4, ⟨#[]⟩, N⟩) w) := by
 have h1 : RowKit.Hid (∀ W, Cx w0 b l W → Calls Tryz.prog 141 #[wp b, .agg #[.int .i64 4, .string ⟨#[]⟩, .int .i64 N, .int .i64 0]] W (Tells w0 b l (tellT ⟨4, ⟨#[]⟩, N⟩) W)) := Hd (fun W hW => token_any b l ⟨4, ⟨#[]⟩, N⟩ 0 W hW hr hN (by show 0 ≤ 1000000; decide) hl)
 have HH := Hd h
 clear h hl hk hw HT hr
 generalize tellT ⟨4, ⟨#[]⟩, N⟩ = T at *
 go_enter Tryz.func75, Tryz.ntmps75
 go_wp2_with (go_at_call 141; refine (h1.out _ (HH.out.alloc _)).mono ?_; rintro e w1 ⟨rfl, k1⟩)
 go_end0
 exact ⟨rfl, Wr.first HH.out (below_alloc w _) k1⟩
theorem text14_told {w0 : World} (b d : Nat) (HT : TermC d) (l : List UInt8) (p n : ByteArray) (N : Int) (q : Option Addr) (c : Nat) (kids : List Tm) (w : World) (h : Cx w0 b l w) (hk : KidsC w0 d (.slice q kids.length c) kids) (hw : ∀ x ∈ kids, WfT d x) (hr : RightT ⟨5, n, 0⟩) (hs : n.size ≤ 100000)
 (hl : l.length + (tellT ⟨5, n, 0⟩).length ≤ 1000000000) :
 Calls Tryz.prog 75 #[wp b, tv 14 p n N (.slice q kids.length c)] w (Tells w0 b l (tellT ⟨5, n, 0⟩) w) := by
 have h1 : RowKit.Hid (∀ W, Cx w0 b l W → Calls Tryz.prog 141 #[wp b, .agg #[.int .i64 5, .string n, .int .i64 0, .int .i64 0]] W (Tells w0 b l (tellT ⟨5, n, 0⟩) W)) := Hd (fun W hW => token_any b l ⟨5, n, 0⟩ 0 W hW hr ⟨by show (-9223372036854775808 : Int) ≤ 0; decide, by show (0 : Int) ≤ 9223372036854775807; decide⟩ (by show n.size ≤ 1000000; omega) hl)
 have HH := Hd h
 clear h hl hk hw HT hr
 generalize tellT ⟨5, n, 0⟩ = T at *
 go_enter Tryz.func75, Tryz.ntmps75
 go_wp2_with (go_at_call 141; refine (h1.out _ (HH.out.alloc _)).mono ?_; rintro e w1 ⟨rfl, k1⟩)
 go_end0
 exact ⟨rfl, Wr.first HH.out (below_alloc w _) k1⟩
theorem text23_told {w0 : World} (b d : Nat) (HT : TermC d) (l : List UInt8) (p n : ByteArray) (N : Int) (q : Option Addr) (c : Nat) (kids : List Tm) (w : World) (h : Cx w0 b l w) (hk : KidsC w0 d (.slice q kids.length c) kids) (hw : ∀ x ∈ kids, WfT d x) (hr : RightT ⟨5, n, 0⟩) (hs : n.size ≤ 100000)
 (hl : l.length + (tellT ⟨5, n, 0⟩).length ≤ 1000000000) :
 Calls Tryz.prog 75 #[wp b, tv 23 p n N (.slice q kids.length c)] w (Tells w0 b l (tellT ⟨5, n, 0⟩) w) := by
 have h1 : RowKit.Hid (∀ W, Cx w0 b l W → Calls Tryz.prog 141 #[wp b, .agg #[.int .i64 5, .string n, .int .i64 0, .int .i64 0]] W (Tells w0 b l (tellT ⟨5, n, 0⟩) W)) := Hd (fun W hW => token_any b l ⟨5, n, 0⟩ 0 W hW hr ⟨by show (-9223372036854775808 : Int) ≤ 0; decide, by show (0 : Int) ≤ 9223372036854775807; decide⟩ (by show n.size ≤ 1000000; omega) hl)
 have HH := Hd h
 clear h hl hk hw HT hr
 generalize tellT ⟨5, n, 0⟩ = T at *
 go_enter Tryz.func75, Tryz.ntmps75
 go_wp2_with (go_at_call 141; refine (h1.out _ (HH.out.alloc _)).mono ?_; rintro e w1 ⟨rfl, k1⟩)
 go_end0
 exact ⟨rfl, Wr.first HH.out (below_alloc w _) k1⟩
theorem tup4_told {w0 : World} (b d : Nat) (HT : TermC d) (l : List UInt8) (p n : ByteArray) (N : Int) (q : Option Addr) (c : Nat) (kids : List Tm) (w : World) (h : Cx w0 b l w) (hk : KidsC w0 d (.slice q kids.length c) kids) (hw : ∀ x ∈ kids, WfT d x)
 (hl : l.length + (heldT (kids.map (txt d))).length ≤ 1000000000) :
 Calls Tryz.prog 75 #[wp b, tv 4 p n N (.slice q kids.length c)] w (Tells w0 b l (heldT (kids.map (txt d))) w) := by
 have h1 : RowKit.Hid (∀ W, Cx w0 b l W → Calls Tryz.prog 142 #[wp b, .slice q kids.length c, .func (.func 75) #[wp b] #[]] W (Tells w0 b l (heldT (kids.map (txt d))) W)) := Hd fun W hW => held_any b d HT _ _ kids W hW (Row9.of hk hW.bel) hw hl
 have HH := Hd h
 clear h hl hk hw HT
 generalize heldT (kids.map (txt d)) = T at *
 go_enter Tryz.func75, Tryz.ntmps75
 go_wp2_with (go_at_call 142; refine (h1.out _ (HH.out.alloc _)).mono ?_; rintro e w1 ⟨rfl, k1⟩)
 go_end0
 exact ⟨rfl, Wr.first HH.out (below_alloc w _) k1⟩
theorem tup16_told {w0 : World} (b d : Nat) (HT : TermC d) (l : List UInt8) (p n : ByteArray) (N : Int) (q : Option Addr) (c : Nat) (kids : List Tm) (w : World) (h : Cx w0 b l w) (hk : KidsC w0 d (.slice q kids.length c) kids) (hw : ∀ x ∈ kids, WfT d x)
 (hl : l.length + (heldT (kids.map (txt d))).length ≤ 1000000000) :
 Calls Tryz.prog 75 #[wp b, tv 16 p n N (.slice q kids.length c)] w (Tells w0 b l (heldT (kids.map (txt d))) w) := by
 have h1 : RowKit.Hid (∀ W, Cx w0 b l W → Calls Tryz.prog 142 #[wp b, .slice q kids.length c, .func (.func 75) #[wp b] #[]] W (Tells w0 b l (heldT (kids.map (txt d))) W)) := Hd fun W hW => held_any b d HT _ _ kids W hW (Row9.of hk hW.bel) hw hl
 have HH := Hd h
 clear h hl hk hw HT
 generalize heldT (kids.map (txt d)) = T at *
 go_enter Tryz.func75, Tryz.ntmps75
 go_wp2_with (go_at_call 142; refine (h1.out _ (HH.out.alloc _)).mono ?_; rintro e w1 ⟨rfl, k1⟩)
 go_end0
 exact ⟨rfl, Wr.first HH.out (below_alloc w _) k1⟩
theorem tup25_told {w0 : World} (b d : Nat) (HT : TermC d) (l : List UInt8) (p n : ByteArray) (N : Int) (q : Option Addr) (c : Nat) (kids : List Tm) (w : World) (h : Cx w0 b l w) (hk : KidsC w0 d (.slice q kids.length c) kids) (hw : ∀ x ∈ kids, WfT d x)
 (hl : l.length + (heldT (kids.map (txt d))).length ≤ 1000000000) :
 Calls Tryz.prog 75 #[wp b, tv 25 p n N (.slice q kids.length c)] w (Tells w0 b l (heldT (kids.map (txt d))) w) := by
 have h1 : RowKit.Hid (∀ W, Cx w0 b l W → Calls Tryz.prog 142 #[wp b, .slice q kids.length c, .func (.func 75) #[wp b] #[]] W (Tells w0 b l (heldT (kids.map (txt d))) W)) := Hd fun W hW => held_any b d HT _ _ kids W hW (Row9.of hk hW.bel) hw hl
 have HH := Hd h
 clear h hl hk hw HT
 generalize heldT (kids.map (txt d)) = T at *
 go_enter Tryz.func75, Tryz.ntmps75
 go_wp2_with (go_at_call 142; refine (h1.out _ (HH.out.alloc _)).mono ?_; rintro e w1 ⟨rfl, k1⟩)
 go_end0
 exact ⟨rfl, Wr.first HH.out (below_alloc w _) k1⟩
theorem cmp3_told {w0 : World} (b d : Nat) (HT : TermC d) (l : List UInt8) (p n : ByteArray) (N : Int) (q : Option Addr) (c : Nat) (kids : List Tm) (w : World) (h : Cx w0 b l w) (hk : KidsC w0 d (.slice q kids.length c) kids) (hw : ∀ x ∈ kids, WfT d x) (h143 : ∀ W, Cx w0 b l W → Calls Tryz.prog 143 #[wp b, tv 3 p n N (.slice q kids.length c)] W (Tells w0 b l (cmpT 3 n N (kids.map fun x => (x, txt d x))) W))
 (hl : l.length + (cmpT 3 n N (kids.map fun x => (x, txt d x))).length ≤ 1000000000) :
 Calls Tryz.prog 75 #[wp b, tv 3 p n N (.slice q kids.length c)] w (Tells w0 b l (cmpT 3 n N (kids.map fun x => (x, txt d x))) w) := by
 have h1 := Hd h143
 have HH := Hd h
 clear h hl hk hw HT h143
 generalize cmpT 3 n N (kids.map fun x => (x, txt d x)) = T at *
 go_enter Tryz.func75, Tryz.ntmps75
 go_wp2_with (go_at_call 143; refine (h1.out _ (HH.out.alloc _)).mono ?_; rintro e w1 ⟨rfl, k1⟩)
 go_end0
 exact ⟨rfl, Wr.first HH.out (below_alloc w _) k1⟩
theorem cmp26_told {w0 : World} (b d : Nat) (HT : TermC d) (l : List UInt8) (p n : ByteArray) (N : Int) (q : Option Addr) (c : Nat) (kids : List Tm) (w : World) (h : Cx w0 b l w) (hk : KidsC w0 d (.slice q kids.length c) kids) (hw : ∀ x ∈ kids, WfT d x) (h143 : ∀ W, Cx w0 b l W → Calls Tryz.prog 143 #[wp b, tv 26 p n N (.slice q kids.length c)] W (Tells w0 b l (cmpT 26 n N (kids.map fun x => (x, txt d x))) W))
 (hl : l.length + (cmpT 26 n N (kids.map fun x => (x, txt d x))).length ≤ 1000000000) :
 Calls Tryz.prog 75 #[wp b, tv 26 p n N (.slice q kids.length c)] w (Tells w0 b l (cmpT 26 n N (kids.map fun x => (x, txt d x))) w) := by
 have h1 := Hd h143
 have HH := Hd h
 clear h hl hk hw HT h143
 generalize cmpT 26 n N (kids.map fun x => (x, txt d x)) = T at *
 go_enter Tryz.func75, Tryz.ntmps75
 go_wp2_with (go_at_call 143; refine (h1.out _ (HH.out.alloc _)).mono ?_; rintro e w1 ⟨rfl, k1⟩)
 go_end0
 exact ⟨rfl, Wr.first HH.out (below_alloc w _) k1⟩
theorem cmp27_told {w0 : World} (b d : Nat) (HT : TermC d) (l : List UInt8) (p n : ByteArray) (N : Int) (q : Option Addr) (c : Nat) (kids : List Tm) (w : World) (h : Cx w0 b l w) (hk : KidsC w0 d (.slice q kids.length c) kids) (hw : ∀ x ∈ kids, WfT d x) (h143 : ∀ W, Cx w0 b l W → Calls Tryz.prog 143 #[wp b, tv 27 p n N (.slice q kids.length c)] W (Tells w0 b l (cmpT 27 n N (kids.map fun x => (x, txt d x))) W))
 (hl : l.length + (cmpT 27 n N (kids.map fun x => (x, txt d x))).length ≤ 1000000000) :
 Calls Tryz.prog 75 #[wp b, tv 27 p n N (.slice q kids.length c)] w (Tells w0 b l (cmpT 27 n N (kids.map fun x => (x, txt d x))) w) := by
 have h1 := Hd h143
 have HH := Hd h
 clear h hl hk hw HT h143
 generalize cmpT 27 n N (kids.map fun x => (x, txt d x)) = T at *
 go_enter Tryz.func75, Tryz.ntmps75
 go_wp2_with (go_at_call 143; refine (h1.out _ (HH.out.alloc _)).mono ?_; rintro e w1 ⟨rfl, k1⟩)
 go_end0
 exact ⟨rfl, Wr.first HH.out (below_alloc w _) k1⟩
theorem cmp28_told {w0 : World} (b d : Nat) (HT : TermC d) (l : List UInt8) (p n : ByteArray) (N : Int) (q : Option Addr) (c : Nat) (kids : List Tm) (w : World) (h : Cx w0 b l w) (hk : KidsC w0 d (.slice q kids.length c) kids) (hw : ∀ x ∈ kids, WfT d x) (h143 : ∀ W, Cx w0 b l W → Calls Tryz.prog 143 #[wp b, tv 28 p n N (.slice q kids.length c)] W (Tells w0 b l (cmpT 28 n N (kids.map fun x => (x, txt d x))) W))
 (hl : l.length + (cmpT 28 n N (kids.map fun x => (x, txt d x))).length ≤ 1000000000) :
 Calls Tryz.prog 75 #[wp b, tv 28 p n N (.slice q kids.length c)] w (Tells w0 b l (cmpT 28 n N (kids.map fun x => (x, txt d x))) w) := by
 have h1 := Hd h143
 have HH := Hd h
 clear h hl hk hw HT h143
 generalize cmpT 28 n N (kids.map fun x => (x, txt d x)) = T at *
 go_enter Tryz.func75, Tryz.ntmps75
 go_wp2_with (go_at_call 143; refine (h1.out _ (HH.out.alloc _)).mono ?_; rintro e w1 ⟨rfl, k1⟩)
 go_end0
 exact ⟨rfl, Wr.first HH.out (below_alloc w _) k1⟩
theorem cmp29_told {w0 : World} (b d : Nat) (HT : TermC d) (l : List UInt8) (p n : ByteArray) (N : Int) (q : Option Addr) (c : Nat) (kids : List Tm) (w : World) (h : Cx w0 b l w) (hk : KidsC w0 d (.slice q kids.length c) kids) (hw : ∀ x ∈ kids, WfT d x) (h143 : ∀ W, Cx w0 b l W → Calls Tryz.prog 143 #[wp b, tv 29 p n N (.slice q kids.length c)] W (Tells w0 b l (cmpT 29 n N (kids.map fun x => (x, txt d x))) W))
 (hl : l.length + (cmpT 29 n N (kids.map fun x => (x, txt d x))).length ≤ 1000000000) :
 Calls Tryz.prog 75 #[wp b, tv 29 p n N (.slice q kids.length c)] w (Tells w0 b l (cmpT 29 n N (kids.map fun x => (x, txt d x))) w) := by
 have h1 := Hd h143
 have HH := Hd h
 clear h hl hk hw HT h143
 generalize cmpT 29 n N (kids.map fun x => (x, txt d x)) = T at *
 go_enter Tryz.func75, Tryz.ntmps75
 go_wp2_with (go_at_call 143; refine (h1.out _ (HH.out.alloc _)).mono ?_; rintro e w1 ⟨rfl, k1⟩)
 go_end0
 exact ⟨rfl, Wr.first HH.out (below_alloc w _) k1⟩
theorem cmp30_told {w0 : World} (b d : Nat) (HT : TermC d) (l : List UInt8) (p n : ByteArray) (N : Int) (q : Option Addr) (c : Nat) (kids : List Tm) (w : World) (h : Cx w0 b l w) (hk : KidsC w0 d (.slice q kids.length c) kids) (hw : ∀ x ∈ kids, WfT d x) (h143 : ∀ W, Cx w0 b l W → Calls Tryz.prog 143 #[wp b, tv 30 p n N (.slice q kids.length c)] W (Tells w0 b l (cmpT 30 n N (kids.map fun x => (x, txt d x))) W))
 (hl : l.length + (cmpT 30 n N (kids.map fun x => (x, txt d x))).length ≤ 1000000000) :
 Calls Tryz.prog 75 #[wp b, tv 30 p n N (.slice q kids.length c)] w (Tells w0 b l (cmpT 30 n N (kids.map fun x => (x, txt d x))) w) := by
 have h1 := Hd h143
 have HH := Hd h
 clear h hl hk hw HT h143
 generalize cmpT 30 n N (kids.map fun x => (x, txt d x)) = T at *
 go_enter Tryz.func75, Tryz.ntmps75
 go_wp2_with (go_at_call 143; refine (h1.out _ (HH.out.alloc _)).mono ?_; rintro e w1 ⟨rfl, k1⟩)
 go_end0
 exact ⟨rfl, Wr.first HH.out (below_alloc w _) k1⟩
theorem con12_any {w0 : World} (b d : Nat) (HT : TermC d) (l : List UInt8) (p n : ByteArray) (N : Int) (q : Option Addr) (c : Nat) (kids : List Tm) (w : World) (h : Cx w0 b l w) (hk : KidsC w0 d (.slice q kids.length c) kids) (hw : ∀ x ∈ kids, WfT d x)
 (hl : l.length + (qualT p n ++ (if kids.length = 0 then [] else heldT (kids.map (txt d)))).length ≤ 1000000000) :
 Calls Tryz.prog 75 #[wp b, tv 12 p n N (.slice q kids.length c)] w (Tells w0 b l (qualT p n ++ (if kids.length = 0 then [] else heldT (kids.map (txt d)))) w) := by
 by_cases hp : p = ⟨#[]⟩
 · subst hp
   by_cases hke : kids.length = 0
   · have hX : qualT ⟨#[]⟩ n ++ (if kids.length = 0 then [] else heldT (kids.map (txt d))) = ([] ++ n.data.toList) := by simp [qualT, hke]
     rw [hX] at hl ⊢
     have h0 := Hd (fun W g (hW : Cx w0 b (l ++ []) W) hg => add1 (w0 := w0) (b := b) n W g hW hg Q63)
     have S0 := Hd (St.start h #[.int .i64 12, .string ⟨#[]⟩, .string n, .int .i64 N, .slice q kids.length c])
     have hke2 : kids.length = 0 := by simpa using hke
     rw [hke2]
     rw [hke2] at S0
     clear h hl hX hw HT hk hke hke2
     go_enter Tryz.func75, Tryz.ntmps75
     go_wp2_with (go_at_call 99; refine (h0.out _ _ (S0.out.cx.alloc _) (new_at _ _ _ _ (by simp))).mono ?_; rintro e w1 ⟨rfl, k1⟩; have S1 := Hd (S0.out.next (below_alloc _ _) k1); have m1 := S1.out.bx; obtain ⟨b10, b11, b12, b13, b14⟩ := hb5 m1; clear m1; clear k1)
     go_end0
     exact ⟨rfl, S1.out.wr⟩
   · have hX : qualT ⟨#[]⟩ n ++ (if kids.length = 0 then [] else heldT (kids.map (txt d))) = (([] ++ n.data.toList) ++ heldT (kids.map (txt d))) := by simp [qualT, hke]
     rw [hX] at hl ⊢
     have h0 := Hd (fun W g (hW : Cx w0 b (l ++ []) W) hg => add1 (w0 := w0) (b := b) n W g hW hg Q63)
     have h1 : RowKit.Hid (∀ W, Cx w0 b (l ++ ([] ++ n.data.toList)) W → Calls Tryz.prog 142 #[wp b, .slice q kids.length c, .func (.func 75) #[wp b] #[]] W (Tells w0 b (l ++ ([] ++ n.data.toList)) (heldT (kids.map (txt d))) W)) := Hd fun W hW => held_any b d HT _ _ kids W hW (Row9.of hk hW.bel) hw Q63
     have S0 := Hd (St.start h #[.int .i64 12, .string ⟨#[]⟩, .string n, .int .i64 N, .slice q kids.length c])
     have hkk : ¬ (kids.length : Int) = 0 := by omega
     clear h hl hX hw HT hk hke
     generalize heldT (kids.map (txt d)) = T0 at *
     go_enter Tryz.func75, Tryz.ntmps75
     go_wp2_with (go_at_call 99; refine (h0.out _ _ (S0.out.cx.alloc _) (new_at _ _ _ _ (by simp))).mono ?_; rintro e w1 ⟨rfl, k1⟩; have S1 := Hd (S0.out.next (below_alloc _ _) k1); have m1 := S1.out.bx; obtain ⟨b10, b11, b12, b13, b14⟩ := hb5 m1; clear m1; clear k1)
     go_wp2_with (go_at_call 142; refine (h1.out _ S1.out.cx).mono ?_; rintro e w2 ⟨rfl, k1⟩; have S2 := Hd (S1.out.next (Below.refl _ _) k1); clear k1)
     go_end0
     exact ⟨rfl, S2.out.wr⟩
 · have hpe : ¬ p.toList = [] := fun e => hp (toList_inj Q60)
   by_cases hke : kids.length = 0
   · have hX : qualT p n ++ (if kids.length = 0 then [] else heldT (kids.map (txt d))) = (([] ++ (p.data.toList ++ [46])) ++ n.data.toList) := by simp [qualT, hpe, hke]
     rw [hX] at hl ⊢
     have h0 := Hd (fun W g (hW : Cx w0 b (l ++ []) W) hg => add2 (w0 := w0) (b := b) p ⟨#[46]⟩ W g hW hg Q63)
     have h1 := Hd (fun W g (hW : Cx w0 b (l ++ ([] ++ (p.data.toList ++ [46]))) W) hg => add1 (w0 := w0) (b := b) n W g hW hg Q63)
     have S0 := Hd (St.start h #[.int .i64 12, .string p, .string n, .int .i64 N, .slice q kids.length c])
     have hke2 : kids.length = 0 := by simpa using hke
     rw [hke2]
     rw [hke2] at S0
     clear h hl hX hw HT hk hke hke2
     have hpb : (p.toList == []) = false := by simpa using hpe
     have hpn : (p.toList != []) = true := by simpa using hpe
     have hpe2 : ¬ p.toList = (⟨#[]⟩ : ByteArray).toList := fun e => hp (toList_inj e)
     clear hp
     go_enter Tryz.func75, Tryz.ntmps75
     go_wp2_with (go_at_call 99; (with_reducible show Calls Tryz.prog 99 #[_, Value.slice _ 2 2] _ _); refine (h0.out _ _ (S0.out.cx.alloc _) (new_at _ _ _ _ (by simp))).mono ?_; rintro e w1 ⟨rfl, k1⟩; have S1 := Hd (S0.out.next (below_alloc _ _) k1); have m1 := S1.out.bx; obtain ⟨b10, b11, b12, b13, b14⟩ := hb5 m1; clear m1; clear k1)
     go_wp2_with (go_at_call 99; refine (h1.out _ _ (S1.out.cx.alloc _) (new_at _ _ _ _ (by simp))).mono ?_; rintro e w2 ⟨rfl, k1⟩; have S2 := Hd (S1.out.next (below_alloc _ _) k1); have m1 := S2.out.bx; obtain ⟨b20, b21, b22, b23, b24⟩ := hb5 m1; clear m1; clear k1)
     go_end0
     exact ⟨rfl, S2.out.wr⟩
   · have hX : qualT p n ++ (if kids.length = 0 then [] else heldT (kids.map (txt d))) = ((([] ++ (p.data.toList ++ [46])) ++ n.data.toList) ++ heldT (kids.map (txt d))) := by simp [qualT, hpe, hke]
     rw [hX] at hl ⊢
     have h0 := Hd (fun W g (hW : Cx w0 b (l ++ []) W) hg => add2 (w0 := w0) (b := b) p ⟨#[46]⟩ W g hW hg Q63)
     have h1 := Hd (fun W g (hW : Cx w0 b (l ++ ([] ++ (p.data.toList ++ [46]))) W) hg => add1 (w0 := w0) (b := b) n W g hW hg Q63)
     have h2 : RowKit.Hid (∀ W, Cx w0 b (l ++ (([] ++ (p.data.toList ++ [46])) ++ n.data.toList)) W → Calls Tryz.prog 142 #[wp b, .slice q kids.length c, .func (.func 75) #[wp b] #[]] W (Tells w0 b (l ++ (([] ++ (p.data.toList ++ [46])) ++ n.data.toList)) (heldT (kids.map (txt d))) W)) := Hd fun W hW => held_any b d HT _ _ kids W hW (Row9.of hk hW.bel) hw Q63
     have S0 := Hd (St.start h #[.int .i64 12, .string p, .string n, .int .i64 N, .slice q kids.length c])
     have hkk : ¬ (kids.length : Int) = 0 := by omega
     clear h hl hX hw HT hk hke
     generalize heldT (kids.map (txt d)) = T0 at *
     have hpb : (p.toList == []) = false := by simpa using hpe
     have hpn : (p.toList != []) = true := by simpa using hpe
     have hpe2 : ¬ p.toList = (⟨#[]⟩ : ByteArray).toList := fun e => hp (toList_inj e)
     clear hp
     go_enter Tryz.func75, Tryz.ntmps75
     go_wp2_with (go_at_call 99; (with_reducible show Calls Tryz.prog 99 #[_, Value.slice _ 2 2] _ _); refine (h0.out _ _ (S0.out.cx.alloc _) (new_at _ _ _ _ (by simp))).mono ?_; rintro e w1 ⟨rfl, k1⟩; have S1 := Hd (S0.out.next (below_alloc _ _) k1); have m1 := S1.out.bx; obtain ⟨b10, b11, b12, b13, b14⟩ := hb5 m1; clear m1; clear k1)
     go_wp2_with (go_at_call 99; refine (h1.out _ _ (S1.out.cx.alloc _) (new_at _ _ _ _ (by simp))).mono ?_; rintro e w2 ⟨rfl, k1⟩; have S2 := Hd (S1.out.next (below_alloc _ _) k1); have m1 := S2.out.bx; obtain ⟨b20, b21, b22, b23, b24⟩ := hb5 m1; clear m1; clear k1)
     go_wp2_with (go_at_call 142; refine (h2.out _ S2.out.cx).mono ?_; rintro e w3 ⟨rfl, k1⟩; have S3 := Hd (S2.out.next (Below.refl _ _) k1); clear k1)
     go_end0
     exact ⟨rfl, S3.out.wr⟩
theorem con21_any {w0 : World} (b d : Nat) (HT : TermC d) (l : List UInt8) (p n : ByteArray) (N : Int) (q : Option Addr) (c : Nat) (kids : List Tm) (w : World) (h : Cx w0 b l w) (hk : KidsC w0 d (.slice q kids.length c) kids) (hw : ∀ x ∈ kids, WfT d x)
 (hl : l.length + (qualT p n ++ (if kids.length = 0 then [] else heldT (kids.map (txt d)))).length ≤ 1000000000) :
 Calls Tryz.prog 75 #[wp b, tv 21 p n N (.slice q kids.length c)] w (Tells w0 b l (qualT p n ++ (if kids.length = 0 then [] else heldT (kids.map (txt d)))) w) := by
 by_cases hp : p = ⟨#[]⟩
 · subst hp
   by_cases hke : kids.length = 0
   · have hX : qualT ⟨#[]⟩ n ++ (if kids.length = 0 then [] else heldT (kids.map (txt d))) = ([] ++ n.data.toList) := by simp [qualT, hke]
     rw [hX] at hl ⊢
     have h0 := Hd (fun W g (hW : Cx w0 b (l ++ []) W) hg => add1 (w0 := w0) (b := b) n W g hW hg Q63)
     have S0 := Hd (St.start h #[.int .i64 21, .string ⟨#[]⟩, .string n, .int .i64 N, .slice q kids.length c])
     have hke2 : kids.length = 0 := by simpa using hke
     rw [hke2]
     rw [hke2] at S0
     clear h hl hX hw HT hk hke hke2
     go_enter Tryz.func75, Tryz.ntmps75
     go_wp2_with (go_at_call 99; refine (h0.out _ _ (S0.out.cx.alloc _) (new_at _ _ _ _ (by simp))).mono ?_; rintro e w1 ⟨rfl, k1⟩; have S1 := Hd (S0.out.next (below_alloc _ _) k1); have m1 := S1.out.bx; obtain ⟨b10, b11, b12, b13, b14⟩ := hb5 m1; clear m1; clear k1)
     go_end0
     exact ⟨rfl, S1.out.wr⟩
   · have hX : qualT ⟨#[]⟩ n ++ (if kids.length = 0 then [] else heldT (kids.map (txt d))) = (([] ++ n.data.toList) ++ heldT (kids.map (txt d))) := by simp [qualT, hke]
     rw [hX] at hl ⊢
     have h0 := Hd (fun W g (hW : Cx w0 b (l ++ []) W) hg => add1 (w0 := w0) (b := b) n W g hW hg Q63)
     have h1 : RowKit.Hid (∀ W, Cx w0 b (l ++ ([] ++ n.data.toList)) W → Calls Tryz.prog 142 #[wp b, .slice q kids.length c, .func (.func 75) #[wp b] #[]] W (Tells w0 b (l ++ ([] ++ n.data.toList)) (heldT (kids.map (txt d))) W)) := Hd fun W hW => held_any b d HT _ _ kids W hW (Row9.of hk hW.bel) hw Q63
     have S0 := Hd (St.start h #[.int .i64 21, .string ⟨#[]⟩, .string n, .int .i64 N, .slice q kids.length c])
     have hkk : ¬ (kids.length : Int) = 0 := by omega
     clear h hl hX hw HT hk hke
     generalize heldT (kids.map (txt d)) = T0 at *
     go_enter Tryz.func75, Tryz.ntmps75
     go_wp2_with (go_at_call 99; refine (h0.out _ _ (S0.out.cx.alloc _) (new_at _ _ _ _ (by simp))).mono ?_; rintro e w1 ⟨rfl, k1⟩; have S1 := Hd (S0.out.next (below_alloc _ _) k1); have m1 := S1.out.bx; obtain ⟨b10, b11, b12, b13, b14⟩ := hb5 m1; clear m1; clear k1)
     go_wp2_with (go_at_call 142; refine (h1.out _ S1.out.cx).mono ?_; rintro e w2 ⟨rfl, k1⟩; have S2 := Hd (S1.out.next (Below.refl _ _) k1); clear k1)
     go_end0
     exact ⟨rfl, S2.out.wr⟩
 · have hpe : ¬ p.toList = [] := fun e => hp (toList_inj Q60)
   by_cases hke : kids.length = 0
   · have hX : qualT p n ++ (if kids.length = 0 then [] else heldT (kids.map (txt d))) = (([] ++ (p.data.toList ++ [46])) ++ n.data.toList) := by simp [qualT, hpe, hke]
     rw [hX] at hl ⊢
     have h0 := Hd (fun W g (hW : Cx w0 b (l ++ []) W) hg => add2 (w0 := w0) (b := b) p ⟨#[46]⟩ W g hW hg Q63)
     have h1 := Hd (fun W g (hW : Cx w0 b (l ++ ([] ++ (p.data.toList ++ [46]))) W) hg => add1 (w0 := w0) (b := b) n W g hW hg Q63)
     have S0 := Hd (St.start h #[.int .i64 21, .string p, .string n, .int .i64 N, .slice q kids.length c])
     have hke2 : kids.length = 0 := by simpa using hke
     rw [hke2]
     rw [hke2] at S0
     clear h hl hX hw HT hk hke hke2
     have hpb : (p.toList == []) = false := by simpa using hpe
     have hpn : (p.toList != []) = true := by simpa using hpe
     have hpe2 : ¬ p.toList = (⟨#[]⟩ : ByteArray).toList := fun e => hp (toList_inj e)
     clear hp
     go_enter Tryz.func75, Tryz.ntmps75
     go_wp2_with (go_at_call 99; (with_reducible show Calls Tryz.prog 99 #[_, Value.slice _ 2 2] _ _); refine (h0.out _ _ (S0.out.cx.alloc _) (new_at _ _ _ _ (by simp))).mono ?_; rintro e w1 ⟨rfl, k1⟩; have S1 := Hd (S0.out.next (below_alloc _ _) k1); have m1 := S1.out.bx; obtain ⟨b10, b11, b12, b13, b14⟩ := hb5 m1; clear m1; clear k1)
     go_wp2_with (go_at_call 99; refine (h1.out _ _ (S1.out.cx.alloc _) (new_at _ _ _ _ (by simp))).mono ?_; rintro e w2 ⟨rfl, k1⟩; have S2 := Hd (S1.out.next (below_alloc _ _) k1); have m1 := S2.out.bx; obtain ⟨b20, b21, b22, b23, b24⟩ := hb5 m1; clear m1; clear k1)
     go_end0
     exact ⟨rfl, S2.out.wr⟩
   · have hX : qualT p n ++ (if kids.length = 0 then [] else heldT (kids.map (txt d))) = ((([] ++ (p.data.toList ++ [46])) ++ n.data.toList) ++ heldT (kids.map (txt d))) := by simp [qualT, hpe, hke]
     rw [hX] at hl ⊢
     have h0 := Hd (fun W g (hW : Cx w0 b (l ++ []) W) hg => add2 (w0 := w0) (b := b) p ⟨#[46]⟩ W g hW hg Q63)
     have h1 := Hd (fun W g (hW : Cx w0 b (l ++ ([] ++ (p.data.toList ++ [46]))) W) hg => add1 (w0 := w0) (b := b) n W g hW hg Q63)
     have h2 : RowKit.Hid (∀ W, Cx w0 b (l ++ (([] ++ (p.data.toList ++ [46])) ++ n.data.toList)) W → Calls Tryz.prog 142 #[wp b, .slice q kids.length c, .func (.func 75) #[wp b] #[]] W (Tells w0 b (l ++ (([] ++ (p.data.toList ++ [46])) ++ n.data.toList)) (heldT (kids.map (txt d))) W)) := Hd fun W hW => held_any b d HT _ _ kids W hW (Row9.of hk hW.bel) hw Q63
     have S0 := Hd (St.start h #[.int .i64 21, .string p, .string n, .int .i64 N, .slice q kids.length c])
     have hkk : ¬ (kids.length : Int) = 0 := by omega
     clear h hl hX hw HT hk hke
     generalize heldT (kids.map (txt d)) = T0 at *
     have hpb : (p.toList == []) = false := by simpa using hpe
     have hpn : (p.toList != []) = true := by simpa using hpe
     have hpe2 : ¬ p.toList = (⟨#[]⟩ : ByteArray).toList := fun e => hp (toList_inj e)
     clear hp
     go_enter Tryz.func75, Tryz.ntmps75
     go_wp2_with (go_at_call 99; (with_reducible show Calls Tryz.prog 99 #[_, Value.slice _ 2 2] _ _); refine (h0.out _ _ (S0.out.cx.alloc _) (new_at _ _ _ _ (by simp))).mono ?_; rintro e w1 ⟨rfl, k1⟩; have S1 := Hd (S0.out.next (below_alloc _ _) k1); have m1 := S1.out.bx; obtain ⟨b10, b11, b12, b13, b14⟩ := hb5 m1; clear m1; clear k1)
     go_wp2_with (go_at_call 99; refine (h1.out _ _ (S1.out.cx.alloc _) (new_at _ _ _ _ (by simp))).mono ?_; rintro e w2 ⟨rfl, k1⟩; have S2 := Hd (S1.out.next (below_alloc _ _) k1); have m1 := S2.out.bx; obtain ⟨b20, b21, b22, b23, b24⟩ := hb5 m1; clear m1; clear k1)
     go_wp2_with (go_at_call 142; refine (h2.out _ S2.out.cx).mono ?_; rintro e w3 ⟨rfl, k1⟩; have S3 := Hd (S2.out.next (Below.refl _ _) k1); clear k1)
     go_end0
     exact ⟨rfl, S3.out.wr⟩
theorem con2_any {w0 : World} (b d : Nat) (HT : TermC d) (l : List UInt8) (p n : ByteArray) (N : Int) (q : Option Addr) (c : Nat) (kids : List Tm) (w : World) (h : Cx w0 b l w) (hk : KidsC w0 d (.slice q kids.length c) kids) (hw : ∀ x ∈ kids, WfT d x)
 (hl : l.length + (qualT p n ++ (if kids.length = 0 then [] else heldT (kids.map (txt d)))).length ≤ 1000000000) :
 Calls Tryz.prog 75 #[wp b, tv 2 p n N (.slice q kids.length c)] w (Tells w0 b l (qualT p n ++ (if kids.length = 0 then [] else heldT (kids.map (txt d)))) w) := by
 by_cases hp : p = ⟨#[]⟩
 · subst hp
   by_cases hke : kids.length = 0
   · have hX : qualT ⟨#[]⟩ n ++ (if kids.length = 0 then [] else heldT (kids.map (txt d))) = ([] ++ n.data.toList) := by simp [qualT, hke]
     rw [hX] at hl ⊢
     have h0 := Hd (fun W g (hW : Cx w0 b (l ++ []) W) hg => add1 (w0 := w0) (b := b) n W g hW hg Q63)
     have S0 := Hd (St.start h #[.int .i64 2, .string ⟨#[]⟩, .string n, .int .i64 N, .slice q kids.length c])
     have hke2 : kids.length = 0 := by simpa using hke
     rw [hke2]
     rw [hke2] at S0
     clear h hl hX hw HT hk hke hke2
     go_enter Tryz.func75, Tryz.ntmps75
     go_wp2_with (go_at_call 99; refine (h0.out _ _ (S0.out.cx.alloc _) (new_at _ _ _ _ (by simp))).mono ?_; rintro e w1 ⟨rfl, k1⟩; have S1 := Hd (S0.out.next (below_alloc _ _) k1); have m1 := S1.out.bx; obtain ⟨b10, b11, b12, b13, b14⟩ := hb5 m1; clear m1; clear k1)
     go_end0
     exact ⟨rfl, S1.out.wr⟩
   · have hX : qualT ⟨#[]⟩ n ++ (if kids.length = 0 then [] else heldT (kids.map (txt d))) = (([] ++ n.data.toList) ++ heldT (kids.map (txt d))) := by simp [qualT, hke]
     rw [hX] at hl ⊢
     have h0 := Hd (fun W g (hW : Cx w0 b (l ++ []) W) hg => add1 (w0 := w0) (b := b) n W g hW hg Q63)
     have h1 : RowKit.Hid (∀ W, Cx w0 b (l ++ ([] ++ n.data.toList)) W → Calls Tryz.prog 142 #[wp b, .slice q kids.length c, .func (.func 75) #[wp b] #[]] W (Tells w0 b (l ++ ([] ++ n.data.toList)) (heldT (kids.map (txt d))) W)) := Hd fun W hW => held_any b d HT _ _ kids W hW (Row9.of hk hW.bel) hw Q63
     have S0 := Hd (St.start h #[.int .i64 2, .string ⟨#[]⟩, .string n, .int .i64 N, .slice q kids.length c])
     have hkk : ¬ (kids.length : Int) = 0 := by omega
     clear h hl hX hw HT hk hke
     generalize heldT (kids.map (txt d)) = T0 at *
     go_enter Tryz.func75, Tryz.ntmps75
     go_wp2_with (go_at_call 99; refine (h0.out _ _ (S0.out.cx.alloc _) (new_at _ _ _ _ (by simp))).mono ?_; rintro e w1 ⟨rfl, k1⟩; have S1 := Hd (S0.out.next (below_alloc _ _) k1); have m1 := S1.out.bx; obtain ⟨b10, b11, b12, b13, b14⟩ := hb5 m1; clear m1; clear k1)
     go_wp2_with (go_at_call 142; refine (h1.out _ S1.out.cx).mono ?_; rintro e w2 ⟨rfl, k1⟩; have S2 := Hd (S1.out.next (Below.refl _ _) k1); clear k1)
     go_end0
     exact ⟨rfl, S2.out.wr⟩
 · have hpe : ¬ p.toList = [] := fun e => hp (toList_inj Q60)
   by_cases hke : kids.length = 0
   · have hX : qualT p n ++ (if kids.length = 0 then [] else heldT (kids.map (txt d))) = (([] ++ (p.data.toList ++ [46])) ++ n.data.toList) := by simp [qualT, hpe, hke]
     rw [hX] at hl ⊢
     have h0 := Hd (fun W g (hW : Cx w0 b (l ++ []) W) hg => add2 (w0 := w0) (b := b) p ⟨#[46]⟩ W g hW hg Q63)
     have h1 := Hd (fun W g (hW : Cx w0 b (l ++ ([] ++ (p.data.toList ++ [46]))) W) hg => add1 (w0 := w0) (b := b) n W g hW hg Q63)
     have S0 := Hd (St.start h #[.int .i64 2, .string p, .string n, .int .i64 N, .slice q kids.length c])
     have hke2 : kids.length = 0 := by simpa using hke
     rw [hke2]
     rw [hke2] at S0
     clear h hl hX hw HT hk hke hke2
     have hpb : (p.toList == []) = false := by simpa using hpe
     have hpn : (p.toList != []) = true := by simpa using hpe
     have hpe2 : ¬ p.toList = (⟨#[]⟩ : ByteArray).toList := fun e => hp (toList_inj e)
     clear hp
     go_enter Tryz.func75, Tryz.ntmps75
     go_wp2_with (go_at_call 99; (with_reducible show Calls Tryz.prog 99 #[_, Value.slice _ 2 2] _ _); refine (h0.out _ _ (S0.out.cx.alloc _) (new_at _ _ _ _ (by simp))).mono ?_; rintro e w1 ⟨rfl, k1⟩; have S1 := Hd (S0.out.next (below_alloc _ _) k1); have m1 := S1.out.bx; obtain ⟨b10, b11, b12, b13, b14⟩ := hb5 m1; clear m1; clear k1)
     go_wp2_with (go_at_call 99; refine (h1.out _ _ (S1.out.cx.alloc _) (new_at _ _ _ _ (by simp))).mono ?_; rintro e w2 ⟨rfl, k1⟩; have S2 := Hd (S1.out.next (below_alloc _ _) k1); have m1 := S2.out.bx; obtain ⟨b20, b21, b22, b23, b24⟩ := hb5 m1; clear m1; clear k1)
     go_end0
     exact ⟨rfl, S2.out.wr⟩
   · have hX : qualT p n ++ (if kids.length = 0 then [] else heldT (kids.map (txt d))) = ((([] ++ (p.data.toList ++ [46])) ++ n.data.toList) ++ heldT (kids.map (txt d))) := by simp [qualT, hpe, hke]
     rw [hX] at hl ⊢
     have h0 := Hd (fun W g (hW : Cx w0 b (l ++ []) W) hg => add2 (w0 := w0) (b := b) p ⟨#[46]⟩ W g hW hg Q63)
     have h1 := Hd (fun W g (hW : Cx w0 b (l ++ ([] ++ (p.data.toList ++ [46]))) W) hg => add1 (w0 := w0) (b := b) n W g hW hg Q63)
     have h2 : RowKit.Hid (∀ W, Cx w0 b (l ++ (([] ++ (p.data.toList ++ [46])) ++ n.data.toList)) W → Calls Tryz.prog 142 #[wp b, .slice q kids.length c, .func (.func 75) #[wp b] #[]] W (Tells w0 b (l ++ (([] ++ (p.data.toList ++ [46])) ++ n.data.toList)) (heldT (kids.map (txt d))) W)) := Hd fun W hW => held_any b d HT _ _ kids W hW (Row9.of hk hW.bel) hw Q63
     have S0 := Hd (St.start h #[.int .i64 2, .string p, .string n, .int .i64 N, .slice q kids.length c])
     have hkk : ¬ (kids.length : Int) = 0 := by omega
     clear h hl hX hw HT hk hke
     generalize heldT (kids.map (txt d)) = T0 at *
     have hpb : (p.toList == []) = false := by simpa using hpe
     have hpn : (p.toList != []) = true := by simpa using hpe
     have hpe2 : ¬ p.toList = (⟨#[]⟩ : ByteArray).toList := fun e => hp (toList_inj e)
     clear hp
     go_enter Tryz.func75, Tryz.ntmps75
     go_wp2_with (go_at_call 99; (with_reducible show Calls Tryz.prog 99 #[_, Value.slice _ 2 2] _ _); refine (h0.out _ _ (S0.out.cx.alloc _) (new_at _ _ _ _ (by simp))).mono ?_; rintro e w1 ⟨rfl, k1⟩; have S1 := Hd (S0.out.next (below_alloc _ _) k1); have m1 := S1.out.bx; obtain ⟨b10, b11, b12, b13, b14⟩ := hb5 m1; clear m1; clear k1)
     go_wp2_with (go_at_call 99; refine (h1.out _ _ (S1.out.cx.alloc _) (new_at _ _ _ _ (by simp))).mono ?_; rintro e w2 ⟨rfl, k1⟩; have S2 := Hd (S1.out.next (below_alloc _ _) k1); have m1 := S2.out.bx; obtain ⟨b20, b21, b22, b23, b24⟩ := hb5 m1; clear m1; clear k1)
     go_wp2_with (go_at_call 142; refine (h2.out _ S2.out.cx).mono ?_; rintro e w3 ⟨rfl, k1⟩; have S3 := Hd (S2.out.next (Below.refl _ _) k1); clear k1)
     go_end0
     exact ⟨rfl, S3.out.wr⟩
theorem con15_any {w0 : World} (b d : Nat) (HT : TermC d) (l : List UInt8) (p n : ByteArray) (N : Int) (q : Option Addr) (c : Nat) (kids : List Tm) (w : World) (h : Cx w0 b l w) (hk : KidsC w0 d (.slice q kids.length c) kids) (hw : ∀ x ∈ kids, WfT d x)
 (hl : l.length + (qualT p n ++ (if kids.length = 0 then [] else heldT (kids.map (txt d)))).length ≤ 1000000000) :
 Calls Tryz.prog 75 #[wp b, tv 15 p n N (.slice q kids.length c)] w (Tells w0 b l (qualT p n ++ (if kids.length = 0 then [] else heldT (kids.map (txt d)))) w) := by
 by_cases hp : p = ⟨#[]⟩
 · subst hp
   by_cases hke : kids.length = 0
   · have hX : qualT ⟨#[]⟩ n ++ (if kids.length = 0 then [] else heldT (kids.map (txt d))) = ([] ++ n.data.toList) := by simp [qualT, hke]
     rw [hX] at hl ⊢
     have h0 := Hd (fun W g (hW : Cx w0 b (l ++ []) W) hg => add1 (w0 := w0) (b := b) n W g hW hg Q63)
     have S0 := Hd (St.start h #[.int .i64 15, .string ⟨#[]⟩, .string n, .int .i64 N, .slice q kids.length c])
     have hke2 : kids.length = 0 := by simpa using hke
     rw [hke2]
     rw [hke2] at S0
     clear h hl hX hw HT hk hke hke2
     go_enter Tryz.func75, Tryz.ntmps75
     go_wp2_with (go_at_call 99; refine (h0.out _ _ (S0.out.cx.alloc _) (new_at _ _ _ _ (by simp))).mono ?_; rintro e w1 ⟨rfl, k1⟩; have S1 := Hd (S0.out.next (below_alloc _ _) k1); have m1 := S1.out.bx; obtain ⟨b10, b11, b12, b13, b14⟩ := hb5 m1; clear m1; clear k1)
     go_end0
     exact ⟨rfl, S1.out.wr⟩
   · have hX : qualT ⟨#[]⟩ n ++ (if kids.length = 0 then [] else heldT (kids.map (txt d))) = (([] ++ n.data.toList) ++ heldT (kids.map (txt d))) := by simp [qualT, hke]
     rw [hX] at hl ⊢
     have h0 := Hd (fun W g (hW : Cx w0 b (l ++ []) W) hg => add1 (w0 := w0) (b := b) n W g hW hg Q63)
     have h1 : RowKit.Hid (∀ W, Cx w0 b (l ++ ([] ++ n.data.toList)) W → Calls Tryz.prog 142 #[wp b, .slice q kids.length c, .func (.func 75) #[wp b] #[]] W (Tells w0 b (l ++ ([] ++ n.data.toList)) (heldT (kids.map (txt d))) W)) := Hd fun W hW => held_any b d HT _ _ kids W hW (Row9.of hk hW.bel) hw Q63
     have S0 := Hd (St.start h #[.int .i64 15, .string ⟨#[]⟩, .string n, .int .i64 N, .slice q kids.length c])
     have hkk : ¬ (kids.length : Int) = 0 := by omega
     clear h hl hX hw HT hk hke
     generalize heldT (kids.map (txt d)) = T0 at *
     go_enter Tryz.func75, Tryz.ntmps75
     go_wp2_with (go_at_call 99; refine (h0.out _ _ (S0.out.cx.alloc _) (new_at _ _ _ _ (by simp))).mono ?_; rintro e w1 ⟨rfl, k1⟩; have S1 := Hd (S0.out.next (below_alloc _ _) k1); have m1 := S1.out.bx; obtain ⟨b10, b11, b12, b13, b14⟩ := hb5 m1; clear m1; clear k1)
     go_wp2_with (go_at_call 142; refine (h1.out _ S1.out.cx).mono ?_; rintro e w2 ⟨rfl, k1⟩; have S2 := Hd (S1.out.next (Below.refl _ _) k1); clear k1)
     go_end0
     exact ⟨rfl, S2.out.wr⟩
 · have hpe : ¬ p.toList = [] := fun e => hp (toList_inj Q60)
   by_cases hke : kids.length = 0
   · have hX : qualT p n ++ (if kids.length = 0 then [] else heldT (kids.map (txt d))) = (([] ++ (p.data.toList ++ [46])) ++ n.data.toList) := by simp [qualT, hpe, hke]
     rw [hX] at hl ⊢
     have h0 := Hd (fun W g (hW : Cx w0 b (l ++ []) W) hg => add2 (w0 := w0) (b := b) p ⟨#[46]⟩ W g hW hg Q63)
     have h1 := Hd (fun W g (hW : Cx w0 b (l ++ ([] ++ (p.data.toList ++ [46]))) W) hg => add1 (w0 := w0) (b := b) n W g hW hg Q63)
     have S0 := Hd (St.start h #[.int .i64 15, .string p, .string n, .int .i64 N, .slice q kids.length c])
     have hke2 : kids.length = 0 := by simpa using hke
     rw [hke2]
     rw [hke2] at S0
     clear h hl hX hw HT hk hke hke2
     have hpb : (p.toList == []) = false := by simpa using hpe
     have hpn : (p.toList != []) = true := by simpa using hpe
     have hpe2 : ¬ p.toList = (⟨#[]⟩ : ByteArray).toList := fun e => hp (toList_inj e)
     clear hp
     go_enter Tryz.func75, Tryz.ntmps75
     go_wp2_with (go_at_call 99; (with_reducible show Calls Tryz.prog 99 #[_, Value.slice _ 2 2] _ _); refine (h0.out _ _ (S0.out.cx.alloc _) (new_at _ _ _ _ (by simp))).mono ?_; rintro e w1 ⟨rfl, k1⟩; have S1 := Hd (S0.out.next (below_alloc _ _) k1); have m1 := S1.out.bx; obtain ⟨b10, b11, b12, b13, b14⟩ := hb5 m1; clear m1; clear k1)
     go_wp2_with (go_at_call 99; refine (h1.out _ _ (S1.out.cx.alloc _) (new_at _ _ _ _ (by simp))).mono ?_; rintro e w2 ⟨rfl, k1⟩; have S2 := Hd (S1.out.next (below_alloc _ _) k1); have m1 := S2.out.bx; obtain ⟨b20, b21, b22, b23, b24⟩ := hb5 m1; clear m1; clear k1)
     go_end0
     exact ⟨rfl, S2.out.wr⟩
   · have hX : qualT p n ++ (if kids.length = 0 then [] else heldT (kids.map (txt d))) = ((([] ++ (p.data.toList ++ [46])) ++ n.data.toList) ++ heldT (kids.map (txt d))) := by simp [qualT, hpe, hke]
     rw [hX] at hl ⊢
     have h0 := Hd (fun W g (hW : Cx w0 b (l ++ []) W) hg => add2 (w0 := w0) (b := b) p ⟨#[46]⟩ W g hW hg Q63)
     have h1 := Hd (fun W g (hW : Cx w0 b (l ++ ([] ++ (p.data.toList ++ [46]))) W) hg => add1 (w0 := w0) (b := b) n W g hW hg Q63)
     have h2 : RowKit.Hid (∀ W, Cx w0 b (l ++ (([] ++ (p.data.toList ++ [46])) ++ n.data.toList)) W → Calls Tryz.prog 142 #[wp b, .slice q kids.length c, .func (.func 75) #[wp b] #[]] W (Tells w0 b (l ++ (([] ++ (p.data.toList ++ [46])) ++ n.data.toList)) (heldT (kids.map (txt d))) W)) := Hd fun W hW => held_any b d HT _ _ kids W hW (Row9.of hk hW.bel) hw Q63
     have S0 := Hd (St.start h #[.int .i64 15, .string p, .string n, .int .i64 N, .slice q kids.length c])
     have hkk : ¬ (kids.length : Int) = 0 := by omega
     clear h hl hX hw HT hk hke
     generalize heldT (kids.map (txt d)) = T0 at *
     have hpb : (p.toList == []) = false := by simpa using hpe
     have hpn : (p.toList != []) = true := by simpa using hpe
     have hpe2 : ¬ p.toList = (⟨#[]⟩ : ByteArray).toList := fun e => hp (toList_inj e)
     clear hp
     go_enter Tryz.func75, Tryz.ntmps75
     go_wp2_with (go_at_call 99; (with_reducible show Calls Tryz.prog 99 #[_, Value.slice _ 2 2] _ _); refine (h0.out _ _ (S0.out.cx.alloc _) (new_at _ _ _ _ (by simp))).mono ?_; rintro e w1 ⟨rfl, k1⟩; have S1 := Hd (S0.out.next (below_alloc _ _) k1); have m1 := S1.out.bx; obtain ⟨b10, b11, b12, b13, b14⟩ := hb5 m1; clear m1; clear k1)
     go_wp2_with (go_at_call 99; refine (h1.out _ _ (S1.out.cx.alloc _) (new_at _ _ _ _ (by simp))).mono ?_; rintro e w2 ⟨rfl, k1⟩; have S2 := Hd (S1.out.next (below_alloc _ _) k1); have m1 := S2.out.bx; obtain ⟨b20, b21, b22, b23, b24⟩ := hb5 m1; clear m1; clear k1)
     go_wp2_with (go_at_call 142; refine (h2.out _ S2.out.cx).mono ?_; rintro e w3 ⟨rfl, k1⟩; have S3 := Hd (S2.out.next (Below.refl _ _) k1); clear k1)
     go_end0
     exact ⟨rfl, S3.out.wr⟩
theorem con24_any {w0 : World} (b d : Nat) (HT : TermC d) (l : List UInt8) (p n : ByteArray) (N : Int) (q : Option Addr) (c : Nat) (kids : List Tm) (w : World) (h : Cx w0 b l w) (hk : KidsC w0 d (.slice q kids.length c) kids) (hw : ∀ x ∈ kids, WfT d x)
 (hl : l.length + (qualT p n ++ (if kids.length = 0 then [] else heldT (kids.map (txt d)))).length ≤ 1000000000) :
 Calls Tryz.prog 75 #[wp b, tv 24 p n N (.slice q kids.length c)] w (Tells w0 b l (qualT p n ++ (if kids.length = 0 then [] else heldT (kids.map (txt d)))) w) := by
 by_cases hp : p = ⟨#[]⟩
 · subst hp
   by_cases hke : kids.length = 0
   · have hX : qualT ⟨#[]⟩ n ++ (if kids.length = 0 then [] else heldT (kids.map (txt d))) = ([] ++ n.data.toList) := by simp [qualT, hke]
     rw [hX] at hl ⊢
     have h0 := Hd (fun W g (hW : Cx w0 b (l ++ []) W) hg => add1 (w0 := w0) (b := b) n W g hW hg Q63)
     have S0 := Hd (St.start h #[.int .i64 24, .string ⟨#[]⟩, .string n, .int .i64 N, .slice q kids.length c])
     have hke2 : kids.length = 0 := by simpa using hke
     rw [hke2]
     rw [hke2] at S0
     clear h hl hX hw HT hk hke hke2
     go_enter Tryz.func75, Tryz.ntmps75
     go_wp2_with (go_at_call 99; refine (h0.out _ _ (S0.out.cx.alloc _) (new_at _ _ _ _ (by simp))).mono ?_; rintro e w1 ⟨rfl, k1⟩; have S1 := Hd (S0.out.next (below_alloc _ _) k1); have m1 := S1.out.bx; obtain ⟨b10, b11, b12, b13, b14⟩ := hb5 m1; clear m1; clear k1)
     go_end0
     exact ⟨rfl, S1.out.wr⟩
   · have hX : qualT ⟨#[]⟩ n ++ (if kids.length = 0 then [] else heldT (kids.map (txt d))) = (([] ++ n.data.toList) ++ heldT (kids.map (txt d))) := by simp [qualT, hke]
     rw [hX] at hl ⊢
     have h0 := Hd (fun W g (hW : Cx w0 b (l ++ []) W) hg => add1 (w0 := w0) (b := b) n W g hW hg Q63)
     have h1 : RowKit.Hid (∀ W, Cx w0 b (l ++ ([] ++ n.data.toList)) W → Calls Tryz.prog 142 #[wp b, .slice q kids.length c, .func (.func 75) #[wp b] #[]] W (Tells w0 b (l ++ ([] ++ n.data.toList)) (heldT (kids.map (txt d))) W)) := Hd fun W hW => held_any b d HT _ _ kids W hW (Row9.of hk hW.bel) hw Q63
     have S0 := Hd (St.start h #[.int .i64 24, .string ⟨#[]⟩, .string n, .int .i64 N, .slice q kids.length c])
     have hkk : ¬ (kids.length : Int) = 0 := by omega
     clear h hl hX hw HT hk hke
     generalize heldT (kids.map (txt d)) = T0 at *
     go_enter Tryz.func75, Tryz.ntmps75
     go_wp2_with (go_at_call 99; refine (h0.out _ _ (S0.out.cx.alloc _) (new_at _ _ _ _ (by simp))).mono ?_; rintro e w1 ⟨rfl, k1⟩; have S1 := Hd (S0.out.next (below_alloc _ _) k1); have m1 := S1.out.bx; obtain ⟨b10, b11, b12, b13, b14⟩ := hb5 m1; clear m1; clear k1)
     go_wp2_with (go_at_call 142; refine (h1.out _ S1.out.cx).mono ?_; rintro e w2 ⟨rfl, k1⟩; have S2 := Hd (S1.out.next (Below.refl _ _) k1); clear k1)
     go_end0
     exact ⟨rfl, S2.out.wr⟩
 · have hpe : ¬ p.toList = [] := fun e => hp (toList_inj Q60)
   by_cases hke : kids.length = 0
   · have hX : qualT p n ++ (if kids.length = 0 then [] else heldT (kids.map (txt d))) = (([] ++ (p.data.toList ++ [46])) ++ n.data.toList) := by simp [qualT, hpe, hke]
     rw [hX] at hl ⊢
     have h0 := Hd (fun W g (hW : Cx w0 b (l ++ []) W) hg => add2 (w0 := w0) (b := b) p ⟨#[46]⟩ W g hW hg Q63)
     have h1 := Hd (fun W g (hW : Cx w0 b (l ++ ([] ++ (p.data.toList ++ [46]))) W) hg => add1 (w0 := w0) (b := b) n W g hW hg Q63)
     have S0 := Hd (St.start h #[.int .i64 24, .string p, .string n, .int .i64 N, .slice q kids.length c])
     have hke2 : kids.length = 0 := by simpa using hke
     rw [hke2]
     rw [hke2] at S0
     clear h hl hX hw HT hk hke hke2
     have hpb : (p.toList == []) = false := by simpa using hpe
     have hpn : (p.toList != []) = true := by simpa using hpe
     have hpe2 : ¬ p.toList = (⟨#[]⟩ : ByteArray).toList := fun e => hp (toList_inj e)
     clear hp
     go_enter Tryz.func75, Tryz.ntmps75
     go_wp2_with (go_at_call 99; (with_reducible show Calls Tryz.prog 99 #[_, Value.slice _ 2 2] _ _); refine (h0.out _ _ (S0.out.cx.alloc _) (new_at _ _ _ _ (by simp))).mono ?_; rintro e w1 ⟨rfl, k1⟩; have S1 := Hd (S0.out.next (below_alloc _ _) k1); have m1 := S1.out.bx; obtain ⟨b10, b11, b12, b13, b14⟩ := hb5 m1; clear m1; clear k1)
     go_wp2_with (go_at_call 99; refine (h1.out _ _ (S1.out.cx.alloc _) (new_at _ _ _ _ (by simp))).mono ?_; rintro e w2 ⟨rfl, k1⟩; have S2 := Hd (S1.out.next (below_alloc _ _) k1); have m1 := S2.out.bx; obtain ⟨b20, b21, b22, b23, b24⟩ := hb5 m1; clear m1; clear k1)
     go_end0
     exact ⟨rfl, S2.out.wr⟩
   · have hX : qualT p n ++ (if kids.length = 0 then [] else heldT (kids.map (txt d))) = ((([] ++ (p.data.toList ++ [46])) ++ n.data.toList) ++ heldT (kids.map (txt d))) := by simp [qualT, hpe, hke]
     rw [hX] at hl ⊢
     have h0 := Hd (fun W g (hW : Cx w0 b (l ++ []) W) hg => add2 (w0 := w0) (b := b) p ⟨#[46]⟩ W g hW hg Q63)
     have h1 := Hd (fun W g (hW : Cx w0 b (l ++ ([] ++ (p.data.toList ++ [46]))) W) hg => add1 (w0 := w0) (b := b) n W g hW hg Q63)
     have h2 : RowKit.Hid (∀ W, Cx w0 b (l ++ (([] ++ (p.data.toList ++ [46])) ++ n.data.toList)) W → Calls Tryz.prog 142 #[wp b, .slice q kids.length c, .func (.func 75) #[wp b] #[]] W (Tells w0 b (l ++ (([] ++ (p.data.toList ++ [46])) ++ n.data.toList)) (heldT (kids.map (txt d))) W)) := Hd fun W hW => held_any b d HT _ _ kids W hW (Row9.of hk hW.bel) hw Q63
     have S0 := Hd (St.start h #[.int .i64 24, .string p, .string n, .int .i64 N, .slice q kids.length c])
     have hkk : ¬ (kids.length : Int) = 0 := by omega
     clear h hl hX hw HT hk hke
     generalize heldT (kids.map (txt d)) = T0 at *
     have hpb : (p.toList == []) = false := by simpa using hpe
     have hpn : (p.toList != []) = true := by simpa using hpe
     have hpe2 : ¬ p.toList = (⟨#[]⟩ : ByteArray).toList := fun e => hp (toList_inj e)
     clear hp
     go_enter Tryz.func75, Tryz.ntmps75
     go_wp2_with (go_at_call 99; (with_reducible show Calls Tryz.prog 99 #[_, Value.slice _ 2 2] _ _); refine (h0.out _ _ (S0.out.cx.alloc _) (new_at _ _ _ _ (by simp))).mono ?_; rintro e w1 ⟨rfl, k1⟩; have S1 := Hd (S0.out.next (below_alloc _ _) k1); have m1 := S1.out.bx; obtain ⟨b10, b11, b12, b13, b14⟩ := hb5 m1; clear m1; clear k1)
     go_wp2_with (go_at_call 99; refine (h1.out _ _ (S1.out.cx.alloc _) (new_at _ _ _ _ (by simp))).mono ?_; rintro e w2 ⟨rfl, k1⟩; have S2 := Hd (S1.out.next (below_alloc _ _) k1); have m1 := S2.out.bx; obtain ⟨b20, b21, b22, b23, b24⟩ := hb5 m1; clear m1; clear k1)
     go_wp2_with (go_at_call 142; refine (h2.out _ S2.out.cx).mono ?_; rintro e w3 ⟨rfl, k1⟩; have S3 := Hd (S2.out.next (Below.refl _ _) k1); clear k1)
     go_end0
     exact ⟨rfl, S3.out.wr⟩
theorem term_next (d : Nat) (HT : TermC d) : TermC (d + 1) := by
 intro w0 b l v x w h ht hw hl
 obtain ⟨dm, k, p, n, N, q, c, kids, ed, rfl, rfl, hp, hn, hk, hc⟩ := ht.open
 obtain rfl : d = dm := by omega
 obtain ⟨hp1, hn1, hN, hkw, hcs⟩ := hw
 rcases hcs with ⟨rfl, hr⟩ | rfl | ⟨rfl | rfl, hr⟩ | ⟨rfl | rfl, hr⟩ | (rfl | rfl | rfl | rfl | rfl) | (rfl | rfl | rfl) | ⟨rfl, h2⟩ | ⟨rfl, h2⟩ | ⟨rfl, h2⟩ | ⟨rfl, h2⟩ | ⟨rfl, h2⟩ | ⟨rfl, h2⟩
 · have e : txt (d + 1) (.mk 1 p n N kids) = tellT ⟨3, n, 0⟩ := by simp [txt]
   rw [e] at hl ⊢
   exact var_told b d HT l p n N q c kids w h hk hkw hr hn1 hl
 · have e : txt (d + 1) (.mk 11 p n N kids) = [95] := by simp [txt]
   rw [e] at hl ⊢
   exact any_told b d HT l p n N q c kids w h hk hkw hl
 · have e : txt (d + 1) (.mk 13 p n N kids) = tellT ⟨4, ⟨#[]⟩, N⟩ := by simp [txt]
   rw [e] at hl ⊢
   exact int13_told b d HT l p n N q c kids w h hk hkw hr hN hl
 · have e : txt (d + 1) (.mk 22 p n N kids) = tellT ⟨4, ⟨#[]⟩, N⟩ := by simp [txt]
   rw [e] at hl ⊢
   exact int22_told b d HT l p n N q c kids w h hk hkw hr hN hl
 · have e : txt (d + 1) (.mk 14 p n N kids) = tellT ⟨5, n, 0⟩ := by simp [txt]
   rw [e] at hl ⊢
   exact text14_told b d HT l p n N q c kids w h hk hkw hr hn1 hl
 · have e : txt (d + 1) (.mk 23 p n N kids) = tellT ⟨5, n, 0⟩ := by simp [txt]
   rw [e] at hl ⊢
   exact text23_told b d HT l p n N q c kids w h hk hkw hr hn1 hl
 · have e : txt (d + 1) (.mk 12 p n N kids) = qualT p n ++ (if kids.length = 0 then [] else heldT (kids.map (txt d))) := by simp [txt]
   rw [e] at hl ⊢
   exact con12_any b d HT l p n N q c kids w h hk hkw hl
 · have e : txt (d + 1) (.mk 21 p n N kids) = qualT p n ++ (if kids.length = 0 then [] else heldT (kids.map (txt d))) := by simp [txt]
   rw [e] at hl ⊢
   exact con21_any b d HT l p n N q c kids w h hk hkw hl
 · have e : txt (d + 1) (.mk 2 p n N kids) = qualT p n ++ (if kids.length = 0 then [] else heldT (kids.map (txt d))) := by simp [txt]
   rw [e] at hl ⊢
   exact con2_any b d HT l p n N q c kids w h hk hkw hl
 · have e : txt (d + 1) (.mk 15 p n N kids) = qualT p n ++ (if kids.length = 0 then [] else heldT (kids.map (txt d))) := by simp [txt]
   rw [e] at hl ⊢
   exact con15_any b d HT l p n N q c kids w h hk hkw hl
 · have e : txt (d + 1) (.mk 24 p n N kids) = qualT p n ++ (if kids.length = 0 then [] else heldT (kids.map (txt d))) := by simp [txt]
   rw [e] at hl ⊢
   exact con24_any b d HT l p n N q c kids w h hk hkw hl
 · have e : txt (d + 1) (.mk 4 p n N kids) = heldT (kids.map (txt d)) := by simp [txt]
   rw [e] at hl ⊢
   exact tup4_told b d HT l p n N q c kids w h hk hkw hl
 · have e : txt (d + 1) (.mk 16 p n N kids) = heldT (kids.map (txt d)) := by simp [txt]
   rw [e] at hl ⊢
   exact tup16_told b d HT l p n N q c kids w h hk hkw hl
 · have e : txt (d + 1) (.mk 25 p n N kids) = heldT (kids.map (txt d)) := by simp [txt]
   rw [e] at hl ⊢
   exact tup25_told b d HT l p n N q c kids w h hk hkw hl
 · have e : txt (d + 1) (.mk 3 p n N kids) = cmpT 3 n N (kids.map fun x => (x, txt d x)) := by simp [txt]
   rw [e] at hl ⊢
   refine cmp3_told b d HT l p n N q c kids w h hk hkw (fun W hW => ?_) hl
   match kids, h2, hk, hkw, hl with
   | [A, C], _, hk, hkw, hl => exact cmp3_any b d HT l p n N q c A C W hW hk hkw hl
 · have e : txt (d + 1) (.mk 26 p n N kids) = cmpT 26 n N (kids.map fun x => (x, txt d x)) := by simp [txt]
   rw [e] at hl ⊢
   refine cmp26_told b d HT l p n N q c kids w h hk hkw (fun W hW => ?_) hl
   match kids, h2, hk, hkw, hl with
   | [A], _, hk, hkw, hl => exact cmp26_any b d HT l p n N q c A W hW hk hkw hl
 · have e : txt (d + 1) (.mk 27 p n N kids) = cmpT 27 n N (kids.map fun x => (x, txt d x)) := by simp [txt]
   rw [e] at hl ⊢
   refine cmp27_told b d HT l p n N q c kids w h hk hkw (fun W hW => ?_) hl
   match kids, h2, hk, hkw, hl with
   | [A, C], _, hk, hkw, hl => exact cmp27_any b d HT l p n N q c A C W hW hk hkw hl
 · have e : txt (d + 1) (.mk 28 p n N kids) = cmpT 28 n N (kids.map fun x => (x, txt d x)) := by simp [txt]
   rw [e] at hl ⊢
   refine cmp28_told b d HT l p n N q c kids w h hk hkw (fun W hW => ?_) hl
   exact cmp28_any b d HT l p n N q c kids W hW hk hkw h2 (hc (.inl rfl)) hl
 · have e : txt (d + 1) (.mk 29 p n N kids) = cmpT 29 n N (kids.map fun x => (x, txt d x)) := by simp [txt]
   rw [e] at hl ⊢
   refine cmp29_told b d HT l p n N q c kids w h hk hkw (fun W hW => ?_) hl
   exact cmp29_any b d HT l p n N q c kids W hW hk hkw h2 hl
 · have e : txt (d + 1) (.mk 30 p n N kids) = cmpT 30 n N (kids.map fun x => (x, txt d x)) := by simp [txt]
   rw [e] at hl ⊢
   refine cmp30_told b d HT l p n N q c kids w h hk hkw (fun W hW => ?_) hl
   have hc2 := hc (.inr rfl)
   match kids, h2, hk, hkw, hl, hc2 with
   | [A, C], _, hk, hkw, hl, hc2 => exact cmp30_any b d HT l p n N q c A C W hW hk hkw hc2 hl
theorem term_any (d : Nat) : TermC d := by
 induction d with
 | zero => intro w0 b l v x w h ht; cases ht
 | succ d ih => exact term_next d ih
end Go.Proofs.YtmkjalnlldpdcaaGreatDoor
