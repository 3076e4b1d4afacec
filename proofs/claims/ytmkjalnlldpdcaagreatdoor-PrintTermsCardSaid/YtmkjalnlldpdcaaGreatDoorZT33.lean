/- Texts in a row: Vm Vn Ya Yx. -/
import Derived.Test.YtmkjalnlldpdcaaGreatDoorZT29
import Derived.ChangeOld
import Derived.ChangeSlices
import Derived.Deep.Fields
import Derived.Deep.Slices
import Derived.LaidMore
import Derived.Lib.AppendIntMem
import Derived.Lib.LaidTab
import Derived.Lib.SmallJoins
import Derived.OpenShut
import Derived.ProofKit
import Derived.ShutString
import Derived.Stop.Joined
import Derived.Test.YtmkjalnlldpdcaaGreatDoorZT9
import Derived.Test.YtmkjalnlldpdcaaGreatDoorZT13
import Derived.Test.YtmkjalnlldpdcaaGreatDoorZT16
import Derived.Test.YtmkjalnlldpdcaaGreatDoorZT20
import Derived.Test.YtmkjalnlldpdcaaGreatDoorZT27
import Derived.Test.YtmkjalnlldpdcaaGreatDoorZT32
import Derived.Test.YtmkjalnlldpdcaaGreatDoorZT11
import Derived.Test.YtmkjalnlldpdcaaGreatDoorTie
import Derived.ChangeSame
set_option maxHeartbeats 16000000
set_option maxRecDepth 100000
namespace Go.Proofs.YtmkjalnlldpdcaaGreatDoor
open Go.RowKit
set_option linter.unusedSimpArgs false
set_option linter.unusedVariables false
theorem doc10_any (d : Nat) (k : Int) (p n : ByteArray) (N : Int) (q : Option Addr) (c ln : Nat) (x : Tm) (w : World) (h : IsT w d (tv k p n N (.slice q ln c)) x) (hG : Gd d x) (hw : LxW w) (ht : tby d x ≤ 12000) :
 Calls Tryz.prog 10 #[tv k p n N (.slice q ln c)] w fun e w' => e = .returned (.string (if typeB d x = true then ofL (txt d x) else ⟨#[]⟩)) ∧ Below w.heap.size w w' := by
 have hb1 := below_alloc w (.cells #[.int .i64 k, .string p, .string n, .int .i64 N, .slice q ln c] 24)
 have HI := Hd (typeD_any d _ x _ (h.below hb1) hG (hw.below hb1))
 have HX := Hd h
 have HN := Hd (hb_new w (.cells #[.int .i64 k, .string p, .string n, .int .i64 N, .slice q ln c] 24))
 cases hB : typeB d x
 · rw [hB] at HI
   clear h hw hG ht hb1
   go_enter Tryz.func10, Tryz.ntmps10
   go_wp2_with (go_at_call 29; refine HI.out.mono ?_; rintro e w1 ⟨rfl, k1⟩)
   go_ret
   exact ⟨rfl, (below_alloc w _).trans (k1.mono (by simp))⟩
 · rw [hB] at HI
   have h2 : RowKit.Hid (∀ W, Below w.heap.size w W → Calls Tryz.prog 30 #[tv k p n N (.slice q ln c)] W fun e w' => e = .returned (.string (ofL (txt d x))) ∧ Below W.heap.size W w') := Hd fun W hW => typ_any d _ x W (h.below hW) hB hG ht
   clear h hw hG ht hb1
   generalize hTe : txt d x = S at *
   have HTe := Hd hTe
   clear hTe
   go_enter Tryz.func10, Tryz.ntmps10
   go_wp2_with (go_at_call 29; refine HI.out.mono ?_; rintro e w1 ⟨rfl, k1⟩; have HB := Hd ((below_alloc w (.cells #[.int .i64 k, .string p, .string n, .int .i64 N, .slice q ln c] 24)).trans (k1.mono (by simp))); have kb := hb_below HN.out k1 (by simp); obtain ⟨b0, b1, b2, b3, b4⟩ := hb5 kb; clear kb k1)
   go_wp2_with (go_at_call 30; refine (h2.out _ HB.out).mono ?_; rintro e w2 ⟨rfl, k2⟩)
   go_ret
   exact ⟨by simp [HTe.out], HB.out.trans (k2.mono HB.out.size)⟩
theorem doc12_any (d : Nat) (k : Int) (p n : ByteArray) (N : Int) (q : Option Addr) (c ln : Nat) (x : Tm) (w : World) (h : IsT w d (tv k p n N (.slice q ln c)) x) (hG : Gd d x) (hw : LxW w) (ht : tby d x ≤ 12000) :
 Calls Tryz.prog 12 #[tv k p n N (.slice q ln c)] w fun e w' => e = .returned (.string (if patB d x = true then ofL (txt d x) else ⟨#[]⟩)) ∧ Below w.heap.size w w' := by
 have hb1 := below_alloc w (.cells #[.int .i64 k, .string p, .string n, .int .i64 N, .slice q ln c] 24)
 have HI := Hd (patD_any d _ x _ (h.below hb1) hG (hw.below hb1))
 have HX := Hd h
 have HN := Hd (hb_new w (.cells #[.int .i64 k, .string p, .string n, .int .i64 N, .slice q ln c] 24))
 cases hB : patB d x
 · rw [hB] at HI
   clear h hw hG ht hb1
   go_enter Tryz.func12, Tryz.ntmps12
   go_wp2_with (go_at_call 32; refine HI.out.mono ?_; rintro e w1 ⟨rfl, k1⟩)
   go_ret
   exact ⟨rfl, (below_alloc w _).trans (k1.mono (by simp))⟩
 · rw [hB] at HI
   have h2 : RowKit.Hid (∀ W, Below w.heap.size w W → Calls Tryz.prog 33 #[tv k p n N (.slice q ln c)] W fun e w' => e = .returned (.string (ofL (txt d x))) ∧ Below W.heap.size W w') := Hd fun W hW => pat_any9 d _ x W (h.below hW) hB hG ht
   clear h hw hG ht hb1
   generalize hTe : txt d x = S at *
   have HTe := Hd hTe
   clear hTe
   go_enter Tryz.func12, Tryz.ntmps12
   go_wp2_with (go_at_call 32; refine HI.out.mono ?_; rintro e w1 ⟨rfl, k1⟩; have HB := Hd ((below_alloc w (.cells #[.int .i64 k, .string p, .string n, .int .i64 N, .slice q ln c] 24)).trans (k1.mono (by simp))); have kb := hb_below HN.out k1 (by simp); obtain ⟨b0, b1, b2, b3, b4⟩ := hb5 kb; clear kb k1)
   go_wp2_with (go_at_call 33; refine (h2.out _ HB.out).mono ?_; rintro e w2 ⟨rfl, k2⟩)
   go_ret
   exact ⟨by simp [HTe.out], HB.out.trans (k2.mono HB.out.size)⟩
end Go.Proofs.YtmkjalnlldpdcaaGreatDoor
namespace Go.Proofs.YtmkjalnlldpdcaaGreatDoor
open Go.ChangeShapes Go.WideShapes Go.ChangeAt Go.RowKit Go.Joins Go.Deep
set_option linter.unusedSimpArgs false
set_option linter.unusedVariables false
def Nf : Nat → Tm → Prop
 | 0, _ => True
 | d + 1, .mk _ _ _ N kids => (-9223372036854775808 ≤ N ∧ N ≤ 9223372036854775807) ∧ ∀ x ∈ kids, Nf d x
theorem gd_of : ∀ (d : Nat) (t : Tm), Nm d t → Nf d t → Gd d t := by
 intro d
 induction d with
 | zero => intro t _ _; trivial
 | succ d ih =>
  intro t h1 h2
  obtain ⟨k, p, n, N, kids⟩ := t
  obtain ⟨a1, a2, a3⟩ := h1
  obtain ⟨b1, b2⟩ := h2
  exact ⟨a1, a2, b1, fun x hx => ih x (a3 x hx) (b2 x hx)⟩
section
variable {H : Type} {enc : TypeId × Value → H} {W : World} {base : Nat} {v : Value} {d : DataW H} {p : List MemPlace}
theorem trod_termC2 : ∀ (fuel : Nat) (cs : List Value) (x : DataW H × List MemPlace), DataW.trod enc Tryz.prog W 0 (fun _ => true) true fuel 24 cs = some x →
 ∃ (k : Int) (p n : ByteArray) (N : Int) (s : Value) (t : Tm), cs = [.int .i64 k, .string p, .string n, .int .i64 N, s] ∧ IsC W fuel (tv k p n N s) t ∧ ∀ D, Nf D t := by
 intro fuel
 induction fuel using Nat.strongRecOn with
 | _ fuel ih =>
  intro cs x h
  obtain ⟨xs, m, rfl, _, hl, hx5, hf⟩ := DataW.trod_struct Tryz.underlying24 h
  rw [cells24] at hl
  match cs, hl with
  | [c0, c1, c2, c3, c4], _ =>
   have hx5' : xs.length = 5 := hx5
   have g0 : DataW.trod enc Tryz.prog W 0 (fun _ => true) true m 3 (([c0, c1, c2, c3, c4].drop 0).take (Tryz.prog.cellsOf 3)) = xs[0]? := hf 0 _ rfl
   have g1 : DataW.trod enc Tryz.prog W 0 (fun _ => true) true m 9 (([c0, c1, c2, c3, c4].drop 1).take (Tryz.prog.cellsOf 9)) = xs[1]? := hf 1 _ rfl
   have g2 : DataW.trod enc Tryz.prog W 0 (fun _ => true) true m 9 (([c0, c1, c2, c3, c4].drop 2).take (Tryz.prog.cellsOf 9)) = xs[2]? := hf 2 _ rfl
   have g3 : DataW.trod enc Tryz.prog W 0 (fun _ => true) true m 3 (([c0, c1, c2, c3, c4].drop 3).take (Tryz.prog.cellsOf 3)) = xs[3]? := hf 3 _ rfl
   have g4 : DataW.trod enc Tryz.prog W 0 (fun _ => true) true m 22 (([c0, c1, c2, c3, c4].drop 4).take (Tryz.prog.cellsOf 22)) = xs[4]? := hf 4 _ rfl
   rw [cells3, List.getElem?_eq_getElem (by omega)] at g0 g3
   rw [cells9, List.getElem?_eq_getElem (by omega)] at g1 g2
   rw [cells22, List.getElem?_eq_getElem (by omega)] at g4
   obtain ⟨k, e0, _, _⟩ := DataW.trod_int Tryz.underlying3 g0
   obtain ⟨p, e1, _, hp⟩ := DataW.trod_string Tryz.underlying9 g1
   obtain ⟨n, e2, _, hn⟩ := DataW.trod_string Tryz.underlying9 g2
   obtain ⟨N, e3, _, w3⟩ := DataW.trod_int Tryz.underlying3 g3
   have b3 := bounds_i64 w3
   simp at e0 e1 e2 e3
   subst e0 e1 e2 e3
   suffices hk : ∃ kids, KidsC W m c4 kids ∧ (∀ q l c, c4 = .slice q l c → l ≤ c) ∧ ∀ x ∈ kids, ∀ D, Nf D x by
    obtain ⟨kids, hk, hc, hnf⟩ := hk
    refine ⟨k, p, n, N, c4, .mk k p n N kids, rfl, IsC.shut hp hn hk hc, fun D => ?_⟩
    cases D with
    | zero => trivial
    | succ D => exact ⟨b3, fun x hx => hnf x hx D⟩
   rcases DataW.trod_slice Tryz.underlying22 g4 with ⟨hcs, _⟩ | ⟨a, len, cap, elems, rest, n', hm', hcs, _, _, hl2, hm, hlen, hel, _, _⟩
   · simp at hcs
     subst hcs
     exact ⟨[], ⟨none, 0, rfl, Nat.zero_le _, fun i y hy => by simp at hy⟩, fun q l c e => by cases e; exact Nat.le_refl _, fun x hx => by simp at hx⟩
   · simp at hcs
     subst hcs
     by_cases hz : len = 0
     · subst hz
       exact ⟨[], ⟨some a, cap, rfl, Nat.zero_le _, fun i y hy => by simp at hy⟩, fun q l c e => by cases e; exact Nat.zero_le _, fun x hx => by simp at hx⟩
     have hi : ∀ i, i < len → ∃ cs' y, W.cells? 0 (a.add (i * 5)) 5 = some cs' ∧ DataW.trod enc Tryz.prog W 0 (fun _ => true) true n' 24 cs' = some y := fun i hi => by
       have he := hel i hi
       rw [cells24, List.getElem?_eq_getElem (by omega)] at he
       obtain ⟨cs', h1, h2⟩ := Option.bind_eq_some_iff.1 he
       exact ⟨cs', _, h1, h2⟩
     obtain ⟨b1, o1, rfl⟩ : ∃ b1 o1, a = ⟨b1, o1, none⟩ := by
       obtain ⟨cs, _, hc, _⟩ := hi 0 (by omega)
       obtain ⟨_, hcl, hat⟩ := World.cells?_some hc
       have h0 := hat 0 (by omega)
       rw [List.getElem?_eq_getElem (by omega)] at h0
       have h1 := World.cell?_spot h0
       obtain ⟨b1, o1, sp⟩ := a
       have h2 : sp = none := by simpa [Addr.add] using h1
       exact ⟨b1, o1, by rw [h2]⟩
     obtain ⟨l, hll, hpl⟩ := pick_list (P := fun i (t : Tm) => ∃ k' p' n2 N' s', TAt W b1 (o1 + i * 5) k' p' n2 N' s' ∧ IsC W m (tv k' p' n2 N' s') t ∧ ∀ D, Nf D t) len (fun i hi2 => by
       obtain ⟨cs, y, hc, ht⟩ := hi i hi2
       obtain ⟨_, hcl, hat⟩ := World.cells?_some hc
       obtain ⟨k', p', n2, N', s', t, rfl, ht2, hnf2⟩ := ih n' (by omega) cs _ ht
       have a0 := hat 0 (by omega)
       have a1 := hat 1 (by omega)
       have a2 := hat 2 (by omega)
       have a3 := hat 3 (by omega)
       have a4 := hat 4 (by omega)
       simp only [Addr.add_lit, Nat.add_zero] at a0 a1 a2 a3 a4
       exact ⟨t, k', p', n2, N', s', ⟨a0, a1, a2, a3, a4⟩, ht2.more (by omega), hnf2⟩)
     refine ⟨l, ⟨some ⟨b1, o1, none⟩, cap, by rw [hll], by omega, fun i y hy => ?_⟩, fun q l' c e => by cases e; omega, fun x hx => ?_⟩
     · obtain ⟨k', p', n2, N', s', h1, h2, _⟩ := hpl i y hy
       exact ⟨b1, o1, k', p', n2, N', s', rfl, h1, h2⟩
     · obtain ⟨i, hi', he⟩ := List.getElem_of_mem hx
       obtain ⟨k', p', n2, N', s', h1, h2, h3⟩ := hpl i x (by rw [List.getElem?_eq_getElem hi', he])
       exact h3
theorem arg_c2 (hval : Value.okWide Tryz.prog W .any base 24 v) (h : DataW.Trod enc Tryz.prog W 0 (fun _ => true) true 24 v d p) : ∃ (m : Nat) (t : Tm), IsC W m v t ∧ ∀ D, Nf D t := by
 obtain ⟨cs, rfl, hsz⟩ := okWide_struct Tryz.underlying24 hval
 obtain ⟨fuel, hf⟩ := h
 obtain ⟨k, p', n, N, s, t, e, ht⟩ := trod_termC2 fuel _ _ hf
 obtain ⟨l⟩ := cs
 simp [Value.cells] at e
 subst e
 exact ⟨fuel, t, ht⟩
end
end Go.Proofs.YtmkjalnlldpdcaaGreatDoor
namespace Go.Proofs.YtmkjalnlldpdcaaGreatDoor
open Go.RowKit
set_option linter.unusedSimpArgs false
set_option linter.unusedVariables false
theorem terms_walk (d : Nat) (va : Value) (ta : Tm) (w : World) (ha : IsC w d va ta) (hnf : ∀ D, Nf D ta) (hw : LxW w) : Calls Tryz.prog 3 #[va] w fun e w' => e = .returned (.bool true) ∧ Below w.heap.size w w' := by
 obtain ⟨d1, k, p, n, NN, q, c, kids, e1, eta, rfl, _, _, hk, _⟩ := ha.open
 have HT := Hd ha
 have HNF := Hd (hnf d)
 have HW := Hd hw
 generalize kids.length = ln at *
 clear e1 eta ha hw hnf hk
 have HF := Hd (few3_any d _ ta _ (HT.out.below (below_alloc w (.cells #[.int .i64 k, .string p, .string n, .int .i64 NN, .slice q ln c] 24))).isT)
 have hnew := hb_new w (.cells #[.int .i64 k, .string p, .string n, .int .i64 NN, .slice q ln c] 24)
 have K0 := Hd hnew
 clear hnew
 go_enter Tryz.func3, Tryz.ntmps3
 go_upto_region 1 with (fail)
 go_wp2_with fail
 go_at_call 7
 with_reducible refine HF.out.mono ?_
 rintro e w3 ⟨r, rfl, hr, hb⟩
 have HR := Hd hr
 have HB3 := Hd ((below_alloc w _).trans (hb.mono (by simp)))
 have hk3 := hb_below K0.out hb (by simp)
 obtain ⟨x0, x1, x2, x3, x4⟩ := hb5 hk3
 clear hr hb hk3
 cases r
 · go_wp2_with (go_at_call 8; ((with_reducible refine (alive_any _ (HW.out.below HB3.out)).mono ?_); rintro e w4 ⟨rfl, hb⟩))
   go_ret
   exact ⟨rfl, HB3.out.trans (hb.mono HB3.out.size)⟩
 · have hG := gd_of d ta (HR.out rfl).1 HNF.out
   have ht := (HR.out rfl).2
   have H9 := Hd (fun W (hb : Below w.heap.size w W) => print9_any d k p n NN q c ln ta W (HT.out.below hb) hG (HW.out.below hb) (ok_type hG ht))
   have H10 := Hd (fun W (hb : Below w.heap.size w W) => doc10_any d k p n NN q c ln ta W (HT.out.below hb).isT hG (HW.out.below hb) ht)
   have H11 := Hd (fun W (hb : Below w.heap.size w W) => print11_any d k p n NN q c ln ta W (HT.out.below hb) hG (HW.out.below hb) (ok_pat hG ht))
   have H12 := Hd (fun W (hb : Below w.heap.size w W) => doc12_any d k p n NN q c ln ta W (HT.out.below hb).isT hG (HW.out.below hb) ht)
   have H13 := Hd (fun W (hb : Below w.heap.size w W) => print13_any d k p n NN q c ln ta W (HT.out.below hb) hG (HW.out.below hb) (ok_expr hG ht))
   have H14 := Hd (fun W (hb : Below w.heap.size w W) => doc14_any d k p n NN q c ln ta W (HT.out.below hb).isT hG (HW.out.below hb) ht)
   generalize (if typeB d ta = true then ofL (txt d ta) else ⟨#[]⟩) = s1 at *
   generalize (if patB d ta = true then ofL (txt d ta) else ⟨#[]⟩) = s2 at *
   generalize (if exprB d ta = true then ofL (txt d ta) else ⟨#[]⟩) = s3 at *
   clear hG ht
   go_wp2_with fail
   refine wp_region_held_drew (S := (fun w' => RowKit.Hid (Below w3.heap.size w3 w') ∧ w'.cell? ⟨w.heap.size, 0, none⟩ = some (.int .i64 k) ∧ w'.cell? ⟨w.heap.size, 1, none⟩ = some (.string p) ∧ w'.cell? ⟨w.heap.size, 2, none⟩ = some (.string n) ∧ w'.cell? ⟨w.heap.size, 3, none⟩ = some (.int .i64 NN) ∧ w'.cell? ⟨w.heap.size, 4, none⟩ = some (.slice q ln c))) Q70 Q37 (fun hHeld => ?_)
   refine tk 0 7 ?_
   refine tk 2 9 ?_
   refine wpAnyH_ready (rs := [1]) Q70 (by simp) ?_
   refine AllReadyH.cons (o := ⟨some 8, _, _, _, _, _⟩) rfl (fun K hK => ?_) AllReadyH.nil
   go_simp
   (with_reducible refine (H9.out _ (HB3.out.trans (hHeld.1.out.mono HB3.out.size))).mono ?_); rintro e v1 ⟨rfl, hb⟩
   go_wp2_with fail
   refine hK.out _ _ Q23 (fun hNew => ?_)
   clear hK K
   clear hHeld hb; have hHeld := hNew; clear hNew
   try simp only [Act.put, List.setIfInBounds_toArray, List.set_cons_zero, List.set_cons_succ]
   refine wpAnyH_ready (rs := [3]) Q70 (by simp) ?_
   refine AllReadyH.cons (o := ⟨some 10, _, _, _, _, _⟩) rfl (fun K hK => ?_) AllReadyH.nil
   go_simp
   (with_reducible refine (H10.out _ (HB3.out.trans (hHeld.1.out.mono HB3.out.size))).mono ?_); rintro e v2 ⟨rfl, hb⟩
   go_wp2_with fail
   refine hK.out _ _ Q23 (fun hNew => ?_)
   clear hK K
   clear hHeld hb; have hHeld := hNew; clear hNew
   try simp only [Act.put, List.setIfInBounds_toArray, List.set_cons_zero, List.set_cons_succ]
   refine wpAnyH_take (i := 4) (oi := ⟨some 11, _, _, _, _, _⟩) (v := .bool true) rfl Q70 Q70 Q70 (fun _ _ _ h => h) (Or.inl ⟨by rfl, ?_⟩) Q71 ?_
   focus (intro w hSw; (try dsimp only at hSw); go_simp; first | done | rfl | (rw [show (s1.toList == s1.toList) = true from by simp]; done) | (rw [show (s1.toList == s1.toList) = true from by simp]; rfl) | simp)
   try simp only [Act.put, List.setIfInBounds_toArray, List.set_cons_zero, List.set_cons_succ]
   refine tk 5 12 ?_
   refine tk 6 13 ?_
   refine tk 8 15 ?_
   refine wpAnyH_ready (rs := [7]) Q70 (by simp) ?_
   refine AllReadyH.cons (o := ⟨some 14, _, _, _, _, _⟩) rfl (fun K hK => ?_) AllReadyH.nil
   go_simp
   (with_reducible refine (H11.out _ (HB3.out.trans (hHeld.1.out.mono HB3.out.size))).mono ?_); rintro e v3 ⟨rfl, hb⟩
   go_wp2_with fail
   refine hK.out _ _ Q23 (fun hNew => ?_)
   clear hK K
   clear hHeld hb; have hHeld := hNew; clear hNew
   try simp only [Act.put, List.setIfInBounds_toArray, List.set_cons_zero, List.set_cons_succ]
   refine wpAnyH_ready (rs := [9]) Q70 (by simp) ?_
   refine AllReadyH.cons (o := ⟨some 16, _, _, _, _, _⟩) rfl (fun K hK => ?_) AllReadyH.nil
   go_simp
   (with_reducible refine (H12.out _ (HB3.out.trans (hHeld.1.out.mono HB3.out.size))).mono ?_); rintro e v4 ⟨rfl, hb⟩
   go_wp2_with fail
   refine hK.out _ _ Q23 (fun hNew => ?_)
   clear hK K
   clear hHeld hb; have hHeld := hNew; clear hNew
   try simp only [Act.put, List.setIfInBounds_toArray, List.set_cons_zero, List.set_cons_succ]
   refine wpAnyH_take (i := 10) (oi := ⟨some 17, _, _, _, _, _⟩) (v := .bool true) rfl Q70 Q70 Q70 (fun _ _ _ h => h) (Or.inl ⟨by rfl, ?_⟩) Q71 ?_
   focus (intro w hSw; (try dsimp only at hSw); go_simp; first | done | rfl | (rw [show (s2.toList == s2.toList) = true from by simp]; done) | (rw [show (s2.toList == s2.toList) = true from by simp]; rfl) | simp)
   try simp only [Act.put, List.setIfInBounds_toArray, List.set_cons_zero, List.set_cons_succ]
   refine tk 11 18 ?_
   refine tk 12 19 ?_
   refine tk 13 20 ?_
   refine tk 15 22 ?_
   refine wpAnyH_ready (rs := [14]) Q70 (by simp) ?_
   refine AllReadyH.cons (o := ⟨some 21, _, _, _, _, _⟩) rfl (fun K hK => ?_) AllReadyH.nil
   go_simp
   (with_reducible refine (H13.out _ (HB3.out.trans (hHeld.1.out.mono HB3.out.size))).mono ?_); rintro e v5 ⟨rfl, hb⟩
   go_wp2_with fail
   refine hK.out _ _ Q23 (fun hNew => ?_)
   clear hK K
   clear hHeld hb; have hHeld := hNew; clear hNew
   try simp only [Act.put, List.setIfInBounds_toArray, List.set_cons_zero, List.set_cons_succ]
   refine wpAnyH_ready (rs := [16]) Q70 (by simp) ?_
   refine AllReadyH.cons (o := ⟨some 23, _, _, _, _, _⟩) rfl (fun K hK => ?_) AllReadyH.nil
   go_simp
   (with_reducible refine (H14.out _ (HB3.out.trans (hHeld.1.out.mono HB3.out.size))).mono ?_); rintro e v6 ⟨rfl, hb⟩
   go_wp2_with fail
   refine hK.out _ _ Q23 (fun hNew => ?_)
   clear hK K
   clear hHeld hb; have hHeld := hNew; clear hNew
   try simp only [Act.put, List.setIfInBounds_toArray, List.set_cons_zero, List.set_cons_succ]
   refine wpAnyH_take (i := 17) (oi := ⟨some 24, _, _, _, _, _⟩) (v := .bool true) rfl Q70 Q70 Q70 (fun _ _ _ h => h) (Or.inl ⟨by rfl, ?_⟩) Q71 ?_
   focus (intro w hSw; (try dsimp only at hSw); go_simp; first | done | rfl | (rw [show (s3.toList == s3.toList) = true from by simp]; done) | (rw [show (s3.toList == s3.toList) = true from by simp]; rfl) | simp)
   try simp only [Act.put, List.setIfInBounds_toArray, List.set_cons_zero, List.set_cons_succ]
   refine tk 18 25 ?_
   refine tk 19 26 ?_
   refine wpAnyH_ready (rs := [20]) Q70 (by simp) ?_
   refine AllReadyH.cons (o := ⟨some 27, _, _, _, _, _⟩) rfl (fun K hK => ?_) AllReadyH.nil
   go_simp
   (with_reducible refine (alive_any _ (HW.out.below (HB3.out.trans (hHeld.1.out.mono HB3.out.size)))).mono ?_); rintro e v9 ⟨rfl, hb⟩
   go_wp2_with fail
   refine hK.out _ _ Q23 (fun hNew => ?_)
   clear hK K
   clear hHeld hb; have hHeld := hNew; clear hNew
   try simp only [Act.put, List.setIfInBounds_toArray, List.set_cons_zero, List.set_cons_succ]
   refine tk 21 28 ?_
   refine tk 22 2 ?_
   refine wpAnyH_done Q70 ?_ _
   have HQ := Hd hHeld.1.out
   clear hHeld
   go_wp2
   go_ret
   exact ⟨rfl, HB3.out.trans (HQ.out.mono HB3.out.size)⟩
end Go.Proofs.YtmkjalnlldpdcaaGreatDoor
namespace Go.Proofs.YtmkjalnlldpdcaaGreatDoor
open Go.ChangeShapes Go.WideShapes Go.ChangeAt Go.RowKit Go.Joins Go.Deep
open Go.ChangeMaps (open_string shut_string)
set_option linter.unusedSimpArgs false
set_option linter.unusedVariables false
theorem ownKn : ownKnob Tryz.prog.godebug = none := by kernel_rfl
theorem laidTry : laidOutB Tryz.prog = true := by kernel_rfl
theorem gE : Tryz.prog.globalNamed "touchstone/lex.escapes" = some 0 := by kernel_rfl
theorem tE : (Tryz.prog.globals[0]?).map (·.type) = some 230 := by kernel_rfl
theorem gP : Tryz.prog.globalNamed "internal/strconv.uint64pow10" = some 1 := by kernel_rfl
theorem tP : (Tryz.prog.globals[1]?).map (·.type) = some 242 := by kernel_rfl
theorem dP : (Rows.laid_internal_strconv_uint64pow10 : DataW Unit) = Lib.tabData .u64 Lib.pow10Tab := by kernel_rfl
theorem cells230 : Tryz.prog.cellsOf 230 = 8 := by kernel_rfl
theorem cells229 : Tryz.prog.cellsOf 229 = 2 := by kernel_rfl
theorem cells5 : Tryz.prog.cellsOf 5 = 1 := by kernel_rfl
theorem pair_cells {fuel : Nat} {W : World} {c0 c1 : Value} {x y : Int} {p : List MemPlace} (h : DataW.trod (fun _ => ()) Tryz.prog W 0 (fun _ => true) false fuel 229 [c0, c1] = some (.agg [.lit (.int .u8 x), .lit (.int .u8 y)], p)) : c0 = .int .u8 x ∧ c1 = .int .u8 y := by
 obtain ⟨ys, n, _, hx, _, hys, hfs⟩ := DataW.trod_struct Tryz.underlying229 h
 have hy2 : ys.length = 2 := hys
 match ys, hy2 with
 | [y0, y1], _ =>
  have g0 : DataW.trod (fun _ => ()) Tryz.prog W 0 (fun _ => true) false n 5 (([c0, c1].drop 0).take (Tryz.prog.cellsOf 5)) = some y0 := hfs 0 _ rfl
  have g1 : DataW.trod (fun _ => ()) Tryz.prog W 0 (fun _ => true) false n 5 (([c0, c1].drop 1).take (Tryz.prog.cellsOf 5)) = some y1 := hfs 1 _ rfl
  rw [cells5] at g0 g1
  obtain ⟨z0, e0, f0, _⟩ := DataW.trod_int Tryz.underlying5 g0
  obtain ⟨z1, e1, f1, _⟩ := DataW.trod_int Tryz.underlying5 g1
  subst f0 f1
  simp at hx e0 e1
  obtain ⟨⟨h1, h2⟩, _⟩ := hx
  subst h1 h2 e0 e1
  exact ⟨rfl, rfl⟩
theorem esc_cells {fuel : Nat} {W : World} {cs : List Value} {p : List MemPlace} (h : DataW.trod (fun _ => ()) Tryz.prog W 0 (fun _ => true) false fuel 230 cs = some (Rows.laid_touchstone_lex_escapes, p)) :
 cs = [.int .u8 92, .int .u8 92, .int .u8 34, .int .u8 34, .int .u8 110, .int .u8 10, .int .u8 116, .int .u8 9] := by
 obtain ⟨xs, m, _, hx, hl, hxl, hf⟩ := DataW.trod_array Tryz.underlying230 h
 rw [cells230] at hl
 match cs, hl, xs, hxl with
 | [c0, c1, c2, c3, c4, c5, c6, c7], _, [x0, x1, x2, x3], _ =>
  have f0 := hf 0 (by omega)
  have f1 := hf 1 (by omega)
  have f2 := hf 2 (by omega)
  have f3 := hf 3 (by omega)
  rw [cells229] at f0 f1 f2 f3
  unfold Rows.laid_touchstone_lex_escapes at hx
  simp only [List.map_cons, List.map_nil, Prod.mk.injEq, DataW.agg.injEq, List.cons.injEq, and_true] at hx
  obtain ⟨⟨h0, h1, h2, h3⟩, _⟩ := hx
  obtain ⟨d0, p0⟩ := x0
  obtain ⟨d1, p1⟩ := x1
  obtain ⟨d2, p2⟩ := x2
  obtain ⟨d3, p3⟩ := x3
  simp only [] at h0 h1 h2 h3
  subst h0 h1 h2 h3
  obtain ⟨rfl, rfl⟩ := pair_cells f0
  obtain ⟨rfl, rfl⟩ := pair_cells f1
  obtain ⟨rfl, rfl⟩ := pair_cells f2
  obtain ⟨rfl, rfl⟩ := pair_cells f3
  rfl
theorem tabs_of {W : World} (h : laidMetH Tryz.prog Rows.printTermsRow.laid W) : LxW W := by
 rw [MakeChecks.laidMetH_plain _ _ _ Q70] at h
 obtain ⟨ps, ⟨g0, t0, cs0, f0, p0, q0, _, _, _, _, ⟨g1, t1, cs1, f1, p1, q1, _, _, _, _, ⟨g2, t2, cs2, f2, p2, q2, hg2, ht2, hv2, hd2, ⟨g3, t3, cs3, f3, p3, q3, _, _, _, _, ⟨g4, t4, cs4, f4, p4, q4, _, _, _, _, ⟨g5, t5, cs5, f5, p5, q5, hg5, ht5, hv5, hd5, _, e5⟩, e4⟩, e3⟩, e2⟩, e1⟩, e0⟩, _, hps⟩ := h
 constructor
 · obtain rfl := Option.some.inj (gE.symm.trans hg5)
   obtain rfl := Option.some.inj (tE.symm.trans ht5)
   have hc := esc_cells hd5
   have hsz : cs5.size = 8 := by
    have := congrArg List.length hc
    simpa using this
   have hmem : MemPlace.cell 0 0 ∈ ps := by
    rw [e0, e1, e2, e3, e4, e5]
    simp only [List.mem_append]
    refine .inr (.inr (.inr (.inr (.inr (.inl (.inl ?_))))))
    rw [hsz]
    decide
   obtain ⟨⟨c, t, hh⟩, _⟩ := hps 0 0 hmem
   refine ⟨t, ?_⟩
   unfold World.var? at hv5
   rw [gE] at hv5
   simp only [Option.bind_some, hh, Option.some.injEq] at hv5
   subst hv5
   rw [hh]
   congr 2
   apply Array.ext'
   exact hc
 · obtain rfl := Option.some.inj (gP.symm.trans hg2)
   obtain rfl := Option.some.inj (tP.symm.trans ht2)
   rw [dP] at hd2
   have hc := Lib.cells_of_tab Tryz.underlying242 Tryz.underlying232 Q70 Q70 hd2
   refine Lib.tabBelow_of_tabIs ?_
   unfold Lib.TabIs
   rw [hv2, ← hc]
end Go.Proofs.YtmkjalnlldpdcaaGreatDoor
