/- Contracts: the document's Print. -/
import Derived.Test.YtmgnbpgcbehidaaDoorA4
import Derived.Test.YtmgnbpgcbehidaaDoorC7
import Derived.Deep.RegionHeld3
import Derived.Outline
import Derived.Deep.DeepCutAuto
namespace Go.Proofs.YtmgnbpgcbehidaaDoor
open Go.RowKit
namespace Sv
def dg (n : Int) : List UInt8 := Lib.decDigits n.toNat
def txt (v : V) : List UInt8 := dg v.a ++ [46] ++ dg v.b ++ [46] ++ dg v.c
def printS (v : V) : ByteArray := if right v then ⟨(txt v).toArray⟩ else ⟨#[]⟩
theorem print_no {v : V} (h : right v = false) : printS v = ⟨#[]⟩ := by unfold printS; rw [h]; rfl
theorem print_yes {v : V} (h : right v = true) : printS v = ⟨(txt v).toArray⟩ := by unfold printS; rw [h]; rfl
theorem right_yes {v : V} (h : right v = true) : (0 ≤ v.a ∧ v.a ≤ 999999) ∧ (0 ≤ v.b ∧ v.b ≤ 999999) ∧ (0 ≤ v.c ∧ v.c ≤ 999999) := by
  unfold right at h
  simp only [Bool.and_eq_true] at h
  exact ⟨inR_yes h.1.1, inR_yes h.1.2, inR_yes h.2⟩
theorem dg_len {n : Int} (h0 : 0 ≤ n) (h : n ≤ 999999) : (dg n).length ≤ 6 := dd_len 5 n.toNat (by omega)
end Sv
theorem keep_cell {w w' : World} {a : Addr} {v : Value} (hb : Below w.heap.size w w') (h : w.cell? a = some v) : w'.cell? a = some v := by
  rw [hb.cell (block_lt_of_cell h), h]
abbrev dgS (n : Int) : ByteArray := ⟨(Sv.dg n).toArray⟩
theorem decI_any (n : Int) (h0 : 0 ≤ n) (h : n ≤ 999999) (w : World) : Calls Tryd.prog 26 #[.int .i64 n] w fun e w' => e = .returned (.string (dgS n)) ∧ Below w.heap.size w w' := by
  have h2 := dec_any n.toNat (by omega) w
  rw [Int.toNat_of_nonneg h0] at h2
  exact h2
theorem dgS_size {n : Int} (h0 : 0 ≤ n) (h : n ≤ 999999) : (dgS n).size ≤ 6 := by
  have := Sv.dg_len h0 h
  show (Sv.dg n).toArray.size ≤ 6
  rwa [List.size_toArray]
set_option maxRecDepth 100000 in
set_option maxHeartbeats 2000000 in
theorem refPrint_any (x : Sv.V) (w : World) : Calls Tryd.prog 11 #[vv x] w fun e w' => e = .returned (.string (Sv.printS x)) ∧ Below w.heap.size w w' := by
  have hb1 := hb_new w (.cells #[.int .i64 x.a, .int .i64 x.b, .int .i64 x.c] 23)
  have HB := Lib.hid hb1
  have HB0 : RowKit.Hid (Below w.heap.size w (w.alloc (.cells #[.int .i64 x.a, .int .i64 x.b, .int .i64 x.c] 23))) := Lib.hid (below_alloc w _)
  have HLT : RowKit.Hid (w.heap.size < (w.alloc (.cells #[.int .i64 x.a, .int .i64 x.b, .int .i64 x.c] 23)).heap.size) := Lib.hid (by simp)
  clear hb1
  rcases Bool.eq_false_or_eq_true (Sv.right x) with hr | hr
  rotate_left
  · have HR := Lib.hid hr
    clear hr
    go_enter Tryd.func11, Tryd.ntmps11
    go_wp2_with (go_at_call 13; ((with_reducible refine (refRight_any x _).mono ?_); rintro e w1 ⟨rfl, hb⟩; rw [HR.out]))
    go_ret
    exact ⟨by rw [Sv.print_no HR.out]; rfl, HB0.out.trans (hb.mono HB0.out.size)⟩
  · have HR := Lib.hid hr
    clear hr
    go_enter Tryd.func11, Tryd.ntmps11
    go_upto_region 3 with (go_at_call 13; ((with_reducible refine (refRight_any x _).mono ?_); rintro e w1 ⟨rfl, hb⟩; rw [HR.out]))
    have HX := Lib.hid (hb_below HB.out hb HLT.out)
    have HW := Lib.hid (HB0.out.trans (hb.mono HB0.out.size))
    clear hb
    obtain ⟨⟨a0, a1⟩, ⟨b0, b1⟩, ⟨c0, c1⟩⟩ := Sv.right_yes HR.out
    have HA := Lib.hid (decI_any x.a a0 a1)
    have HBB := Lib.hid (decI_any x.b b0 b1)
    have HC := Lib.hid (decI_any x.c c0 c1)
    have HT : RowKit.Hid (dgS x.a ++ ⟨#[46]⟩ ++ dgS x.b ++ ⟨#[46]⟩ ++ dgS x.c = Sv.printS x) := Lib.hid (by
      rw [Sv.print_yes HR.out]
      apply ByteArray.ext
      simp [Sv.txt, dgS])
    have s1 := dgS_size a0 a1
    have s2 := dgS_size b0 b1
    have s3 := dgS_size c0 c1
    clear a0 a1 b0 b1 c0 c1
    generalize dgS x.a = A at *
    generalize dgS x.b = B at *
    generalize dgS x.c = C at *
    have x0 := hb_at HX.out 0 rfl
    have x1 := hb_at HX.out 1 rfl
    have x2 := hb_at HX.out 2 rfl
    refine wp_region_held_drew (S := (fun w' => RowKit.Hid (Below w1.heap.size w1 w') ∧ w'.cell? ⟨w.heap.size, 0, none⟩ = some (.int .i64 x.a) ∧ w'.cell? ⟨w.heap.size, 1, none⟩ = some (.int .i64 x.b) ∧ w'.cell? ⟨w.heap.size, 2, none⟩ = some (.int .i64 x.c))) (by kernel_rfl) (by exact ⟨Lib.hid (below_drewN (Below.refl _ _) 1), x0, x1, x2⟩) (fun hHeld => ?_)
    refine wpAnyH_take (i := 0) (oi := ⟨some 6, _, _, _, _, _⟩) (v := ?_) rfl (by kernel_rfl) (by kernel_rfl) (by kernel_rfl) (fun _ _ _ h => h) (Or.inl ⟨by rfl, ?_⟩) (by assumption) ?_
    rotate_left
    focus (intro w hSw; (try dsimp only at hSw); go_simp; first | done | with_reducible rfl)
    try simp only [Act.put, List.setIfInBounds_toArray, List.set_cons_zero, List.set_cons_succ]
    refine wpAnyH_take (i := 1) (oi := ⟨some 7, _, _, _, _, _⟩) (v := ?_) rfl (by kernel_rfl) (by kernel_rfl) (by kernel_rfl) (fun _ _ _ h => h) (Or.inl ⟨by rfl, ?_⟩) (by assumption) ?_
    rotate_left
    focus (intro w hSw; (try dsimp only at hSw); go_simp; first | done | with_reducible rfl)
    try simp only [Act.put, List.setIfInBounds_toArray, List.set_cons_zero, List.set_cons_succ]
    refine wpAnyH_take (i := 4) (oi := ⟨some 10, _, _, _, _, _⟩) (v := ?_) rfl (by kernel_rfl) (by kernel_rfl) (by kernel_rfl) (fun _ _ _ h => h) (Or.inl ⟨by rfl, ?_⟩) (by assumption) ?_
    rotate_left
    focus (intro w hSw; (try dsimp only at hSw); go_simp; first | done | with_reducible rfl)
    try simp only [Act.put, List.setIfInBounds_toArray, List.set_cons_zero, List.set_cons_succ]
    refine wpAnyH_take (i := 5) (oi := ⟨some 11, _, _, _, _, _⟩) (v := ?_) rfl (by kernel_rfl) (by kernel_rfl) (by kernel_rfl) (fun _ _ _ h => h) (Or.inl ⟨by rfl, ?_⟩) (by assumption) ?_
    rotate_left
    focus (intro w hSw; (try dsimp only at hSw); go_simp; first | done | with_reducible rfl)
    try simp only [Act.put, List.setIfInBounds_toArray, List.set_cons_zero, List.set_cons_succ]
    refine wpAnyH_take (i := 9) (oi := ⟨some 15, _, _, _, _, _⟩) (v := ?_) rfl (by kernel_rfl) (by kernel_rfl) (by kernel_rfl) (fun _ _ _ h => h) (Or.inl ⟨by rfl, ?_⟩) (by assumption) ?_
    rotate_left
    focus (intro w hSw; (try dsimp only at hSw); go_simp; first | done | with_reducible rfl)
    try simp only [Act.put, List.setIfInBounds_toArray, List.set_cons_zero, List.set_cons_succ]
    refine wpAnyH_take (i := 10) (oi := ⟨some 16, _, _, _, _, _⟩) (v := ?_) rfl (by kernel_rfl) (by kernel_rfl) (by kernel_rfl) (fun _ _ _ h => h) (Or.inl ⟨by rfl, ?_⟩) (by assumption) ?_
    rotate_left
    focus (intro w hSw; (try dsimp only at hSw); go_simp; first | done | with_reducible rfl)
    try simp only [Act.put, List.setIfInBounds_toArray, List.set_cons_zero, List.set_cons_succ]
    refine wpAnyH_ready (rs := [2]) (by kernel_rfl) (by simp) ?_
    refine AllReadyH.cons (o := ⟨some 8, _, _, _, _, _⟩) rfl (fun K hK => ?_) AllReadyH.nil
    go_simp
    ((with_reducible refine (HA.out _).mono ?_); rintro e w3 ⟨rfl, hb⟩)
    go_wp2_with fail
    refine hK.out _ _ (by exact ⟨Lib.hid (hHeld.1.out.trans (hb.mono hHeld.1.out.size)), keep_cell hb hHeld.2.1, keep_cell hb hHeld.2.2.1, keep_cell hb hHeld.2.2.2⟩) (fun hNew => ?_)
    clear hK K
    clear hHeld hb; have hHeld := hNew; clear hNew
    try simp only [Act.put, List.setIfInBounds_toArray, List.set_cons_zero, List.set_cons_succ]
    refine wpAnyH_take (i := 3) (oi := ⟨some 9, _, _, _, _, _⟩) (v := ?_) rfl (by kernel_rfl) (by kernel_rfl) (by kernel_rfl) (fun _ _ _ h => h) (Or.inl ⟨by rfl, ?_⟩) (by assumption) ?_
    rotate_left
    focus (intro w hSw; (try dsimp only at hSw); go_simp; first | done | (rw [if_neg (by first | omega | (simp [ByteArray.size_append]; omega))]))
    try simp only [Act.put, List.setIfInBounds_toArray, List.set_cons_zero, List.set_cons_succ]
    refine wpAnyH_ready (rs := [6]) (by kernel_rfl) (by simp) ?_
    refine AllReadyH.cons (o := ⟨some 12, _, _, _, _, _⟩) rfl (fun K hK => ?_) AllReadyH.nil
    go_simp
    ((with_reducible refine (HBB.out _).mono ?_); rintro e w3 ⟨rfl, hb⟩)
    go_wp2_with fail
    refine hK.out _ _ (by exact ⟨Lib.hid (hHeld.1.out.trans (hb.mono hHeld.1.out.size)), keep_cell hb hHeld.2.1, keep_cell hb hHeld.2.2.1, keep_cell hb hHeld.2.2.2⟩) (fun hNew => ?_)
    clear hK K
    clear hHeld hb; have hHeld := hNew; clear hNew
    try simp only [Act.put, List.setIfInBounds_toArray, List.set_cons_zero, List.set_cons_succ]
    refine wpAnyH_take (i := 7) (oi := ⟨some 13, _, _, _, _, _⟩) (v := ?_) rfl (by kernel_rfl) (by kernel_rfl) (by kernel_rfl) (fun _ _ _ h => h) (Or.inl ⟨by rfl, ?_⟩) (by assumption) ?_
    rotate_left
    focus (intro w hSw; (try dsimp only at hSw); go_simp; first | done | (rw [if_neg (by first | omega | (simp [ByteArray.size_append]; omega))]))
    try simp only [Act.put, List.setIfInBounds_toArray, List.set_cons_zero, List.set_cons_succ]
    refine wpAnyH_take (i := 8) (oi := ⟨some 14, _, _, _, _, _⟩) (v := ?_) rfl (by kernel_rfl) (by kernel_rfl) (by kernel_rfl) (fun _ _ _ h => h) (Or.inl ⟨by rfl, ?_⟩) (by assumption) ?_
    rotate_left
    focus (intro w hSw; (try dsimp only at hSw); go_simp; first | done | (rw [if_neg (by first | omega | (simp [ByteArray.size_append]; omega))]))
    try simp only [Act.put, List.setIfInBounds_toArray, List.set_cons_zero, List.set_cons_succ]
    refine wpAnyH_ready (rs := [11]) (by kernel_rfl) (by simp) ?_
    refine AllReadyH.cons (o := ⟨some 17, _, _, _, _, _⟩) rfl (fun K hK => ?_) AllReadyH.nil
    go_simp
    ((with_reducible refine (HC.out _).mono ?_); rintro e w3 ⟨rfl, hb⟩)
    go_wp2_with fail
    refine hK.out _ _ (by exact ⟨Lib.hid (hHeld.1.out.trans (hb.mono hHeld.1.out.size)), keep_cell hb hHeld.2.1, keep_cell hb hHeld.2.2.1, keep_cell hb hHeld.2.2.2⟩) (fun hNew => ?_)
    clear hK K
    clear hHeld hb; have hHeld := hNew; clear hNew
    try simp only [Act.put, List.setIfInBounds_toArray, List.set_cons_zero, List.set_cons_succ]
    refine wpAnyH_take (i := 12) (oi := ⟨some 18, _, _, _, _, _⟩) (v := ?_) rfl (by kernel_rfl) (by kernel_rfl) (by kernel_rfl) (fun _ _ _ h => h) (Or.inl ⟨by rfl, ?_⟩) (by assumption) ?_
    rotate_left
    focus (intro w hSw; (try dsimp only at hSw); go_simp; first | done | (rw [if_neg (by first | omega | (simp [ByteArray.size_append]; omega))]))
    try simp only [Act.put, List.setIfInBounds_toArray, List.set_cons_zero, List.set_cons_succ]
    refine wpAnyH_take (i := 13) (oi := ⟨some 2, _, _, _, _, _⟩) (v := ?_) rfl (by kernel_rfl) (by kernel_rfl) (by kernel_rfl) (fun _ _ _ h => h) (Or.inl ⟨by rfl, ?_⟩) (by assumption) ?_
    rotate_left
    focus (intro w hSw; (try dsimp only at hSw); go_simp; first | done | with_reducible rfl)
    try simp only [Act.put, List.setIfInBounds_toArray, List.set_cons_zero, List.set_cons_succ]
    refine wpAnyH_done (by kernel_rfl) ?_ _
    go_wp2
    go_ret
    exact ⟨by rw [← HT.out]; rfl, HW.out.trans (hHeld.1.out.mono HW.out.size)⟩
end Go.Proofs.YtmgnbpgcbehidaaDoor
