/- TermSames: its walk. -/
import Derived.Test.YthcpmdgdbceeiaaGreatDoorTf
import Derived.Deep.RegionHeld3
import Derived.Outline
namespace Go.Proofs.YthcpmdgdbceeiaaGreatDoor
open Go.RowKit
def SameL (r : Bool) (w : World) (e : Ending) (w' : World) : Prop := e = .returned (.bool r) ∧ Below w.heap.size w w'
def SizeL (n : Int) (w : World) (e : Ending) (w' : World) : Prop := e = .returned (.int .i64 n) ∧ Below w.heap.size w w'
/-- What the law's calls answer, wherever the terms can still be read. -/
structure SamesC (W : World) (va vb : Value) (r : Bool) : Prop where
  ab : ∀ w, Below W.heap.size W w → Calls Tryz.prog 17 #[va, vb] w (SameL r w)
  rab : ∀ w, Below W.heap.size W w → Calls Tryz.prog 18 #[va, vb] w (SameL r w)
  ba : ∀ w, Below W.heap.size W w → Calls Tryz.prog 17 #[vb, va] w (SameL r w)
  aa : ∀ w, Below W.heap.size W w → Calls Tryz.prog 17 #[va, va] w (SameL true w)
  sz : r = true → ∃ n, (∀ w, Below W.heap.size W w → Calls Tryz.prog 15 #[va] w (SizeL n w)) ∧ (∀ w, Below W.heap.size W w → Calls Tryz.prog 15 #[vb] w (SizeL n w))
theorem samesC_of {W : World} {d : Nat} {va vb : Value} {ta tb : Tm} (ha : IsT W d va ta) (hb : IsT W d vb tb) : SamesC W va vb (same ta tb) := by
  refine ⟨fun w h => same_any d va vb ta tb w (ha.below h) (hb.below h), fun w h => refSame_any d va vb ta tb w (ha.below h) (hb.below h), fun w h => ?_, fun w h => ?_, fun h => ?_⟩
  · rw [same_comm]
    exact same_any d vb va tb ta w (hb.below h) (ha.below h)
  · have h2 := same_any d va va ta ta w (ha.below h) (ha.below h)
    unfold SameR at h2
    rwa [same_self] at h2
  · have e := same_iff.1 h
    subst e
    exact ⟨sz d ta, fun w h => size_any d va ta w (ha.below h), fun w h => size_any d vb ta w (hb.below h)⟩
set_option maxRecDepth 100000 in
set_option maxHeartbeats 4000000 in
theorem sames_walk (d : Nat) (va vb : Value) (ta tb : Tm) (w : World) (ha : IsT w d va ta) (hb : IsT w d vb tb) : Calls Tryz.prog 4 #[va, vb] w fun e w' => e = .returned (.bool true) ∧ Below w.heap.size w w' := by
  obtain ⟨da, k1, p1, n1, N1, s1, la, ea, rfl, rfl, _, _, hka⟩ := ha.open
  obtain ⟨db, k2, p2, n2, N2, s2, lb, eb, rfl, rfl, _, _, hkb⟩ := hb.open
  obtain ⟨q1, l1, c1, rfl⟩ := hka.slice
  obtain ⟨q2, l2, c2, rfl⟩ := hkb.slice
  have HTA := Lib.hid ha
  have HTB := Lib.hid hb
  have hB0 : Below w.heap.size w ((w.alloc (.cells #[.int .i64 k1, .string p1, .string n1, .int .i64 N1, .slice q1 l1 c1] 24)).alloc (.cells #[.int .i64 k2, .string p2, .string n2, .int .i64 N2, .slice q2 l2 c2] 24)) := below2 w _ _
  have b1 := hb_alloc (hb_new w (.cells #[.int .i64 k1, .string p1, .string n1, .int .i64 N1, .slice q1 l1 c1] 24)) (.cells #[.int .i64 k2, .string p2, .string n2, .int .i64 N2, .slice q2 l2 c2] 24)
  have b2 := hb_new (w.alloc (.cells #[.int .i64 k1, .string p1, .string n1, .int .i64 N1, .slice q1 l1 c1] 24)) (.cells #[.int .i64 k2, .string p2, .string n2, .int .i64 N2, .slice q2 l2 c2] 24)
  rw [World.size_alloc] at b2
  have B1 := Lib.hid b1
  have B2 := Lib.hid b2
  have HB0 := Lib.hid hB0
  clear ha hb ea eb hka hkb b1 b2 hB0
  go_enter Tryz.func4, Tryz.ntmps4
  go_wp2_with fail
  generalize hW0 : (w.alloc (.cells #[.int .i64 k1, .string p1, .string n1, .int .i64 N1, .slice q1 l1 c1] 24)).alloc (.cells #[.int .i64 k2, .string p2, .string n2, .int .i64 N2, .slice q2 l2 c2] 24) = W0 at *
  clear hW0
  (with_reducible refine (few_any d _ _ _ (HTA.out.below HB0.out)).mono ?_)
  rintro e w1 ⟨r1, rfl, hb1⟩
  have HB1 := Lib.hid (HB0.out.trans (hb1.mono HB0.out.size))
  have K1 := Lib.hid (hb_below B1.out hb1 (hb_lt B1.out))
  have K2 := Lib.hid (hb_below B2.out hb1 (hb_lt B2.out))
  clear hb1
  have y0 := hb_at K2.out 0 rfl
  have y1 := hb_at K2.out 1 rfl
  have y2 := hb_at K2.out 2 rfl
  have y3 := hb_at K2.out 3 rfl
  have y4 := hb_at K2.out 4 rfl
  cases r1
  · go_wp2_with (go_at_call 8; ((with_reducible refine (alive_ok _).mono ?_); rintro e w9 ⟨rfl, hb⟩))
    go_ret
    exact ⟨rfl, HB1.out.trans (hb.mono HB1.out.size)⟩
  · go_wp2_with fail
    (with_reducible refine (few_any d _ _ _ (HTB.out.below HB1.out)).mono ?_)
    rintro e w2 ⟨r2, rfl, hb2⟩
    have HB2 := Lib.hid (HB1.out.trans (hb2.mono HB1.out.size))
    have J1 := Lib.hid (hb_below K1.out hb2 (hb_lt K1.out))
    have J2 := Lib.hid (hb_below K2.out hb2 (hb_lt K2.out))
    clear hb2 y0 y1 y2 y3 y4
    cases r2
    · go_wp2_with (go_at_call 8; ((with_reducible refine (alive_ok _).mono ?_); rintro e w9 ⟨rfl, hb⟩))
      go_ret
      exact ⟨rfl, HB2.out.trans (hb.mono HB2.out.size)⟩
    · have HSC := Lib.hid (samesC_of (HTA.out.below HB2.out) (HTB.out.below HB2.out))
      generalize same (.mk k1 p1 n1 N1 la) (.mk k2 p2 n2 N2 lb) = r at *
      have x0 := hb_at J1.out 0 rfl
      have x1 := hb_at J1.out 1 rfl
      have x2 := hb_at J1.out 2 rfl
      have x3 := hb_at J1.out 3 rfl
      have x4 := hb_at J1.out 4 rfl
      have y0 := hb_at J2.out 0 rfl
      have y1 := hb_at J2.out 1 rfl
      have y2 := hb_at J2.out 2 rfl
      have y3 := hb_at J2.out 3 rfl
      have y4 := hb_at J2.out 4 rfl
      go_wp2_with fail
      cases r
      · have HAB := Lib.hid HSC.out.ab
        have HRB := Lib.hid HSC.out.rab
        have HBA := Lib.hid HSC.out.ba
        have HAA := Lib.hid HSC.out.aa
        refine wp_region_held_drew (S := (fun w' => RowKit.Hid (Below w2.heap.size w2 w') ∧ w'.cell? ⟨w.heap.size, 0, none⟩ = some (.int .i64 k1) ∧ w'.cell? ⟨w.heap.size, 1, none⟩ = some (.string p1) ∧ w'.cell? ⟨w.heap.size, 2, none⟩ = some (.string n1) ∧ w'.cell? ⟨w.heap.size, 3, none⟩ = some (.int .i64 N1) ∧ w'.cell? ⟨w.heap.size, 4, none⟩ = some (.slice q1 l1 c1) ∧ w'.cell? ⟨w.heap.size + 1, 0, none⟩ = some (.int .i64 k2) ∧ w'.cell? ⟨w.heap.size + 1, 1, none⟩ = some (.string p2) ∧ w'.cell? ⟨w.heap.size + 1, 2, none⟩ = some (.string n2) ∧ w'.cell? ⟨w.heap.size + 1, 3, none⟩ = some (.int .i64 N2) ∧ w'.cell? ⟨w.heap.size + 1, 4, none⟩ = some (.slice q2 l2 c2))) (by kernel_rfl) (by exact ⟨Lib.hid (below_drewN (Below.refl _ _) 1), x0, x1, x2, x3, x4, y0, y1, y2, y3, y4⟩) (fun hHeld => ?_)
        refine wpAnyH_take (i := 0) (oi := ⟨some 14, _, _, _, _, _⟩) (v := ?_) rfl (by kernel_rfl) (by kernel_rfl) (by kernel_rfl) (fun _ _ _ h => h) (Or.inl ⟨by rfl, ?_⟩) (by assumption) ?_
        rotate_left
        focus (intro w hSw; (try dsimp only at hSw); go_simp; first | done | with_reducible rfl)
        try simp only [Act.put, List.setIfInBounds_toArray, List.set_cons_zero, List.set_cons_succ]
        refine wpAnyH_take (i := 1) (oi := ⟨some 15, _, _, _, _, _⟩) (v := ?_) rfl (by kernel_rfl) (by kernel_rfl) (by kernel_rfl) (fun _ _ _ h => h) (Or.inl ⟨by rfl, ?_⟩) (by assumption) ?_
        rotate_left
        focus (intro w hSw; (try dsimp only at hSw); go_simp; first | done | with_reducible rfl)
        try simp only [Act.put, List.setIfInBounds_toArray, List.set_cons_zero, List.set_cons_succ]
        refine wpAnyH_take (i := 3) (oi := ⟨some 17, _, _, _, _, _⟩) (v := ?_) rfl (by kernel_rfl) (by kernel_rfl) (by kernel_rfl) (fun _ _ _ h => h) (Or.inl ⟨by rfl, ?_⟩) (by assumption) ?_
        rotate_left
        focus (intro w hSw; (try dsimp only at hSw); go_simp; first | done | with_reducible rfl)
        try simp only [Act.put, List.setIfInBounds_toArray, List.set_cons_zero, List.set_cons_succ]
        refine wpAnyH_take (i := 4) (oi := ⟨some 18, _, _, _, _, _⟩) (v := ?_) rfl (by kernel_rfl) (by kernel_rfl) (by kernel_rfl) (fun _ _ _ h => h) (Or.inl ⟨by rfl, ?_⟩) (by assumption) ?_
        rotate_left
        focus (intro w hSw; (try dsimp only at hSw); go_simp; first | done | with_reducible rfl)
        try simp only [Act.put, List.setIfInBounds_toArray, List.set_cons_zero, List.set_cons_succ]
        refine wpAnyH_ready (rs := [2]) (by kernel_rfl) (by simp) ?_
        refine AllReadyH.cons (o := ⟨some 16, _, _, _, _, _⟩) rfl (fun K hK => ?_) AllReadyH.nil
        go_simp
        ((with_reducible refine (HAB.out _ hHeld.1.out).mono ?_); rintro e w3 ⟨rfl, hb⟩)
        go_wp2_with fail
        refine hK.out _ _ (by exact ⟨Lib.hid (hHeld.1.out.trans (hb.mono hHeld.1.out.size)), keep_cell hb hHeld.2.1, keep_cell hb hHeld.2.2.1, keep_cell hb hHeld.2.2.2.1, keep_cell hb hHeld.2.2.2.2.1, keep_cell hb hHeld.2.2.2.2.2.1, keep_cell hb hHeld.2.2.2.2.2.2.1, keep_cell hb hHeld.2.2.2.2.2.2.2.1, keep_cell hb hHeld.2.2.2.2.2.2.2.2.1, keep_cell hb hHeld.2.2.2.2.2.2.2.2.2.1, keep_cell hb hHeld.2.2.2.2.2.2.2.2.2.2⟩) (fun hNew => ?_)
        clear hK K
        clear hHeld hb; have hHeld := hNew; clear hNew
        try simp only [Act.put, List.setIfInBounds_toArray, List.set_cons_zero, List.set_cons_succ]
        refine wpAnyH_ready (rs := [5]) (by kernel_rfl) (by simp) ?_
        refine AllReadyH.cons (o := ⟨some 19, _, _, _, _, _⟩) rfl (fun K hK => ?_) AllReadyH.nil
        go_simp
        ((with_reducible refine (HRB.out _ hHeld.1.out).mono ?_); rintro e w3 ⟨rfl, hb⟩)
        go_wp2_with fail
        refine hK.out _ _ (by exact ⟨Lib.hid (hHeld.1.out.trans (hb.mono hHeld.1.out.size)), keep_cell hb hHeld.2.1, keep_cell hb hHeld.2.2.1, keep_cell hb hHeld.2.2.2.1, keep_cell hb hHeld.2.2.2.2.1, keep_cell hb hHeld.2.2.2.2.2.1, keep_cell hb hHeld.2.2.2.2.2.2.1, keep_cell hb hHeld.2.2.2.2.2.2.2.1, keep_cell hb hHeld.2.2.2.2.2.2.2.2.1, keep_cell hb hHeld.2.2.2.2.2.2.2.2.2.1, keep_cell hb hHeld.2.2.2.2.2.2.2.2.2.2⟩) (fun hNew => ?_)
        clear hK K
        clear hHeld hb; have hHeld := hNew; clear hNew
        try simp only [Act.put, List.setIfInBounds_toArray, List.set_cons_zero, List.set_cons_succ]
        refine wpAnyH_take (i := 6) (oi := ⟨some 20, _, _, _, _, _⟩) (v := ?_) rfl (by kernel_rfl) (by kernel_rfl) (by kernel_rfl) (fun _ _ _ h => h) (Or.inl ⟨by rfl, ?_⟩) (by assumption) ?_
        rotate_left
        focus (intro w hSw; (try dsimp only at hSw); go_simp; first | done | with_reducible rfl)
        try simp only [Act.put, List.setIfInBounds_toArray, List.set_cons_zero, List.set_cons_succ]
        refine wpAnyH_take (i := 7) (oi := ⟨some 21, _, _, _, _, _⟩) (v := ?_) rfl (by kernel_rfl) (by kernel_rfl) (by kernel_rfl) (fun _ _ _ h => h) (Or.inl ⟨by rfl, ?_⟩) (by assumption) ?_
        rotate_left
        focus (intro w hSw; (try dsimp only at hSw); go_simp; first | done | with_reducible rfl)
        try simp only [Act.put, List.setIfInBounds_toArray, List.set_cons_zero, List.set_cons_succ]
        refine wpAnyH_take (i := 8) (oi := ⟨some 22, _, _, _, _, _⟩) (v := ?_) rfl (by kernel_rfl) (by kernel_rfl) (by kernel_rfl) (fun _ _ _ h => h) (Or.inl ⟨by rfl, ?_⟩) (by assumption) ?_
        rotate_left
        focus (intro w hSw; (try dsimp only at hSw); go_simp; first | done | with_reducible rfl)
        try simp only [Act.put, List.setIfInBounds_toArray, List.set_cons_zero, List.set_cons_succ]
        refine wpAnyH_take (i := 9) (oi := ⟨some 23, _, _, _, _, _⟩) (v := ?_) rfl (by kernel_rfl) (by kernel_rfl) (by kernel_rfl) (fun _ _ _ h => h) (Or.inl ⟨by rfl, ?_⟩) (by assumption) ?_
        rotate_left
        focus (intro w hSw; (try dsimp only at hSw); go_simp; first | done | with_reducible rfl)
        try simp only [Act.put, List.setIfInBounds_toArray, List.set_cons_zero, List.set_cons_succ]
        refine wpAnyH_take (i := 11) (oi := ⟨some 25, _, _, _, _, _⟩) (v := ?_) rfl (by kernel_rfl) (by kernel_rfl) (by kernel_rfl) (fun _ _ _ h => h) (Or.inl ⟨by rfl, ?_⟩) (by assumption) ?_
        rotate_left
        focus (intro w hSw; (try dsimp only at hSw); go_simp; first | done | with_reducible rfl)
        try simp only [Act.put, List.setIfInBounds_toArray, List.set_cons_zero, List.set_cons_succ]
        refine wpAnyH_take (i := 12) (oi := ⟨some 26, _, _, _, _, _⟩) (v := ?_) rfl (by kernel_rfl) (by kernel_rfl) (by kernel_rfl) (fun _ _ _ h => h) (Or.inl ⟨by rfl, ?_⟩) (by assumption) ?_
        rotate_left
        focus (intro w hSw; (try dsimp only at hSw); go_simp; first | done | with_reducible rfl)
        try simp only [Act.put, List.setIfInBounds_toArray, List.set_cons_zero, List.set_cons_succ]
        refine wpAnyH_ready (rs := [10]) (by kernel_rfl) (by simp) ?_
        refine AllReadyH.cons (o := ⟨some 24, _, _, _, _, _⟩) rfl (fun K hK => ?_) AllReadyH.nil
        go_simp
        ((with_reducible refine (HBA.out _ hHeld.1.out).mono ?_); rintro e w3 ⟨rfl, hb⟩)
        go_wp2_with fail
        refine hK.out _ _ (by exact ⟨Lib.hid (hHeld.1.out.trans (hb.mono hHeld.1.out.size)), keep_cell hb hHeld.2.1, keep_cell hb hHeld.2.2.1, keep_cell hb hHeld.2.2.2.1, keep_cell hb hHeld.2.2.2.2.1, keep_cell hb hHeld.2.2.2.2.2.1, keep_cell hb hHeld.2.2.2.2.2.2.1, keep_cell hb hHeld.2.2.2.2.2.2.2.1, keep_cell hb hHeld.2.2.2.2.2.2.2.2.1, keep_cell hb hHeld.2.2.2.2.2.2.2.2.2.1, keep_cell hb hHeld.2.2.2.2.2.2.2.2.2.2⟩) (fun hNew => ?_)
        clear hK K
        clear hHeld hb; have hHeld := hNew; clear hNew
        try simp only [Act.put, List.setIfInBounds_toArray, List.set_cons_zero, List.set_cons_succ]
        refine wpAnyH_ready (rs := [13]) (by kernel_rfl) (by simp) ?_
        refine AllReadyH.cons (o := ⟨some 27, _, _, _, _, _⟩) rfl (fun K hK => ?_) AllReadyH.nil
        go_simp
        ((with_reducible refine (HAB.out _ hHeld.1.out).mono ?_); rintro e w3 ⟨rfl, hb⟩)
        go_wp2_with fail
        refine hK.out _ _ (by exact ⟨Lib.hid (hHeld.1.out.trans (hb.mono hHeld.1.out.size)), keep_cell hb hHeld.2.1, keep_cell hb hHeld.2.2.1, keep_cell hb hHeld.2.2.2.1, keep_cell hb hHeld.2.2.2.2.1, keep_cell hb hHeld.2.2.2.2.2.1, keep_cell hb hHeld.2.2.2.2.2.2.1, keep_cell hb hHeld.2.2.2.2.2.2.2.1, keep_cell hb hHeld.2.2.2.2.2.2.2.2.1, keep_cell hb hHeld.2.2.2.2.2.2.2.2.2.1, keep_cell hb hHeld.2.2.2.2.2.2.2.2.2.2⟩) (fun hNew => ?_)
        clear hK K
        clear hHeld hb; have hHeld := hNew; clear hNew
        try simp only [Act.put, List.setIfInBounds_toArray, List.set_cons_zero, List.set_cons_succ]
        refine wpAnyH_take (i := 14) (oi := ⟨some 28, _, _, _, _, _⟩) (v := ?_) rfl (by kernel_rfl) (by kernel_rfl) (by kernel_rfl) (fun _ _ _ h => h) (Or.inl ⟨by rfl, ?_⟩) (by assumption) ?_
        rotate_left
        focus (intro w hSw; (try dsimp only at hSw); go_simp; first | done | with_reducible rfl)
        try simp only [Act.put, List.setIfInBounds_toArray, List.set_cons_zero, List.set_cons_succ]
        refine wpAnyH_take (i := 15) (oi := ⟨some 29, _, _, _, _, _⟩) (v := ?_) rfl (by kernel_rfl) (by kernel_rfl) (by kernel_rfl) (fun _ _ _ h => h) (Or.inl ⟨by rfl, ?_⟩) (by assumption) ?_
        rotate_left
        focus (intro w hSw; (try dsimp only at hSw); go_simp; first | done | with_reducible rfl)
        try simp only [Act.put, List.setIfInBounds_toArray, List.set_cons_zero, List.set_cons_succ]
        refine wpAnyH_take (i := 16) (oi := ⟨some 30, _, _, _, _, _⟩) (v := ?_) rfl (by kernel_rfl) (by kernel_rfl) (by kernel_rfl) (fun _ _ _ h => h) (Or.inl ⟨by rfl, ?_⟩) (by assumption) ?_
        rotate_left
        focus (intro w hSw; (try dsimp only at hSw); go_simp; first | done | with_reducible rfl)
        try simp only [Act.put, List.setIfInBounds_toArray, List.set_cons_zero, List.set_cons_succ]
        refine wpAnyH_take (i := 17) (oi := ⟨some 31, _, _, _, _, _⟩) (v := ?_) rfl (by kernel_rfl) (by kernel_rfl) (by kernel_rfl) (fun _ _ _ h => h) (Or.inl ⟨by rfl, ?_⟩) (by assumption) ?_
        rotate_left
        focus (intro w hSw; (try dsimp only at hSw); go_simp; first | done | with_reducible rfl)
        try simp only [Act.put, List.setIfInBounds_toArray, List.set_cons_zero, List.set_cons_succ]
        refine wpAnyH_take (i := 18) (oi := ⟨some 32, _, _, _, _, _⟩) (v := ?_) rfl (by kernel_rfl) (by kernel_rfl) (by kernel_rfl) (fun _ _ _ h => h) (Or.inl ⟨by rfl, ?_⟩) (by assumption) ?_
        rotate_left
        focus (intro w hSw; (try dsimp only at hSw); go_simp; first | done | with_reducible rfl)
        try simp only [Act.put, List.setIfInBounds_toArray, List.set_cons_zero, List.set_cons_succ]
        refine wpAnyH_ready (rs := [19]) (by kernel_rfl) (by simp) ?_
        refine AllReadyH.cons (o := ⟨some 33, _, _, _, _, _⟩) rfl (fun K hK => ?_) AllReadyH.nil
        go_simp
        ((with_reducible refine (HAA.out _ hHeld.1.out).mono ?_); rintro e w3 ⟨rfl, hb⟩)
        go_wp2_with fail
        refine hK.out _ _ (by exact ⟨Lib.hid (hHeld.1.out.trans (hb.mono hHeld.1.out.size)), keep_cell hb hHeld.2.1, keep_cell hb hHeld.2.2.1, keep_cell hb hHeld.2.2.2.1, keep_cell hb hHeld.2.2.2.2.1, keep_cell hb hHeld.2.2.2.2.2.1, keep_cell hb hHeld.2.2.2.2.2.2.1, keep_cell hb hHeld.2.2.2.2.2.2.2.1, keep_cell hb hHeld.2.2.2.2.2.2.2.2.1, keep_cell hb hHeld.2.2.2.2.2.2.2.2.2.1, keep_cell hb hHeld.2.2.2.2.2.2.2.2.2.2⟩) (fun hNew => ?_)
        clear hK K
        clear hHeld hb; have hHeld := hNew; clear hNew
        try simp only [Act.put, List.setIfInBounds_toArray, List.set_cons_zero, List.set_cons_succ]
        refine wpAnyH_take (i := 20) (oi := ⟨some 34, _, _, _, _, _⟩) (v := ?_) rfl (by kernel_rfl) (by kernel_rfl) (by kernel_rfl) (fun _ _ _ h => h) (Or.inl ⟨by rfl, ?_⟩) (by assumption) ?_
        rotate_left
        focus (intro w hSw; (try dsimp only at hSw); go_simp; first | done | with_reducible rfl)
        try simp only [Act.put, List.setIfInBounds_toArray, List.set_cons_zero, List.set_cons_succ]
        refine wpAnyH_take (i := 21) (oi := ⟨some 35, _, _, _, _, _⟩) (v := ?_) rfl (by kernel_rfl) (by kernel_rfl) (by kernel_rfl) (fun _ _ _ h => h) (Or.inl ⟨by rfl, ?_⟩) (by assumption) ?_
        rotate_left
        focus (intro w hSw; (try dsimp only at hSw); go_simp; first | done | with_reducible rfl)
        try simp only [Act.put, List.setIfInBounds_toArray, List.set_cons_zero, List.set_cons_succ]
        refine wpAnyH_take (i := 22) (oi := ⟨some 36, _, _, _, _, _⟩) (v := ?_) rfl (by kernel_rfl) (by kernel_rfl) (by kernel_rfl) (fun _ _ _ h => h) (Or.inl ⟨by rfl, ?_⟩) (by assumption) ?_
        rotate_left
        focus (intro w hSw; (try dsimp only at hSw); go_simp; first | done | with_reducible rfl)
        try simp only [Act.put, List.setIfInBounds_toArray, List.set_cons_zero, List.set_cons_succ]
        refine wpAnyH_take (i := 23) (oi := ⟨some 37, _, _, _, _, _⟩) (v := ?_) rfl (by kernel_rfl) (by kernel_rfl) (by kernel_rfl) (fun _ _ _ h => h) (Or.inl ⟨by rfl, ?_⟩) (by assumption) ?_
        rotate_left
        focus (intro w hSw; (try dsimp only at hSw); go_simp; first | done | with_reducible rfl)
        try simp only [Act.put, List.setIfInBounds_toArray, List.set_cons_zero, List.set_cons_succ]
        refine wpAnyH_ready (rs := [24]) (by kernel_rfl) (by simp) ?_
        refine AllReadyH.cons (o := ⟨some 38, _, _, _, _, _⟩) rfl (fun K hK => ?_) AllReadyH.nil
        go_simp
        ((with_reducible refine (HAB.out _ hHeld.1.out).mono ?_); rintro e w3 ⟨rfl, hb⟩)
        go_wp2_with fail
        refine hK.out _ _ (by exact ⟨Lib.hid (hHeld.1.out.trans (hb.mono hHeld.1.out.size)), keep_cell hb hHeld.2.1, keep_cell hb hHeld.2.2.1, keep_cell hb hHeld.2.2.2.1, keep_cell hb hHeld.2.2.2.2.1, keep_cell hb hHeld.2.2.2.2.2.1, keep_cell hb hHeld.2.2.2.2.2.2.1, keep_cell hb hHeld.2.2.2.2.2.2.2.1, keep_cell hb hHeld.2.2.2.2.2.2.2.2.1, keep_cell hb hHeld.2.2.2.2.2.2.2.2.2.1, keep_cell hb hHeld.2.2.2.2.2.2.2.2.2.2⟩) (fun hNew => ?_)
        clear hK K
        clear hHeld hb; have hHeld := hNew; clear hNew
        try simp only [Act.put, List.setIfInBounds_toArray, List.set_cons_zero, List.set_cons_succ]
        refine wpAnyH_take (i := 25) (oi := ⟨some 39, _, _, _, _, _⟩) (v := ?_) rfl (by kernel_rfl) (by kernel_rfl) (by kernel_rfl) (fun _ _ _ h => h) (Or.inl ⟨by rfl, ?_⟩) (by assumption) ?_
        rotate_left
        focus (intro w hSw; (try dsimp only at hSw); go_simp; first | done | with_reducible rfl)
        try simp only [Act.put, List.setIfInBounds_toArray, List.set_cons_zero, List.set_cons_succ]
        refine wpAnyH_take (i := 26) (oi := ⟨some 40, _, _, _, _, _⟩) (v := ?_) rfl (by kernel_rfl) (by kernel_rfl) (by kernel_rfl) (fun _ _ _ h => h) (Or.inl ⟨by rfl, ?_⟩) (by assumption) ?_
        rotate_left
        focus (intro w hSw; (try dsimp only at hSw); go_simp; first | done | with_reducible rfl)
        try simp only [Act.put, List.setIfInBounds_toArray, List.set_cons_zero, List.set_cons_succ]
        refine wpAnyH_take (i := 27) (oi := ⟨some 41, _, _, _, _, _⟩) (v := undef) rfl (by kernel_rfl) (by kernel_rfl) (by kernel_rfl) (fun _ _ _ h => h) (Or.inr ⟨by rfl, rfl⟩) (by assumption) ?_
        try simp only [Act.put, List.setIfInBounds_toArray, List.set_cons_zero, List.set_cons_succ]
        refine wpAnyH_take (i := 28) (oi := ⟨some 42, _, _, _, _, _⟩) (v := undef) rfl (by kernel_rfl) (by kernel_rfl) (by kernel_rfl) (fun _ _ _ h => h) (Or.inr ⟨by rfl, rfl⟩) (by assumption) ?_
        try simp only [Act.put, List.setIfInBounds_toArray, List.set_cons_zero, List.set_cons_succ]
        refine wpAnyH_take (i := 29) (oi := ⟨some 43, _, _, _, _, _⟩) (v := undef) rfl (by kernel_rfl) (by kernel_rfl) (by kernel_rfl) (fun _ _ _ h => h) (Or.inr ⟨by rfl, rfl⟩) (by assumption) ?_
        try simp only [Act.put, List.setIfInBounds_toArray, List.set_cons_zero, List.set_cons_succ]
        refine wpAnyH_take (i := 30) (oi := ⟨some 44, _, _, _, _, _⟩) (v := undef) rfl (by kernel_rfl) (by kernel_rfl) (by kernel_rfl) (fun _ _ _ h => h) (Or.inr ⟨by rfl, rfl⟩) (by assumption) ?_
        try simp only [Act.put, List.setIfInBounds_toArray, List.set_cons_zero, List.set_cons_succ]
        refine wpAnyH_take (i := 31) (oi := ⟨some 45, _, _, _, _, _⟩) (v := undef) rfl (by kernel_rfl) (by kernel_rfl) (by kernel_rfl) (fun _ _ _ h => h) (Or.inr ⟨by rfl, rfl⟩) (by assumption) ?_
        try simp only [Act.put, List.setIfInBounds_toArray, List.set_cons_zero, List.set_cons_succ]
        refine wpAnyH_take (i := 32) (oi := ⟨some 46, _, _, _, _, _⟩) (v := ?_) rfl (by kernel_rfl) (by kernel_rfl) (by kernel_rfl) (fun _ _ _ h => h) (Or.inl ⟨by rfl, ?_⟩) (by assumption) ?_
        rotate_left
        focus (intro w hSw; (try dsimp only at hSw); go_simp; first | done | with_reducible rfl)
        try simp only [Act.put, List.setIfInBounds_toArray, List.set_cons_zero, List.set_cons_succ]
        refine wpAnyH_take (i := 33) (oi := ⟨some 47, _, _, _, _, _⟩) (v := ?_) rfl (by kernel_rfl) (by kernel_rfl) (by kernel_rfl) (fun _ _ _ h => h) (Or.inl ⟨by rfl, ?_⟩) (by assumption) ?_
        rotate_left
        focus (intro w hSw; (try dsimp only at hSw); go_simp; first | done | with_reducible rfl)
        try simp only [Act.put, List.setIfInBounds_toArray, List.set_cons_zero, List.set_cons_succ]
        refine wpAnyH_take (i := 34) (oi := ⟨some 48, _, _, _, _, _⟩) (v := ?_) rfl (by kernel_rfl) (by kernel_rfl) (by kernel_rfl) (fun _ _ _ h => h) (Or.inl ⟨by rfl, ?_⟩) (by assumption) ?_
        rotate_left
        focus (intro w hSw; (try dsimp only at hSw); go_simp; first | done | with_reducible rfl)
        try simp only [Act.put, List.setIfInBounds_toArray, List.set_cons_zero, List.set_cons_succ]
        refine wpAnyH_ready (rs := [35]) (by kernel_rfl) (by simp) ?_
        refine AllReadyH.cons (o := ⟨some 49, _, _, _, _, _⟩) rfl (fun K hK => ?_) AllReadyH.nil
        go_simp
        ((with_reducible refine (alive_ok _).mono ?_); rintro e w3 ⟨rfl, hb⟩)
        go_wp2_with fail
        refine hK.out _ _ (by exact ⟨Lib.hid (hHeld.1.out.trans (hb.mono hHeld.1.out.size)), keep_cell hb hHeld.2.1, keep_cell hb hHeld.2.2.1, keep_cell hb hHeld.2.2.2.1, keep_cell hb hHeld.2.2.2.2.1, keep_cell hb hHeld.2.2.2.2.2.1, keep_cell hb hHeld.2.2.2.2.2.2.1, keep_cell hb hHeld.2.2.2.2.2.2.2.1, keep_cell hb hHeld.2.2.2.2.2.2.2.2.1, keep_cell hb hHeld.2.2.2.2.2.2.2.2.2.1, keep_cell hb hHeld.2.2.2.2.2.2.2.2.2.2⟩) (fun hNew => ?_)
        clear hK K
        clear hHeld hb; have hHeld := hNew; clear hNew
        try simp only [Act.put, List.setIfInBounds_toArray, List.set_cons_zero, List.set_cons_succ]
        refine wpAnyH_take (i := 36) (oi := ⟨some 50, _, _, _, _, _⟩) (v := ?_) rfl (by kernel_rfl) (by kernel_rfl) (by kernel_rfl) (fun _ _ _ h => h) (Or.inl ⟨by rfl, ?_⟩) (by assumption) ?_
        rotate_left
        focus (intro w hSw; (try dsimp only at hSw); go_simp; first | done | with_reducible rfl)
        try simp only [Act.put, List.setIfInBounds_toArray, List.set_cons_zero, List.set_cons_succ]
        refine wpAnyH_take (i := 37) (oi := ⟨some 4, _, _, _, _, _⟩) (v := ?_) rfl (by kernel_rfl) (by kernel_rfl) (by kernel_rfl) (fun _ _ _ h => h) (Or.inl ⟨by rfl, ?_⟩) (by assumption) ?_
        rotate_left
        focus (intro w hSw; (try dsimp only at hSw); go_simp; first | done | with_reducible rfl)
        try simp only [Act.put, List.setIfInBounds_toArray, List.set_cons_zero, List.set_cons_succ]
        refine wpAnyH_done (by kernel_rfl) ?_ _
        go_wp2
        go_ret
        exact ⟨rfl, HB2.out.trans (hHeld.1.out.mono HB2.out.size)⟩
      · have HAB := Lib.hid HSC.out.ab
        have HRB := Lib.hid HSC.out.rab
        have HBA := Lib.hid HSC.out.ba
        have HAA := Lib.hid HSC.out.aa
        obtain ⟨n, hza, hzb⟩ := HSC.out.sz rfl
        have HZA := Lib.hid hza
        have HZB := Lib.hid hzb
        clear hza hzb
        refine wp_region_held_drew (S := (fun w' => RowKit.Hid (Below w2.heap.size w2 w') ∧ w'.cell? ⟨w.heap.size, 0, none⟩ = some (.int .i64 k1) ∧ w'.cell? ⟨w.heap.size, 1, none⟩ = some (.string p1) ∧ w'.cell? ⟨w.heap.size, 2, none⟩ = some (.string n1) ∧ w'.cell? ⟨w.heap.size, 3, none⟩ = some (.int .i64 N1) ∧ w'.cell? ⟨w.heap.size, 4, none⟩ = some (.slice q1 l1 c1) ∧ w'.cell? ⟨w.heap.size + 1, 0, none⟩ = some (.int .i64 k2) ∧ w'.cell? ⟨w.heap.size + 1, 1, none⟩ = some (.string p2) ∧ w'.cell? ⟨w.heap.size + 1, 2, none⟩ = some (.string n2) ∧ w'.cell? ⟨w.heap.size + 1, 3, none⟩ = some (.int .i64 N2) ∧ w'.cell? ⟨w.heap.size + 1, 4, none⟩ = some (.slice q2 l2 c2))) (by kernel_rfl) (by exact ⟨Lib.hid (below_drewN (Below.refl _ _) 1), x0, x1, x2, x3, x4, y0, y1, y2, y3, y4⟩) (fun hHeld => ?_)
        refine wpAnyH_take (i := 0) (oi := ⟨some 14, _, _, _, _, _⟩) (v := ?_) rfl (by kernel_rfl) (by kernel_rfl) (by kernel_rfl) (fun _ _ _ h => h) (Or.inl ⟨by rfl, ?_⟩) (by assumption) ?_
        rotate_left
        focus (intro w hSw; (try dsimp only at hSw); go_simp; first | done | with_reducible rfl)
        try simp only [Act.put, List.setIfInBounds_toArray, List.set_cons_zero, List.set_cons_succ]
        refine wpAnyH_take (i := 1) (oi := ⟨some 15, _, _, _, _, _⟩) (v := ?_) rfl (by kernel_rfl) (by kernel_rfl) (by kernel_rfl) (fun _ _ _ h => h) (Or.inl ⟨by rfl, ?_⟩) (by assumption) ?_
        rotate_left
        focus (intro w hSw; (try dsimp only at hSw); go_simp; first | done | with_reducible rfl)
        try simp only [Act.put, List.setIfInBounds_toArray, List.set_cons_zero, List.set_cons_succ]
        refine wpAnyH_take (i := 3) (oi := ⟨some 17, _, _, _, _, _⟩) (v := ?_) rfl (by kernel_rfl) (by kernel_rfl) (by kernel_rfl) (fun _ _ _ h => h) (Or.inl ⟨by rfl, ?_⟩) (by assumption) ?_
        rotate_left
        focus (intro w hSw; (try dsimp only at hSw); go_simp; first | done | with_reducible rfl)
        try simp only [Act.put, List.setIfInBounds_toArray, List.set_cons_zero, List.set_cons_succ]
        refine wpAnyH_take (i := 4) (oi := ⟨some 18, _, _, _, _, _⟩) (v := ?_) rfl (by kernel_rfl) (by kernel_rfl) (by kernel_rfl) (fun _ _ _ h => h) (Or.inl ⟨by rfl, ?_⟩) (by assumption) ?_
        rotate_left
        focus (intro w hSw; (try dsimp only at hSw); go_simp; first | done | with_reducible rfl)
        try simp only [Act.put, List.setIfInBounds_toArray, List.set_cons_zero, List.set_cons_succ]
        refine wpAnyH_ready (rs := [2]) (by kernel_rfl) (by simp) ?_
        refine AllReadyH.cons (o := ⟨some 16, _, _, _, _, _⟩) rfl (fun K hK => ?_) AllReadyH.nil
        go_simp
        ((with_reducible refine (HAB.out _ hHeld.1.out).mono ?_); rintro e w3 ⟨rfl, hb⟩)
        go_wp2_with fail
        refine hK.out _ _ (by exact ⟨Lib.hid (hHeld.1.out.trans (hb.mono hHeld.1.out.size)), keep_cell hb hHeld.2.1, keep_cell hb hHeld.2.2.1, keep_cell hb hHeld.2.2.2.1, keep_cell hb hHeld.2.2.2.2.1, keep_cell hb hHeld.2.2.2.2.2.1, keep_cell hb hHeld.2.2.2.2.2.2.1, keep_cell hb hHeld.2.2.2.2.2.2.2.1, keep_cell hb hHeld.2.2.2.2.2.2.2.2.1, keep_cell hb hHeld.2.2.2.2.2.2.2.2.2.1, keep_cell hb hHeld.2.2.2.2.2.2.2.2.2.2⟩) (fun hNew => ?_)
        clear hK K
        clear hHeld hb; have hHeld := hNew; clear hNew
        try simp only [Act.put, List.setIfInBounds_toArray, List.set_cons_zero, List.set_cons_succ]
        refine wpAnyH_ready (rs := [5]) (by kernel_rfl) (by simp) ?_
        refine AllReadyH.cons (o := ⟨some 19, _, _, _, _, _⟩) rfl (fun K hK => ?_) AllReadyH.nil
        go_simp
        ((with_reducible refine (HRB.out _ hHeld.1.out).mono ?_); rintro e w3 ⟨rfl, hb⟩)
        go_wp2_with fail
        refine hK.out _ _ (by exact ⟨Lib.hid (hHeld.1.out.trans (hb.mono hHeld.1.out.size)), keep_cell hb hHeld.2.1, keep_cell hb hHeld.2.2.1, keep_cell hb hHeld.2.2.2.1, keep_cell hb hHeld.2.2.2.2.1, keep_cell hb hHeld.2.2.2.2.2.1, keep_cell hb hHeld.2.2.2.2.2.2.1, keep_cell hb hHeld.2.2.2.2.2.2.2.1, keep_cell hb hHeld.2.2.2.2.2.2.2.2.1, keep_cell hb hHeld.2.2.2.2.2.2.2.2.2.1, keep_cell hb hHeld.2.2.2.2.2.2.2.2.2.2⟩) (fun hNew => ?_)
        clear hK K
        clear hHeld hb; have hHeld := hNew; clear hNew
        try simp only [Act.put, List.setIfInBounds_toArray, List.set_cons_zero, List.set_cons_succ]
        refine wpAnyH_take (i := 6) (oi := ⟨some 20, _, _, _, _, _⟩) (v := ?_) rfl (by kernel_rfl) (by kernel_rfl) (by kernel_rfl) (fun _ _ _ h => h) (Or.inl ⟨by rfl, ?_⟩) (by assumption) ?_
        rotate_left
        focus (intro w hSw; (try dsimp only at hSw); go_simp; first | done | with_reducible rfl)
        try simp only [Act.put, List.setIfInBounds_toArray, List.set_cons_zero, List.set_cons_succ]
        refine wpAnyH_take (i := 7) (oi := ⟨some 21, _, _, _, _, _⟩) (v := ?_) rfl (by kernel_rfl) (by kernel_rfl) (by kernel_rfl) (fun _ _ _ h => h) (Or.inl ⟨by rfl, ?_⟩) (by assumption) ?_
        rotate_left
        focus (intro w hSw; (try dsimp only at hSw); go_simp; first | done | with_reducible rfl)
        try simp only [Act.put, List.setIfInBounds_toArray, List.set_cons_zero, List.set_cons_succ]
        refine wpAnyH_take (i := 8) (oi := ⟨some 22, _, _, _, _, _⟩) (v := ?_) rfl (by kernel_rfl) (by kernel_rfl) (by kernel_rfl) (fun _ _ _ h => h) (Or.inl ⟨by rfl, ?_⟩) (by assumption) ?_
        rotate_left
        focus (intro w hSw; (try dsimp only at hSw); go_simp; first | done | with_reducible rfl)
        try simp only [Act.put, List.setIfInBounds_toArray, List.set_cons_zero, List.set_cons_succ]
        refine wpAnyH_take (i := 9) (oi := ⟨some 23, _, _, _, _, _⟩) (v := ?_) rfl (by kernel_rfl) (by kernel_rfl) (by kernel_rfl) (fun _ _ _ h => h) (Or.inl ⟨by rfl, ?_⟩) (by assumption) ?_
        rotate_left
        focus (intro w hSw; (try dsimp only at hSw); go_simp; first | done | with_reducible rfl)
        try simp only [Act.put, List.setIfInBounds_toArray, List.set_cons_zero, List.set_cons_succ]
        refine wpAnyH_take (i := 11) (oi := ⟨some 25, _, _, _, _, _⟩) (v := ?_) rfl (by kernel_rfl) (by kernel_rfl) (by kernel_rfl) (fun _ _ _ h => h) (Or.inl ⟨by rfl, ?_⟩) (by assumption) ?_
        rotate_left
        focus (intro w hSw; (try dsimp only at hSw); go_simp; first | done | with_reducible rfl)
        try simp only [Act.put, List.setIfInBounds_toArray, List.set_cons_zero, List.set_cons_succ]
        refine wpAnyH_take (i := 12) (oi := ⟨some 26, _, _, _, _, _⟩) (v := ?_) rfl (by kernel_rfl) (by kernel_rfl) (by kernel_rfl) (fun _ _ _ h => h) (Or.inl ⟨by rfl, ?_⟩) (by assumption) ?_
        rotate_left
        focus (intro w hSw; (try dsimp only at hSw); go_simp; first | done | with_reducible rfl)
        try simp only [Act.put, List.setIfInBounds_toArray, List.set_cons_zero, List.set_cons_succ]
        refine wpAnyH_ready (rs := [10]) (by kernel_rfl) (by simp) ?_
        refine AllReadyH.cons (o := ⟨some 24, _, _, _, _, _⟩) rfl (fun K hK => ?_) AllReadyH.nil
        go_simp
        ((with_reducible refine (HBA.out _ hHeld.1.out).mono ?_); rintro e w3 ⟨rfl, hb⟩)
        go_wp2_with fail
        refine hK.out _ _ (by exact ⟨Lib.hid (hHeld.1.out.trans (hb.mono hHeld.1.out.size)), keep_cell hb hHeld.2.1, keep_cell hb hHeld.2.2.1, keep_cell hb hHeld.2.2.2.1, keep_cell hb hHeld.2.2.2.2.1, keep_cell hb hHeld.2.2.2.2.2.1, keep_cell hb hHeld.2.2.2.2.2.2.1, keep_cell hb hHeld.2.2.2.2.2.2.2.1, keep_cell hb hHeld.2.2.2.2.2.2.2.2.1, keep_cell hb hHeld.2.2.2.2.2.2.2.2.2.1, keep_cell hb hHeld.2.2.2.2.2.2.2.2.2.2⟩) (fun hNew => ?_)
        clear hK K
        clear hHeld hb; have hHeld := hNew; clear hNew
        try simp only [Act.put, List.setIfInBounds_toArray, List.set_cons_zero, List.set_cons_succ]
        refine wpAnyH_ready (rs := [13]) (by kernel_rfl) (by simp) ?_
        refine AllReadyH.cons (o := ⟨some 27, _, _, _, _, _⟩) rfl (fun K hK => ?_) AllReadyH.nil
        go_simp
        ((with_reducible refine (HAB.out _ hHeld.1.out).mono ?_); rintro e w3 ⟨rfl, hb⟩)
        go_wp2_with fail
        refine hK.out _ _ (by exact ⟨Lib.hid (hHeld.1.out.trans (hb.mono hHeld.1.out.size)), keep_cell hb hHeld.2.1, keep_cell hb hHeld.2.2.1, keep_cell hb hHeld.2.2.2.1, keep_cell hb hHeld.2.2.2.2.1, keep_cell hb hHeld.2.2.2.2.2.1, keep_cell hb hHeld.2.2.2.2.2.2.1, keep_cell hb hHeld.2.2.2.2.2.2.2.1, keep_cell hb hHeld.2.2.2.2.2.2.2.2.1, keep_cell hb hHeld.2.2.2.2.2.2.2.2.2.1, keep_cell hb hHeld.2.2.2.2.2.2.2.2.2.2⟩) (fun hNew => ?_)
        clear hK K
        clear hHeld hb; have hHeld := hNew; clear hNew
        try simp only [Act.put, List.setIfInBounds_toArray, List.set_cons_zero, List.set_cons_succ]
        refine wpAnyH_take (i := 14) (oi := ⟨some 28, _, _, _, _, _⟩) (v := ?_) rfl (by kernel_rfl) (by kernel_rfl) (by kernel_rfl) (fun _ _ _ h => h) (Or.inl ⟨by rfl, ?_⟩) (by assumption) ?_
        rotate_left
        focus (intro w hSw; (try dsimp only at hSw); go_simp; first | done | with_reducible rfl)
        try simp only [Act.put, List.setIfInBounds_toArray, List.set_cons_zero, List.set_cons_succ]
        refine wpAnyH_take (i := 15) (oi := ⟨some 29, _, _, _, _, _⟩) (v := ?_) rfl (by kernel_rfl) (by kernel_rfl) (by kernel_rfl) (fun _ _ _ h => h) (Or.inl ⟨by rfl, ?_⟩) (by assumption) ?_
        rotate_left
        focus (intro w hSw; (try dsimp only at hSw); go_simp; first | done | with_reducible rfl)
        try simp only [Act.put, List.setIfInBounds_toArray, List.set_cons_zero, List.set_cons_succ]
        refine wpAnyH_take (i := 16) (oi := ⟨some 30, _, _, _, _, _⟩) (v := ?_) rfl (by kernel_rfl) (by kernel_rfl) (by kernel_rfl) (fun _ _ _ h => h) (Or.inl ⟨by rfl, ?_⟩) (by assumption) ?_
        rotate_left
        focus (intro w hSw; (try dsimp only at hSw); go_simp; first | done | with_reducible rfl)
        try simp only [Act.put, List.setIfInBounds_toArray, List.set_cons_zero, List.set_cons_succ]
        refine wpAnyH_take (i := 17) (oi := ⟨some 31, _, _, _, _, _⟩) (v := ?_) rfl (by kernel_rfl) (by kernel_rfl) (by kernel_rfl) (fun _ _ _ h => h) (Or.inl ⟨by rfl, ?_⟩) (by assumption) ?_
        rotate_left
        focus (intro w hSw; (try dsimp only at hSw); go_simp; first | done | with_reducible rfl)
        try simp only [Act.put, List.setIfInBounds_toArray, List.set_cons_zero, List.set_cons_succ]
        refine wpAnyH_take (i := 18) (oi := ⟨some 32, _, _, _, _, _⟩) (v := ?_) rfl (by kernel_rfl) (by kernel_rfl) (by kernel_rfl) (fun _ _ _ h => h) (Or.inl ⟨by rfl, ?_⟩) (by assumption) ?_
        rotate_left
        focus (intro w hSw; (try dsimp only at hSw); go_simp; first | done | with_reducible rfl)
        try simp only [Act.put, List.setIfInBounds_toArray, List.set_cons_zero, List.set_cons_succ]
        refine wpAnyH_ready (rs := [19]) (by kernel_rfl) (by simp) ?_
        refine AllReadyH.cons (o := ⟨some 33, _, _, _, _, _⟩) rfl (fun K hK => ?_) AllReadyH.nil
        go_simp
        ((with_reducible refine (HAA.out _ hHeld.1.out).mono ?_); rintro e w3 ⟨rfl, hb⟩)
        go_wp2_with fail
        refine hK.out _ _ (by exact ⟨Lib.hid (hHeld.1.out.trans (hb.mono hHeld.1.out.size)), keep_cell hb hHeld.2.1, keep_cell hb hHeld.2.2.1, keep_cell hb hHeld.2.2.2.1, keep_cell hb hHeld.2.2.2.2.1, keep_cell hb hHeld.2.2.2.2.2.1, keep_cell hb hHeld.2.2.2.2.2.2.1, keep_cell hb hHeld.2.2.2.2.2.2.2.1, keep_cell hb hHeld.2.2.2.2.2.2.2.2.1, keep_cell hb hHeld.2.2.2.2.2.2.2.2.2.1, keep_cell hb hHeld.2.2.2.2.2.2.2.2.2.2⟩) (fun hNew => ?_)
        clear hK K
        clear hHeld hb; have hHeld := hNew; clear hNew
        try simp only [Act.put, List.setIfInBounds_toArray, List.set_cons_zero, List.set_cons_succ]
        refine wpAnyH_take (i := 20) (oi := ⟨some 34, _, _, _, _, _⟩) (v := ?_) rfl (by kernel_rfl) (by kernel_rfl) (by kernel_rfl) (fun _ _ _ h => h) (Or.inl ⟨by rfl, ?_⟩) (by assumption) ?_
        rotate_left
        focus (intro w hSw; (try dsimp only at hSw); go_simp; first | done | with_reducible rfl)
        try simp only [Act.put, List.setIfInBounds_toArray, List.set_cons_zero, List.set_cons_succ]
        refine wpAnyH_take (i := 21) (oi := ⟨some 35, _, _, _, _, _⟩) (v := ?_) rfl (by kernel_rfl) (by kernel_rfl) (by kernel_rfl) (fun _ _ _ h => h) (Or.inl ⟨by rfl, ?_⟩) (by assumption) ?_
        rotate_left
        focus (intro w hSw; (try dsimp only at hSw); go_simp; first | done | with_reducible rfl)
        try simp only [Act.put, List.setIfInBounds_toArray, List.set_cons_zero, List.set_cons_succ]
        refine wpAnyH_take (i := 22) (oi := ⟨some 36, _, _, _, _, _⟩) (v := ?_) rfl (by kernel_rfl) (by kernel_rfl) (by kernel_rfl) (fun _ _ _ h => h) (Or.inl ⟨by rfl, ?_⟩) (by assumption) ?_
        rotate_left
        focus (intro w hSw; (try dsimp only at hSw); go_simp; first | done | with_reducible rfl)
        try simp only [Act.put, List.setIfInBounds_toArray, List.set_cons_zero, List.set_cons_succ]
        refine wpAnyH_take (i := 23) (oi := ⟨some 37, _, _, _, _, _⟩) (v := ?_) rfl (by kernel_rfl) (by kernel_rfl) (by kernel_rfl) (fun _ _ _ h => h) (Or.inl ⟨by rfl, ?_⟩) (by assumption) ?_
        rotate_left
        focus (intro w hSw; (try dsimp only at hSw); go_simp; first | done | with_reducible rfl)
        try simp only [Act.put, List.setIfInBounds_toArray, List.set_cons_zero, List.set_cons_succ]
        refine wpAnyH_ready (rs := [24]) (by kernel_rfl) (by simp) ?_
        refine AllReadyH.cons (o := ⟨some 38, _, _, _, _, _⟩) rfl (fun K hK => ?_) AllReadyH.nil
        go_simp
        ((with_reducible refine (HAB.out _ hHeld.1.out).mono ?_); rintro e w3 ⟨rfl, hb⟩)
        go_wp2_with fail
        refine hK.out _ _ (by exact ⟨Lib.hid (hHeld.1.out.trans (hb.mono hHeld.1.out.size)), keep_cell hb hHeld.2.1, keep_cell hb hHeld.2.2.1, keep_cell hb hHeld.2.2.2.1, keep_cell hb hHeld.2.2.2.2.1, keep_cell hb hHeld.2.2.2.2.2.1, keep_cell hb hHeld.2.2.2.2.2.2.1, keep_cell hb hHeld.2.2.2.2.2.2.2.1, keep_cell hb hHeld.2.2.2.2.2.2.2.2.1, keep_cell hb hHeld.2.2.2.2.2.2.2.2.2.1, keep_cell hb hHeld.2.2.2.2.2.2.2.2.2.2⟩) (fun hNew => ?_)
        clear hK K
        clear hHeld hb; have hHeld := hNew; clear hNew
        try simp only [Act.put, List.setIfInBounds_toArray, List.set_cons_zero, List.set_cons_succ]
        refine wpAnyH_take (i := 25) (oi := ⟨some 39, _, _, _, _, _⟩) (v := ?_) rfl (by kernel_rfl) (by kernel_rfl) (by kernel_rfl) (fun _ _ _ h => h) (Or.inl ⟨by rfl, ?_⟩) (by assumption) ?_
        rotate_left
        focus (intro w hSw; (try dsimp only at hSw); go_simp; first | done | with_reducible rfl)
        try simp only [Act.put, List.setIfInBounds_toArray, List.set_cons_zero, List.set_cons_succ]
        refine wpAnyH_take (i := 26) (oi := ⟨some 40, _, _, _, _, _⟩) (v := ?_) rfl (by kernel_rfl) (by kernel_rfl) (by kernel_rfl) (fun _ _ _ h => h) (Or.inl ⟨by rfl, ?_⟩) (by assumption) ?_
        rotate_left
        focus (intro w hSw; (try dsimp only at hSw); go_simp; first | done | with_reducible rfl)
        try simp only [Act.put, List.setIfInBounds_toArray, List.set_cons_zero, List.set_cons_succ]
        refine wpAnyH_take (i := 27) (oi := ⟨some 41, _, _, _, _, _⟩) (v := ?_) rfl (by kernel_rfl) (by kernel_rfl) (by kernel_rfl) (fun _ _ _ h => h) (Or.inl ⟨by rfl, ?_⟩) (by assumption) ?_
        rotate_left
        focus (intro w hSw; (try dsimp only at hSw); go_simp; first | done | with_reducible rfl)
        try simp only [Act.put, List.setIfInBounds_toArray, List.set_cons_zero, List.set_cons_succ]
        refine wpAnyH_take (i := 29) (oi := ⟨some 43, _, _, _, _, _⟩) (v := ?_) rfl (by kernel_rfl) (by kernel_rfl) (by kernel_rfl) (fun _ _ _ h => h) (Or.inl ⟨by rfl, ?_⟩) (by assumption) ?_
        rotate_left
        focus (intro w hSw; (try dsimp only at hSw); go_simp; first | done | with_reducible rfl)
        try simp only [Act.put, List.setIfInBounds_toArray, List.set_cons_zero, List.set_cons_succ]
        refine wpAnyH_ready (rs := [28]) (by kernel_rfl) (by simp) ?_
        refine AllReadyH.cons (o := ⟨some 42, _, _, _, _, _⟩) rfl (fun K hK => ?_) AllReadyH.nil
        go_simp
        ((with_reducible refine (HZA.out _ hHeld.1.out).mono ?_); rintro e w3 ⟨rfl, hb⟩)
        go_wp2_with fail
        refine hK.out _ _ (by exact ⟨Lib.hid (hHeld.1.out.trans (hb.mono hHeld.1.out.size)), keep_cell hb hHeld.2.1, keep_cell hb hHeld.2.2.1, keep_cell hb hHeld.2.2.2.1, keep_cell hb hHeld.2.2.2.2.1, keep_cell hb hHeld.2.2.2.2.2.1, keep_cell hb hHeld.2.2.2.2.2.2.1, keep_cell hb hHeld.2.2.2.2.2.2.2.1, keep_cell hb hHeld.2.2.2.2.2.2.2.2.1, keep_cell hb hHeld.2.2.2.2.2.2.2.2.2.1, keep_cell hb hHeld.2.2.2.2.2.2.2.2.2.2⟩) (fun hNew => ?_)
        clear hK K
        clear hHeld hb; have hHeld := hNew; clear hNew
        try simp only [Act.put, List.setIfInBounds_toArray, List.set_cons_zero, List.set_cons_succ]
        refine wpAnyH_ready (rs := [30]) (by kernel_rfl) (by simp) ?_
        refine AllReadyH.cons (o := ⟨some 44, _, _, _, _, _⟩) rfl (fun K hK => ?_) AllReadyH.nil
        go_simp
        ((with_reducible refine (HZB.out _ hHeld.1.out).mono ?_); rintro e w3 ⟨rfl, hb⟩)
        go_wp2_with fail
        refine hK.out _ _ (by exact ⟨Lib.hid (hHeld.1.out.trans (hb.mono hHeld.1.out.size)), keep_cell hb hHeld.2.1, keep_cell hb hHeld.2.2.1, keep_cell hb hHeld.2.2.2.1, keep_cell hb hHeld.2.2.2.2.1, keep_cell hb hHeld.2.2.2.2.2.1, keep_cell hb hHeld.2.2.2.2.2.2.1, keep_cell hb hHeld.2.2.2.2.2.2.2.1, keep_cell hb hHeld.2.2.2.2.2.2.2.2.1, keep_cell hb hHeld.2.2.2.2.2.2.2.2.2.1, keep_cell hb hHeld.2.2.2.2.2.2.2.2.2.2⟩) (fun hNew => ?_)
        clear hK K
        clear hHeld hb; have hHeld := hNew; clear hNew
        try simp only [Act.put, List.setIfInBounds_toArray, List.set_cons_zero, List.set_cons_succ]
        refine wpAnyH_take (i := 31) (oi := ⟨some 45, _, _, _, _, _⟩) (v := ?_) rfl (by kernel_rfl) (by kernel_rfl) (by kernel_rfl) (fun _ _ _ h => h) (Or.inl ⟨by rfl, ?_⟩) (by assumption) ?_
        rotate_left
        focus (intro w hSw; (try dsimp only at hSw); go_simp; first | done | with_reducible rfl)
        try simp only [Act.put, List.setIfInBounds_toArray, List.set_cons_zero, List.set_cons_succ]
        refine wpAnyH_take (i := 32) (oi := ⟨some 46, _, _, _, _, _⟩) (v := ?_) rfl (by kernel_rfl) (by kernel_rfl) (by kernel_rfl) (fun _ _ _ h => h) (Or.inl ⟨by rfl, ?_⟩) (by assumption) ?_
        rotate_left
        focus (intro w hSw; (try dsimp only at hSw); go_simp; first | done | with_reducible rfl)
        try simp only [Act.put, List.setIfInBounds_toArray, List.set_cons_zero, List.set_cons_succ]
        refine wpAnyH_take (i := 33) (oi := ⟨some 47, _, _, _, _, _⟩) (v := ?_) rfl (by kernel_rfl) (by kernel_rfl) (by kernel_rfl) (fun _ _ _ h => h) (Or.inl ⟨by rfl, ?_⟩) (by assumption) ?_
        rotate_left
        focus (intro w hSw; (try dsimp only at hSw); go_simp; first | done | with_reducible rfl)
        try simp only [Act.put, List.setIfInBounds_toArray, List.set_cons_zero, List.set_cons_succ]
        refine wpAnyH_take (i := 34) (oi := ⟨some 48, _, _, _, _, _⟩) (v := ?_) rfl (by kernel_rfl) (by kernel_rfl) (by kernel_rfl) (fun _ _ _ h => h) (Or.inl ⟨by rfl, ?_⟩) (by assumption) ?_
        rotate_left
        focus (intro w hSw; (try dsimp only at hSw); go_simp; first | done | with_reducible rfl)
        try simp only [Act.put, List.setIfInBounds_toArray, List.set_cons_zero, List.set_cons_succ]
        refine wpAnyH_ready (rs := [35]) (by kernel_rfl) (by simp) ?_
        refine AllReadyH.cons (o := ⟨some 49, _, _, _, _, _⟩) rfl (fun K hK => ?_) AllReadyH.nil
        go_simp
        ((with_reducible refine (alive_ok _).mono ?_); rintro e w3 ⟨rfl, hb⟩)
        go_wp2_with fail
        refine hK.out _ _ (by exact ⟨Lib.hid (hHeld.1.out.trans (hb.mono hHeld.1.out.size)), keep_cell hb hHeld.2.1, keep_cell hb hHeld.2.2.1, keep_cell hb hHeld.2.2.2.1, keep_cell hb hHeld.2.2.2.2.1, keep_cell hb hHeld.2.2.2.2.2.1, keep_cell hb hHeld.2.2.2.2.2.2.1, keep_cell hb hHeld.2.2.2.2.2.2.2.1, keep_cell hb hHeld.2.2.2.2.2.2.2.2.1, keep_cell hb hHeld.2.2.2.2.2.2.2.2.2.1, keep_cell hb hHeld.2.2.2.2.2.2.2.2.2.2⟩) (fun hNew => ?_)
        clear hK K
        clear hHeld hb; have hHeld := hNew; clear hNew
        try simp only [Act.put, List.setIfInBounds_toArray, List.set_cons_zero, List.set_cons_succ]
        refine wpAnyH_take (i := 36) (oi := ⟨some 50, _, _, _, _, _⟩) (v := ?_) rfl (by kernel_rfl) (by kernel_rfl) (by kernel_rfl) (fun _ _ _ h => h) (Or.inl ⟨by rfl, ?_⟩) (by assumption) ?_
        rotate_left
        focus (intro w hSw; (try dsimp only at hSw); go_simp; first | done | with_reducible rfl)
        try simp only [Act.put, List.setIfInBounds_toArray, List.set_cons_zero, List.set_cons_succ]
        refine wpAnyH_take (i := 37) (oi := ⟨some 4, _, _, _, _, _⟩) (v := ?_) rfl (by kernel_rfl) (by kernel_rfl) (by kernel_rfl) (fun _ _ _ h => h) (Or.inl ⟨by rfl, ?_⟩) (by assumption) ?_
        rotate_left
        focus (intro w hSw; (try dsimp only at hSw); go_simp; first | done | with_reducible rfl)
        try simp only [Act.put, List.setIfInBounds_toArray, List.set_cons_zero, List.set_cons_succ]
        refine wpAnyH_done (by kernel_rfl) ?_ _
        go_wp2
        go_ret
        exact ⟨rfl, HB2.out.trans (hHeld.1.out.mono HB2.out.size)⟩
end Go.Proofs.YthcpmdgdbceeiaaGreatDoor
