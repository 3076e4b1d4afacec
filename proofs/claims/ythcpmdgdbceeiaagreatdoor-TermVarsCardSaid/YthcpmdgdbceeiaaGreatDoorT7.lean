/- Is a name as it should be? Are all Kids? -/
import Derived.Test.YthcpmdgdbceeiaaGreatDoorT6
namespace Go.Proofs.YthcpmdgdbceeiaaGreatDoor
open Go.RowKit
/-- A call that answers true. -/
def Yes (w : World) (e : Ending) (w' : World) : Prop := e = .returned (.bool true) ∧ Below w.heap.size w w'
theorem qualified_ok (kind k : Int) (n : ByteArray) (s : Value) (h : TokenOk kind n) (hs : ∃ q l c, s = .slice q l c) (w : World) : Calls Tryz.prog 31 #[tv k ⟨#[]⟩ n 0 s, .int .i64 kind] w (Yes w) := by
  unfold TokenOk at h
  have HT := Lib.hid h
  obtain ⟨q, l, c, rfl⟩ := hs
  clear h
  go_enter Tryz.func31, Tryz.ntmps31
  go_wp2_with (go_at_call 57; ((with_reducible refine (HT.out _).mono ?_); rintro e w1 ⟨rfl, hb⟩; obtain ⟨hc, hf⟩ := bcell hb; have z1 := hb.size; rw [World.size_alloc] at z1; have y1 : w.heap.size < w1.heap.size := (by omega)))
  go_ret
  exact ⟨rfl, (below_alloc w _).trans (hb.mono (by simp))⟩
theorem named_ok (kind k : Int) (n : ByteArray) (s : Value) (h : TokenOk kind n) (hs : ∃ q l c, s = .slice q l c) (w : World) : Calls Tryz.prog 29 #[tv k ⟨#[]⟩ n 0 s, .int .i64 kind] w (Yes w) := by
  have HT := Lib.hid (fun W => qualified_ok kind k n s h hs W)
  obtain ⟨q, l, c, rfl⟩ := hs
  clear h
  go_enter Tryz.func29, Tryz.ntmps29
  go_wp2_with (go_at_call 31; ((with_reducible refine (HT.out _).mono ?_); rintro e w1 ⟨rfl, hb⟩))
  go_ret
  exact ⟨rfl, (below_alloc w _).trans (hb.mono (by simp))⟩
theorem bare_ok (k : Int) (s : Value) (hs : ∃ q l c, s = .slice q l c) (w : World) : Calls Tryz.prog 33 #[tv k ⟨#[]⟩ ⟨#[]⟩ 0 s] w (Yes w) := by
  obtain ⟨q, l, c, rfl⟩ := hs
  go_enter Tryz.func33, Tryz.ntmps33
  go_wp2
  go_ret
  exact ⟨rfl, below_alloc w _⟩
/-- All Kids of a list, each at most so deep, are such that a function answers true of each. -/
def AllYes (K d : Nat) (kids : List Tm) : Prop := ∀ (i : Nat) (x : Tm), kids[i]? = some x → ∀ (v : Value) (W : World), IsT W d v x → Calls Tryz.prog K #[v] W (Yes W)
set_option maxRecDepth 100000 in
set_option maxHeartbeats 1000000 in
theorem areAll_ok (d : Nat) (kids : List Tm) (h : AllYes 9 d kids) (s : Value) (w : World) (hk : KidsT w d s kids) : Calls Tryz.prog 32 #[s, .func (.func 9) #[] #[]] w (Yes w) := by
  obtain ⟨q, c, rfl, hm, hr⟩ := hk
  unfold maxLen at hm
  have HR := Lib.hid hr
  unfold AllYes at h
  have HA := Lib.hid h
  clear hr h
  go_enter Tryz.func32, Tryz.ntmps32
  go_wp2
  go_loopw [9] (fun i wr => ∃ k : Nat, k ≤ kids.length ∧ i = .int .i64 k ∧ Below w.heap.size w wr) (fun i _ => kids.length - (intOf i).toNat)
  case atStart => exact ⟨0, Nat.zero_le _, rfl, Below.refl _ _⟩
  case round =>
    obtain ⟨k, hk, rfl, hB⟩ := hrel
    have hzr := hB.size
    have HB := Lib.hid hB
    by_cases hlt : k < kids.length
    · have hx1 := List.getElem?_eq_getElem hlt
      generalize kids[k] = x at *
      obtain ⟨b1, o1, k1', p1', n1', N1', s1', hq1, ha1, ht1⟩ := HR.out k x hx1
      subst hq1
      obtain ⟨q3, l3, c3, hs3⟩ := ht1.spell
      subst hs3
      obtain ⟨x0, x1, x2, x3, x4⟩ := ha1.below hB ha1.lt
      have HC : RowKit.Hid (∀ W, Below wr.heap.size wr W → Calls Tryz.prog 9 #[tv k1' p1' n1' N1' (.slice q3 l3 c3)] W (Yes W)) :=
        Lib.hid fun W hW => HA.out k x hx1 _ W ((ht1.below hB).below hW)
      clear hx1 ht1 ha1 hB
      go_wp2_with (go_at_call 9; ((with_reducible refine (HC.out _ (below_alloc wr _)).mono ?_); rintro e w3 ⟨rfl, hb⟩))
      have HQ := Lib.hid (HB.out.trans (((below_alloc wr _).trans (hb.mono (by simp))).mono hzr))
      go_roundw
      case rel => exact ⟨k + 1, by omega, by go_num, HQ.out⟩
      case measure => simp [intOf]; omega
    · obtain rfl : k = kids.length := by omega
      go_wp2
      go_ret
      exact ⟨rfl, HB.out⟩
set_option maxRecDepth 100000 in
set_option maxHeartbeats 2000000 in
theorem isOf_ok9 (d : Nat) (kids : List Tm) (h : AllYes 9 d kids) (s : Value) (g : Nat) (w : World) (hk : KidsT w d s kids) (hg : ∀ j, j < kids.length → w.cell? ⟨g, j, none⟩ = some (.func (.func 9) #[] #[])) (hgw : g < w.heap.size) :
    Calls Tryz.prog 30 #[s, .slice (some ⟨g, 0, none⟩) kids.length kids.length] w (Yes w) := by
  obtain ⟨q, c, rfl, hm, hr⟩ := hk
  unfold maxLen at hm
  have HR := Lib.hid hr
  have HG := Lib.hid hg
  unfold AllYes at h
  have HA := Lib.hid h
  clear hr h hg
  go_enter Tryz.func30, Tryz.ntmps30
  go_wp2
  go_loopw [14] (fun i wr => ∃ k : Nat, k ≤ kids.length ∧ i = .int .i64 k ∧ Below w.heap.size w wr) (fun i _ => kids.length - (intOf i).toNat)
  case atStart => exact ⟨0, Nat.zero_le _, rfl, Below.refl _ _⟩
  case round =>
    obtain ⟨k, hk, rfl, hB⟩ := hrel
    have hzr := hB.size
    have HB := Lib.hid hB
    by_cases hlt : k < kids.length
    · have hx1 := List.getElem?_eq_getElem hlt
      generalize kids[k] = x at *
      obtain ⟨b1, o1, k1', p1', n1', N1', s1', hq1, ha1, ht1⟩ := HR.out k x hx1
      subst hq1
      obtain ⟨q3, l3, c3, hs3⟩ := ht1.spell
      subst hs3
      obtain ⟨x0, x1, x2, x3, x4⟩ := ha1.below hB ha1.lt
      have m0 : wr.cell? ⟨g, k, none⟩ = some (.func (.func 9) #[] #[]) := (hB.cell (p := ⟨g, k, none⟩) hgw).trans (HG.out k hlt)
      have HC : RowKit.Hid (∀ W, Below wr.heap.size wr W → Calls Tryz.prog 9 #[tv k1' p1' n1' N1' (.slice q3 l3 c3)] W (Yes W)) :=
        Lib.hid fun W hW => HA.out k x hx1 _ W ((ht1.below hB).below hW)
      have hki : (k : Int) < (kids.length : Int) := by omega
      have hgr : g < wr.heap.size := by omega
      have k0 := hb_new wr (.cells #[.int .i64 k1', .string p1', .string n1', .int .i64 N1', .slice q3 l3 c3] 24)
      have K0 := Lib.hid k0
      clear hx1 ht1 ha1 hB k0
      go_wp2
      refine wp_region_held_drew (S := (fun w' => RowKit.Hid (Below wr.heap.size wr w') ∧ w'.cell? ⟨g, k, none⟩ = some (.func (.func 9) #[] #[]) ∧ w'.cell? ⟨wr.heap.size, 0, none⟩ = some (.int .i64 k1') ∧ w'.cell? ⟨wr.heap.size, 1, none⟩ = some (.string p1') ∧ w'.cell? ⟨wr.heap.size, 2, none⟩ = some (.string n1') ∧ w'.cell? ⟨wr.heap.size, 3, none⟩ = some (.int .i64 N1') ∧ w'.cell? ⟨wr.heap.size, 4, none⟩ = some (.slice q3 l3 c3))) (by kernel_rfl) (by exact ⟨Lib.hid (below_drewN (below_alloc wr _) 1), keep_cell (below_drewN (below_alloc wr (.cells #[.int .i64 k1', .string p1', .string n1', .int .i64 N1', .slice q3 l3 c3] 24)) 1) m0, hb_at K0.out 0 rfl, hb_at K0.out 1 rfl, hb_at K0.out 2 rfl, hb_at K0.out 3 rfl, hb_at K0.out 4 rfl⟩) (fun hHeld => ?_)
      refine wpAnyH_take (i := 0) (oi := ⟨some 19, _, _, _, _, _⟩) (v := ?_) rfl (by kernel_rfl) (by kernel_rfl) (by kernel_rfl) (fun _ _ _ h => h) (Or.inl ⟨by rfl, ?_⟩) (by assumption) ?_
      rotate_left
      focus (intro w hSw; (try dsimp only at hSw); go_simp; first | done | with_reducible rfl)
      try simp only [Act.put, List.setIfInBounds_toArray, List.set_cons_zero, List.set_cons_succ]
      refine wpAnyH_take (i := 1) (oi := ⟨some 20, _, _, _, _, _⟩) (v := ?_) rfl (by kernel_rfl) (by kernel_rfl) (by kernel_rfl) (fun _ _ _ h => h) (Or.inl ⟨by rfl, ?_⟩) (by assumption) ?_
      rotate_left
      focus (intro w hSw; (try dsimp only at hSw); go_simp; first | done | with_reducible rfl)
      try simp only [Act.put, List.setIfInBounds_toArray, List.set_cons_zero, List.set_cons_succ]
      refine wpAnyH_take (i := 2) (oi := ⟨some 21, _, _, _, _, _⟩) (v := ?_) rfl (by kernel_rfl) (by kernel_rfl) (by kernel_rfl) (fun _ _ _ h => h) (Or.inl ⟨by rfl, ?_⟩) (by assumption) ?_
      rotate_left
      focus (intro w hSw; (try dsimp only at hSw); go_simp; first | done | with_reducible rfl)
      try simp only [Act.put, List.setIfInBounds_toArray, List.set_cons_zero, List.set_cons_succ]
      refine wpAnyH_take (i := 3) (oi := ⟨some 22, _, _, _, _, _⟩) (v := ?_) rfl (by kernel_rfl) (by kernel_rfl) (by kernel_rfl) (fun _ _ _ h => h) (Or.inl ⟨by rfl, ?_⟩) (by assumption) ?_
      rotate_left
      focus (intro w hSw; (try dsimp only at hSw); go_simp; first | done | with_reducible rfl)
      try simp only [Act.put, List.setIfInBounds_toArray, List.set_cons_zero, List.set_cons_succ]
      refine wpAnyH_take (i := 4) (oi := ⟨some 23, _, _, _, _, _⟩) (v := ?_) rfl (by kernel_rfl) (by kernel_rfl) (by kernel_rfl) (fun _ _ _ h => h) (Or.inl ⟨by rfl, ?_⟩) (by assumption) ?_
      rotate_left
      focus (intro w hSw; (try dsimp only at hSw); go_simp; first | done | with_reducible rfl)
      try simp only [Act.put, List.setIfInBounds_toArray, List.set_cons_zero, List.set_cons_succ]
      refine wpAnyH_ready (rs := [5]) (by kernel_rfl) (by simp) ?_
      refine AllReadyH.cons (o := ⟨some 24, _, _, _, _, _⟩) rfl (fun K hK => ?_) AllReadyH.nil
      go_simp
      ((with_reducible refine (HC.out _ hHeld.1.out).mono ?_); rintro e w3 ⟨rfl, hb⟩)
      go_wp2_with fail
      refine hK.out _ _ (by exact ⟨Lib.hid (hHeld.1.out.trans (hb.mono hHeld.1.out.size)), keep_cell hb hHeld.2.1, keep_cell hb hHeld.2.2.1, keep_cell hb hHeld.2.2.2.1, keep_cell hb hHeld.2.2.2.2.1, keep_cell hb hHeld.2.2.2.2.2.1, keep_cell hb hHeld.2.2.2.2.2.2⟩) (fun hNew => ?_)
      clear hK K
      clear hHeld hb; have hHeld := hNew; clear hNew
      try simp only [Act.put, List.setIfInBounds_toArray, List.set_cons_zero, List.set_cons_succ]
      refine wpAnyH_take (i := 6) (oi := ⟨some 25, _, _, _, _, _⟩) (v := ?_) rfl (by kernel_rfl) (by kernel_rfl) (by kernel_rfl) (fun _ _ _ h => h) (Or.inl ⟨by rfl, ?_⟩) (by assumption) ?_
      rotate_left
      focus (intro w hSw; (try dsimp only at hSw); go_simp; first | done | with_reducible rfl)
      try simp only [Act.put, List.setIfInBounds_toArray, List.set_cons_zero, List.set_cons_succ]
      refine wpAnyH_done (by kernel_rfl) ?_ _
      have HQ := Lib.hid (HB.out.trans (hHeld.1.out.mono hzr))
      clear hHeld
      go_wp2
      go_roundw
      case rel => exact ⟨k + 1, by omega, by go_num, HQ.out⟩
      case measure => simp [intOf]; omega
    · obtain rfl : k = kids.length := by omega
      go_wp2
      go_ret
      exact ⟨rfl, HB.out⟩
set_option maxRecDepth 100000 in
set_option maxHeartbeats 2000000 in
theorem isOf_ok13 (d : Nat) (kids : List Tm) (h : AllYes 13 d kids) (s : Value) (g : Nat) (w : World) (hk : KidsT w d s kids) (hg : ∀ j, j < kids.length → w.cell? ⟨g, j, none⟩ = some (.func (.func 13) #[] #[])) (hgw : g < w.heap.size) :
    Calls Tryz.prog 30 #[s, .slice (some ⟨g, 0, none⟩) kids.length kids.length] w (Yes w) := by
  obtain ⟨q, c, rfl, hm, hr⟩ := hk
  unfold maxLen at hm
  have HR := Lib.hid hr
  have HG := Lib.hid hg
  unfold AllYes at h
  have HA := Lib.hid h
  clear hr h hg
  go_enter Tryz.func30, Tryz.ntmps30
  go_wp2
  go_loopw [14] (fun i wr => ∃ k : Nat, k ≤ kids.length ∧ i = .int .i64 k ∧ Below w.heap.size w wr) (fun i _ => kids.length - (intOf i).toNat)
  case atStart => exact ⟨0, Nat.zero_le _, rfl, Below.refl _ _⟩
  case round =>
    obtain ⟨k, hk, rfl, hB⟩ := hrel
    have hzr := hB.size
    have HB := Lib.hid hB
    by_cases hlt : k < kids.length
    · have hx1 := List.getElem?_eq_getElem hlt
      generalize kids[k] = x at *
      obtain ⟨b1, o1, k1', p1', n1', N1', s1', hq1, ha1, ht1⟩ := HR.out k x hx1
      subst hq1
      obtain ⟨q3, l3, c3, hs3⟩ := ht1.spell
      subst hs3
      obtain ⟨x0, x1, x2, x3, x4⟩ := ha1.below hB ha1.lt
      have m0 : wr.cell? ⟨g, k, none⟩ = some (.func (.func 13) #[] #[]) := (hB.cell (p := ⟨g, k, none⟩) hgw).trans (HG.out k hlt)
      have HC : RowKit.Hid (∀ W, Below wr.heap.size wr W → Calls Tryz.prog 13 #[tv k1' p1' n1' N1' (.slice q3 l3 c3)] W (Yes W)) :=
        Lib.hid fun W hW => HA.out k x hx1 _ W ((ht1.below hB).below hW)
      have hki : (k : Int) < (kids.length : Int) := by omega
      have hgr : g < wr.heap.size := by omega
      have k0 := hb_new wr (.cells #[.int .i64 k1', .string p1', .string n1', .int .i64 N1', .slice q3 l3 c3] 24)
      have K0 := Lib.hid k0
      clear hx1 ht1 ha1 hB k0
      go_wp2
      refine wp_region_held_drew (S := (fun w' => RowKit.Hid (Below wr.heap.size wr w') ∧ w'.cell? ⟨g, k, none⟩ = some (.func (.func 13) #[] #[]) ∧ w'.cell? ⟨wr.heap.size, 0, none⟩ = some (.int .i64 k1') ∧ w'.cell? ⟨wr.heap.size, 1, none⟩ = some (.string p1') ∧ w'.cell? ⟨wr.heap.size, 2, none⟩ = some (.string n1') ∧ w'.cell? ⟨wr.heap.size, 3, none⟩ = some (.int .i64 N1') ∧ w'.cell? ⟨wr.heap.size, 4, none⟩ = some (.slice q3 l3 c3))) (by kernel_rfl) (by exact ⟨Lib.hid (below_drewN (below_alloc wr _) 1), keep_cell (below_drewN (below_alloc wr (.cells #[.int .i64 k1', .string p1', .string n1', .int .i64 N1', .slice q3 l3 c3] 24)) 1) m0, hb_at K0.out 0 rfl, hb_at K0.out 1 rfl, hb_at K0.out 2 rfl, hb_at K0.out 3 rfl, hb_at K0.out 4 rfl⟩) (fun hHeld => ?_)
      refine wpAnyH_take (i := 0) (oi := ⟨some 19, _, _, _, _, _⟩) (v := ?_) rfl (by kernel_rfl) (by kernel_rfl) (by kernel_rfl) (fun _ _ _ h => h) (Or.inl ⟨by rfl, ?_⟩) (by assumption) ?_
      rotate_left
      focus (intro w hSw; (try dsimp only at hSw); go_simp; first | done | with_reducible rfl)
      try simp only [Act.put, List.setIfInBounds_toArray, List.set_cons_zero, List.set_cons_succ]
      refine wpAnyH_take (i := 1) (oi := ⟨some 20, _, _, _, _, _⟩) (v := ?_) rfl (by kernel_rfl) (by kernel_rfl) (by kernel_rfl) (fun _ _ _ h => h) (Or.inl ⟨by rfl, ?_⟩) (by assumption) ?_
      rotate_left
      focus (intro w hSw; (try dsimp only at hSw); go_simp; first | done | with_reducible rfl)
      try simp only [Act.put, List.setIfInBounds_toArray, List.set_cons_zero, List.set_cons_succ]
      refine wpAnyH_take (i := 2) (oi := ⟨some 21, _, _, _, _, _⟩) (v := ?_) rfl (by kernel_rfl) (by kernel_rfl) (by kernel_rfl) (fun _ _ _ h => h) (Or.inl ⟨by rfl, ?_⟩) (by assumption) ?_
      rotate_left
      focus (intro w hSw; (try dsimp only at hSw); go_simp; first | done | with_reducible rfl)
      try simp only [Act.put, List.setIfInBounds_toArray, List.set_cons_zero, List.set_cons_succ]
      refine wpAnyH_take (i := 3) (oi := ⟨some 22, _, _, _, _, _⟩) (v := ?_) rfl (by kernel_rfl) (by kernel_rfl) (by kernel_rfl) (fun _ _ _ h => h) (Or.inl ⟨by rfl, ?_⟩) (by assumption) ?_
      rotate_left
      focus (intro w hSw; (try dsimp only at hSw); go_simp; first | done | with_reducible rfl)
      try simp only [Act.put, List.setIfInBounds_toArray, List.set_cons_zero, List.set_cons_succ]
      refine wpAnyH_take (i := 4) (oi := ⟨some 23, _, _, _, _, _⟩) (v := ?_) rfl (by kernel_rfl) (by kernel_rfl) (by kernel_rfl) (fun _ _ _ h => h) (Or.inl ⟨by rfl, ?_⟩) (by assumption) ?_
      rotate_left
      focus (intro w hSw; (try dsimp only at hSw); go_simp; first | done | with_reducible rfl)
      try simp only [Act.put, List.setIfInBounds_toArray, List.set_cons_zero, List.set_cons_succ]
      refine wpAnyH_ready (rs := [5]) (by kernel_rfl) (by simp) ?_
      refine AllReadyH.cons (o := ⟨some 24, _, _, _, _, _⟩) rfl (fun K hK => ?_) AllReadyH.nil
      go_simp
      ((with_reducible refine (HC.out _ hHeld.1.out).mono ?_); rintro e w3 ⟨rfl, hb⟩)
      go_wp2_with fail
      refine hK.out _ _ (by exact ⟨Lib.hid (hHeld.1.out.trans (hb.mono hHeld.1.out.size)), keep_cell hb hHeld.2.1, keep_cell hb hHeld.2.2.1, keep_cell hb hHeld.2.2.2.1, keep_cell hb hHeld.2.2.2.2.1, keep_cell hb hHeld.2.2.2.2.2.1, keep_cell hb hHeld.2.2.2.2.2.2⟩) (fun hNew => ?_)
      clear hK K
      clear hHeld hb; have hHeld := hNew; clear hNew
      try simp only [Act.put, List.setIfInBounds_toArray, List.set_cons_zero, List.set_cons_succ]
      refine wpAnyH_take (i := 6) (oi := ⟨some 25, _, _, _, _, _⟩) (v := ?_) rfl (by kernel_rfl) (by kernel_rfl) (by kernel_rfl) (fun _ _ _ h => h) (Or.inl ⟨by rfl, ?_⟩) (by assumption) ?_
      rotate_left
      focus (intro w hSw; (try dsimp only at hSw); go_simp; first | done | with_reducible rfl)
      try simp only [Act.put, List.setIfInBounds_toArray, List.set_cons_zero, List.set_cons_succ]
      refine wpAnyH_done (by kernel_rfl) ?_ _
      have HQ := Lib.hid (HB.out.trans (hHeld.1.out.mono hzr))
      clear hHeld
      go_wp2
      go_roundw
      case rel => exact ⟨k + 1, by omega, by go_num, HQ.out⟩
      case measure => simp [intOf]; omega
    · obtain rfl : k = kids.length := by omega
      go_wp2
      go_ret
      exact ⟨rfl, HB.out⟩
end Go.Proofs.YthcpmdgdbceeiaaGreatDoor
