/- LexTells, walked. -/
import Derived.Test.YtpedmkdpbdhenaaGreatDoorNk
import Derived.Test.YtpedmkdpbdhenaaGreatDoorLt
namespace Go.Proofs.YtpedmkdpbdhenaaGreatDoor
open Go.RowKit
set_option linter.unusedSimpArgs false
set_option linter.unusedVariables false
theorem few_each : ∀ (l : List (Tk × Int)) (m : Nat), (l.map fun x => min x.1.s.size 100000).sum ≤ m → m ≤ 4000 → ∀ x ∈ l, x.1.s.size ≤ 4000 := by
  intro l
  induction l with
  | nil => intro m _ _ x hx; cases hx
  | cons y l ih =>
    intro m h hm x hx
    rw [List.map_cons, List.sum_cons] at h
    cases hx with
    | head => omega
    | tail _ hx => exact ih m (by omega) hm x hx
theorem few_join : ∀ (l : List (Tk × Int)) (m : Nat), (l.map fun x => min x.1.s.size 100000).sum ≤ m → m ≤ 4000 → (∀ x ∈ l, Fits x.1) → (joinT (l.map Prod.fst)).length ≤ 2 * (l.map fun x => min x.1.s.size 100000).sum + 23 * l.length := by
  intro l
  induction l with
  | nil => intro m _ _ _; simp [joinT]
  | cons y l ih =>
    intro m h hm hf
    have hy := hf y (List.mem_cons_self ..)
    have h1 := tellT_len y.1 hy.1 hy.2
    rw [List.map_cons, List.sum_cons] at h
    have h2 := ih m (by omega) hm fun x hx => hf x (List.mem_cons_of_mem _ hx)
    rw [List.map_cons, joinT_cons, List.length_append, List.map_cons, List.sum_cons, List.length_cons]
    split
    · simp; omega
    · rw [List.length_cons]; omega
theorem few_mod {l : List (Tk × Int)} (h : FewL l) (hf : ∀ x ∈ l, Fits x.1) : Mod l ∧ (joinT (l.map Prod.fst)).length ≤ 12600 := by
  have h1 := few_each l _ h.2 (Nat.le_refl _)
  have h2 := few_join l _ h.2 (Nat.le_refl _) hf
  have h3 := h.1
  have h4 := h.2
  exact ⟨⟨by omega, fun x hx => ⟨by have := h1 x hx; omega, hf x hx⟩⟩, by omega⟩
theorem TellR.one (l : List (Tk × Int)) : ∃ (D : ByteArray) (E : Int), ∀ w e w', TellR l w e w' → e = .returned (.tuple #[.string D, .int .i64 E]) ∧ Below w.heap.size w w' := by
  by_cases hA : AllR l
  · exact ⟨_, _, fun w e w' h => h.yes hA⟩
  · exact ⟨_, _, fun w e w' h => h.no hA⟩
theorem keep_cell {w w' : World} {a : Addr} {v : Value} (hb : Below w.heap.size w w') (h : w.cell? a = some v) : w'.cell? a = some v := by
  rw [hb.cell (block_lt_of_cell h), h]
theorem LxW.esc {w : World} (h : LxW w) : EscW w := h.1
set_option maxHeartbeats 8000000 in
set_option maxRecDepth 100000 in
theorem tells_any (v : Value) (l : List (Tk × Int)) (s : ByteArray) (w : World) (hv : TksAt w v l) (hm : l.length ≤ maxLen) (hz : ∀ x ∈ l, x.1.s.size ≤ maxLen) (hf : ∀ x ∈ l, Fits x.1) (hw : LxW w) :
    Calls Tryz.prog 3 #[v, .string s] w fun e w' => e = .returned (.bool true) ∧ Below w.heap.size w w' := by
  have HFEW := Lib.hid (few_any v l w hv hm hz)
  have HALV := Lib.hid (fun W hW => alive_any W hW)
  have HW := Lib.hid hw
  have HV := Lib.hid hv
  clear hw
  by_cases hF : FewL l
  rotate_left
  · rw [fewB_no hF] at HFEW
    clear hF hv
    go_enter Tryz.func3, Tryz.ntmps3
    go_wp2_with (first
      | (go_at_call 4; refine HFEW.out.mono ?_; rintro e w1 ⟨rfl, rfl⟩)
      | (go_at_call 5; refine (HALV.out _ HW.out).mono ?_; rintro e w1 ⟨rfl, hb⟩))
    go_ret
    exact ⟨rfl, hb⟩
  rw [fewB_yes hF] at HFEW
  obtain ⟨hmod, hjl⟩ := few_mod hF hf
  have HMOD := Lib.hid hmod
  by_cases hbig : 1000 < s.size
  · have d0 : decide ((1000 : Int) < (s.size : Int)) = true := by simp; omega
    clear hF hv hmod hjl hbig
    go_enter Tryz.func3, Tryz.ntmps3
    go_wp2_with (first
      | (go_at_call 4; refine HFEW.out.mono ?_; rintro e w1 ⟨rfl, rfl⟩)
      | (go_at_call 5; refine (HALV.out _ HW.out).mono ?_; rintro e w1 ⟨rfl, hb⟩))
    go_ret
    exact ⟨rfl, hb⟩
  have d0 : decide ((1000 : Int) < (s.size : Int)) = false := by simp; omega
  obtain ⟨D, E, hDE⟩ := TellR.one l
  have HTA := Lib.hid ((tellAll_any v l w hv hmod HW.out).mono fun e w' h => hDE _ _ _ h)
  have HTD := Lib.hid (fun W (hb : Below w.heap.size w W) => (tell_doc v l W (hv.below hb) hmod).mono fun e w' h => hDE _ _ _ h)
  have g1 : (D.toList == D.toList) = true := by simp
  have g2 : (E == E) = true := by simp
  obtain ⟨K, hK⟩ : ∃ K, keyB s = K := ⟨_, rfl⟩
  have g3 : (K == K) = true := by simp
  have HKY := Lib.hid (fun W => keyword_any s W)
  have HKS := Lib.hid (fun W => keywords_any W)
  have HIN := Lib.hid (fun V W (h : SAt W V keyL) => by
    have := inD_any s V keyL W h (by decide)
    rw [key_in] at this
    exact this)
  rw [hK] at HKY
  simp only [hK] at HIN
  obtain ⟨q, c, hsh, hr⟩ := hv
  subst hsh
  have HR := Lib.hid hr
  have hl := hmod.1
  clear hF hmod hjl hbig hK hDE hr
  go_enter Tryz.func3, Tryz.ntmps3
  go_wp2_with (first
    | (go_at_call 4; with_reducible refine HFEW.out.mono ?_; rintro e w1 ⟨rfl, rfl⟩)
    | (go_at_call 6; with_reducible refine HTA.out.mono ?_; rintro e w2 ⟨rfl, hb2⟩; have HB2 := Lib.hid hb2; clear hb2)
    | (go_at_call 7; with_reducible refine (HTD.out _ HB2.out).mono ?_; rintro e w3 ⟨rfl, hb3⟩; have HB3 := Lib.hid (HB2.out.trans (hb3.mono HB2.out.size)); clear hb3))
  go_loopw [9, 31] (fun _ i wr => ∃ k : Nat, i = .int .i64 k ∧ k ≤ l.length ∧ Below w.heap.size w wr) (fun _ i _ => l.length - (intOf i).toNat)
  case atStart => exact ⟨0, rfl, Nat.zero_le _, HB3.out⟩
  case round =>
    obtain ⟨k, rfl, hk, hB⟩ := hrel
    have HB := Lib.hid hB
    have hws := hB.size
    clear hB
    by_cases hlt : k < l.length
    · have hki : (k : Int) < (l.length : Int) := by omega
      have hx := List.getElem?_eq_getElem hlt
      generalize l[k] = x at *
      have hxm : x ∈ l := List.mem_of_getElem? hx
      obtain ⟨hs1, hs2⟩ := HMOD.out.2 x hxm
      have HRA := Lib.hid (fun W hW => right_any x.1 x.2 hs1 hs2 W hW)
      have HRD := Lib.hid (fun W => right_doc x.1 x.2 hs1 W)
      obtain ⟨b, o, hqe, ha⟩ := HR.out k x hx
      subst hqe
      obtain ⟨x0, x1, x2, x3⟩ := ha.below HB.out
      clear ha hx hxm hs1 hs2
      obtain ⟨⟨tk, ts, tn⟩, ta⟩ := x
      simp only [] at x0 x1 x2 x3
      obtain ⟨R, hRR⟩ : ∃ R, rightB ⟨tk, ts, tn⟩ = R := ⟨_, rfl⟩
      have g4 : (R != R) = false := by simp
      simp only [hRR] at HRA HRD
      have HRA2 : RowKit.Hid (∀ W, LxW W → Calls Tryz.prog 8 #[.agg #[.int .i64 tk, .string ts, .int .i64 tn, .int .i64 ta]] W fun e w' => e = .returned (.bool R) ∧ Below W.heap.size W w') := HRA
      have HRD2 : RowKit.Hid (∀ W, Calls Tryz.prog 9 #[.agg #[.int .i64 tk, .string ts, .int .i64 tn, .int .i64 ta]] W fun e w' => e = .returned (.bool R) ∧ Below W.heap.size W w') := HRD
      clear HRA HRD hRR
      have HRA := HRA2
      have HRD := HRD2
      clear HRA2 HRD2
      go_wp2_with fail
      refine wp_region_held_drew (S := (fun w' => RowKit.Hid (Below wr.heap.size wr w') ∧ w'.cell? ⟨b, o + k * 4, none⟩ = some (.int .i64 tk) ∧ w'.cell? ⟨b, o + k * 4 + 1, none⟩ = some (.string ts) ∧ w'.cell? ⟨b, o + k * 4 + 2, none⟩ = some (.int .i64 tn) ∧ w'.cell? ⟨b, o + k * 4 + 3, none⟩ = some (.int .i64 ta))) (by kernel_rfl) (by exact ⟨Lib.hid (below_drewN (Below.refl _ _) 1), x0, x1, x2, x3⟩) (fun hHeld => ?_)
      refine wpAnyH_take (i := 0) (oi := ⟨some 34, _, _, _, _, _⟩) (v := ?_) rfl (by kernel_rfl) (by kernel_rfl) (by kernel_rfl) (fun _ _ _ h => h) (Or.inl ⟨by rfl, ?_⟩) (by assumption) ?_
      rotate_left
      focus (intro w hSw; (try dsimp only at hSw); go_simp; first | done | with_reducible rfl)
      try simp only [Act.put, List.setIfInBounds_toArray, List.set_cons_zero, List.set_cons_succ]
      refine wpAnyH_take (i := 1) (oi := ⟨some 35, _, _, _, _, _⟩) (v := ?_) rfl (by kernel_rfl) (by kernel_rfl) (by kernel_rfl) (fun _ _ _ h => h) (Or.inl ⟨by rfl, ?_⟩) (by assumption) ?_
      rotate_left
      focus (intro w hSw; (try dsimp only at hSw); go_simp; first | done | with_reducible rfl)
      try simp only [Act.put, List.setIfInBounds_toArray, List.set_cons_zero, List.set_cons_succ]
      refine wpAnyH_take (i := 2) (oi := ⟨some 36, _, _, _, _, _⟩) (v := ?_) rfl (by kernel_rfl) (by kernel_rfl) (by kernel_rfl) (fun _ _ _ h => h) (Or.inl ⟨by rfl, ?_⟩) (by assumption) ?_
      rotate_left
      focus (intro w hSw; (try dsimp only at hSw); go_simp; first | done | with_reducible rfl)
      try simp only [Act.put, List.setIfInBounds_toArray, List.set_cons_zero, List.set_cons_succ]
      refine wpAnyH_take (i := 3) (oi := ⟨some 37, _, _, _, _, _⟩) (v := ?_) rfl (by kernel_rfl) (by kernel_rfl) (by kernel_rfl) (fun _ _ _ h => h) (Or.inl ⟨by rfl, ?_⟩) (by assumption) ?_
      rotate_left
      focus (intro w hSw; (try dsimp only at hSw); go_simp; first | done | with_reducible rfl)
      try simp only [Act.put, List.setIfInBounds_toArray, List.set_cons_zero, List.set_cons_succ]
      refine wpAnyH_take (i := 5) (oi := ⟨some 39, _, _, _, _, _⟩) (v := ?_) rfl (by kernel_rfl) (by kernel_rfl) (by kernel_rfl) (fun _ _ _ h => h) (Or.inl ⟨by rfl, ?_⟩) (by assumption) ?_
      rotate_left
      focus (intro w hSw; (try dsimp only at hSw); go_simp; first | done | with_reducible rfl)
      try simp only [Act.put, List.setIfInBounds_toArray, List.set_cons_zero, List.set_cons_succ]
      refine wpAnyH_take (i := 6) (oi := ⟨some 40, _, _, _, _, _⟩) (v := ?_) rfl (by kernel_rfl) (by kernel_rfl) (by kernel_rfl) (fun _ _ _ h => h) (Or.inl ⟨by rfl, ?_⟩) (by assumption) ?_
      rotate_left
      focus (intro w hSw; (try dsimp only at hSw); go_simp; first | done | with_reducible rfl)
      try simp only [Act.put, List.setIfInBounds_toArray, List.set_cons_zero, List.set_cons_succ]
      refine wpAnyH_take (i := 7) (oi := ⟨some 41, _, _, _, _, _⟩) (v := ?_) rfl (by kernel_rfl) (by kernel_rfl) (by kernel_rfl) (fun _ _ _ h => h) (Or.inl ⟨by rfl, ?_⟩) (by assumption) ?_
      rotate_left
      focus (intro w hSw; (try dsimp only at hSw); go_simp; first | done | with_reducible rfl)
      try simp only [Act.put, List.setIfInBounds_toArray, List.set_cons_zero, List.set_cons_succ]
      refine wpAnyH_take (i := 8) (oi := ⟨some 42, _, _, _, _, _⟩) (v := ?_) rfl (by kernel_rfl) (by kernel_rfl) (by kernel_rfl) (fun _ _ _ h => h) (Or.inl ⟨by rfl, ?_⟩) (by assumption) ?_
      rotate_left
      focus (intro w hSw; (try dsimp only at hSw); go_simp; first | done | with_reducible rfl)
      try simp only [Act.put, List.setIfInBounds_toArray, List.set_cons_zero, List.set_cons_succ]
      refine wpAnyH_ready (rs := [4]) (by kernel_rfl) (by simp) ?_
      refine AllReadyH.cons (o := ⟨some 38, _, _, _, _, _⟩) rfl (fun K hK => ?_) AllReadyH.nil
      go_simp
      (with_reducible refine (HRA.out _ ((HW.out.below HB.out).below hHeld.1.out)).mono ?_); rintro e v1 ⟨rfl, hb⟩
      go_wp2_with fail
      refine hK.out _ _ (by exact ⟨Lib.hid (hHeld.1.out.trans (hb.mono hHeld.1.out.size)), keep_cell hb hHeld.2.1, keep_cell hb hHeld.2.2.1, keep_cell hb hHeld.2.2.2.1, keep_cell hb hHeld.2.2.2.2⟩) (fun hNew => ?_)
      clear hK K
      clear hHeld hb; have hHeld := hNew; clear hNew
      try simp only [Act.put, List.setIfInBounds_toArray, List.set_cons_zero, List.set_cons_succ]
      refine wpAnyH_ready (rs := [9]) (by kernel_rfl) (by simp) ?_
      refine AllReadyH.cons (o := ⟨some 43, _, _, _, _, _⟩) rfl (fun K hK => ?_) AllReadyH.nil
      go_simp
      (with_reducible refine (HRD.out _).mono ?_); rintro e v2 ⟨rfl, hb⟩
      go_wp2_with fail
      refine hK.out _ _ (by exact ⟨Lib.hid (hHeld.1.out.trans (hb.mono hHeld.1.out.size)), keep_cell hb hHeld.2.1, keep_cell hb hHeld.2.2.1, keep_cell hb hHeld.2.2.2.1, keep_cell hb hHeld.2.2.2.2⟩) (fun hNew => ?_)
      clear hK K
      clear hHeld hb; have hHeld := hNew; clear hNew
      try simp only [Act.put, List.setIfInBounds_toArray, List.set_cons_zero, List.set_cons_succ]
      refine wpAnyH_take (i := 10) (oi := ⟨some 44, _, _, _, _, _⟩) (v := ?_) rfl (by kernel_rfl) (by kernel_rfl) (by kernel_rfl) (fun _ _ _ h => h) (Or.inl ⟨by rfl, ?_⟩) (by assumption) ?_
      rotate_left
      focus (intro w hSw; (try dsimp only at hSw); go_simp; first | done | with_reducible rfl)
      try simp only [Act.put, List.setIfInBounds_toArray, List.set_cons_zero, List.set_cons_succ]
      refine wpAnyH_done (by kernel_rfl) ?_ _
      have HF := Lib.hid hHeld.1.out
      clear hHeld
      go_wp2
      exact ⟨⟨k + 1, rfl, by omega, HB.out.trans (HF.out.mono hws)⟩, by simp [intOf]; omega⟩
    · have hki : ¬ (k : Int) < (l.length : Int) := by omega
      go_wp2_with (first
        | (go_at_call 10; with_reducible refine (no_any _ _).mono ?_; rintro e w1 ⟨rfl, rfl⟩)
        | (go_at_call 11; with_reducible refine (HKY.out _).mono ?_; rintro e w1 ⟨rfl, rfl⟩)
        | (go_at_call 13; with_reducible refine (HKS.out _).mono ?_; rintro e w4 ⟨c4, rfl, hs4, hb4⟩; have HS4 := Lib.hid hs4; have HB4 := Lib.hid (HB.out.trans (hb4.mono hws)); clear hs4 hb4)
        | (go_at_call 12; with_reducible refine (HIN.out _ _ HS4.out).mono ?_; rintro e w5 ⟨rfl, rfl⟩)
        | (go_at_call 5; with_reducible refine (HALV.out _ (HW.out.below HB4.out)).mono ?_; rintro e w6 ⟨rfl, hb6⟩))
      go_ret
      exact ⟨rfl, HB4.out.trans (hb6.mono HB4.out.size)⟩
end Go.Proofs.YtpedmkdpbdhenaaGreatDoor
