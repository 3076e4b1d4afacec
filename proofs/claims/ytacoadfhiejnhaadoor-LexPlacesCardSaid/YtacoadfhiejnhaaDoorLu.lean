/- LexBack and LexAgain, walked. -/
import Derived.Test.YtacoadfhiejnhaaDoorLt
namespace Go.Proofs.YtacoadfhiejnhaaDoor
open Go.RowKit
set_option linter.unusedSimpArgs false
set_option linter.unusedVariables false
theorem few_each : ∀ (l : List (Tk × Int)) (m : Nat), (l.map fun x => min x.1.s.size 100000).sum ≤ m → m ≤ 4000 → ∀ x ∈ l, x.1.s.size ≤ 4000 := by
  intro l
  induction l with
  | nil => intro m _ _ x hx; cases hx
  | cons y l ih =>
    intro m h hm x hx
    rw [List.map_cons, List.sum_cons] at h
    cases hx with
    | head => omega
    | tail _ hx => exact ih m (by omega) hm x hx
theorem few_join : ∀ (l : List (Tk × Int)) (m : Nat), (l.map fun x => min x.1.s.size 100000).sum ≤ m → m ≤ 4000 → (∀ x ∈ l, Fits x.1) → (joinT (l.map Prod.fst)).length ≤ 2 * (l.map fun x => min x.1.s.size 100000).sum + 23 * l.length := by
  intro l
  induction l with
  | nil => intro m _ _ _; simp [joinT]
  | cons y l ih =>
    intro m h hm hf
    have hy := hf y (List.mem_cons_self ..)
    have h1 := tellT_len y.1 hy.1 hy.2
    rw [List.map_cons, List.sum_cons] at h
    have h2 := ih m (by omega) hm fun x hx => hf x (List.mem_cons_of_mem _ hx)
    rw [List.map_cons, joinT_cons, List.length_append, List.map_cons, List.sum_cons, List.length_cons]
    split
    · simp; omega
    · rw [List.length_cons]; omega
theorem few_mod {l : List (Tk × Int)} (h : FewL l) (hf : ∀ x ∈ l, Fits x.1) : Mod l ∧ (joinT (l.map Prod.fst)).length ≤ 12600 := by
  have h1 := few_each l _ h.2 (Nat.le_refl _)
  have h2 := few_join l _ h.2 (Nat.le_refl _) hf
  have h3 := h.1
  have h4 := h.2
  exact ⟨⟨by omega, fun x hx => ⟨by have := h1 x hx; omega, hf x hx⟩⟩, by omega⟩
theorem size_joined (ts : List Tk) : (ofL (joinT ts)).size = (joinT ts).length := ofL_size _
set_option maxHeartbeats 8000000 in
set_option maxRecDepth 100000 in
theorem back_any (v : Value) (l : List (Tk × Int)) (w : World) (hv : TksAt w v l) (hm : l.length ≤ maxLen) (hz : ∀ x ∈ l, x.1.s.size ≤ maxLen) (hf : ∀ x ∈ l, Fits x.1) (hw : LxW w) :
    Calls Tryd.prog 3 #[v] w fun e w' => e = .returned (.bool true) ∧ Below w.heap.size w w' := by
  have HFEW := Lib.hid (few_any v l w hv hm hz)
  have HALV := Lib.hid (fun W hW => alive_any W hW)
  have HW := Lib.hid hw
  have HV := Lib.hid hv
  clear hw
  by_cases hF : FewL l
  rotate_left
  · rw [fewB_no hF] at HFEW
    clear hF hv
    go_enter Tryd.func3, Tryd.ntmps3
    go_wp2_with (first
      | (go_at_call 6; refine HFEW.out.mono ?_; rintro e w1 ⟨rfl, rfl⟩)
      | (go_at_call 7; refine (HALV.out _ HW.out).mono ?_; rintro e w1 ⟨rfl, hb⟩))
    go_ret
    exact ⟨rfl, hb⟩
  rw [fewB_yes hF] at HFEW
  obtain ⟨hmod, hjl⟩ := few_mod hF hf
  have HTELL := Lib.hid (tellAll_any v l w hv hmod HW.out)
  by_cases hA : AllR l
  rotate_left
  · have HA := Lib.hid hA
    clear hA hF hv hmod
    go_enter Tryd.func3, Tryd.ntmps3
    go_wp2_with (first
      | (go_at_call 6; refine HFEW.out.mono ?_; rintro e w1 ⟨rfl, rfl⟩)
      | (go_at_call 8; refine HTELL.out.mono ?_; intro e w2 he; obtain ⟨rfl, hb2⟩ := he.no HA.out; have HB2 := Lib.hid hb2; clear hb2)
      | (go_at_call 9; refine (no_any _ _).mono ?_; rintro e w1 ⟨rfl, rfl⟩)
      | (go_at_call 7; refine (HALV.out _ (HW.out.below HB2.out)).mono ?_; rintro e w3 ⟨rfl, hb3⟩))
    go_ret
    exact ⟨rfl, HB2.out.trans (hb3.mono HB2.out.size)⟩
  have HA := Lib.hid hA
  obtain ⟨r, hr1, hr2⟩ := lexM_back (ts := l.map Prod.fst) (fun t ht => by obtain ⟨x, hx, rfl⟩ := List.mem_map.1 ht; exact hA x hx) (by omega) (by rw [List.length_map]; have := hF.1; omega)
  have HS := Lib.hid (sameB_yes (l := l) (m := pl r) (by rw [pl_fst, hr2]))
  have HLX := Lib.hid (fun W hW => lex_any (ofL (joinT (l.map Prod.fst))) (by rw [ofL_size]; omega) W hW)
  have HTELL2 := Lib.hid (HTELL.out.mono fun e w' he => he.yes hA)
  clear HTELL
  generalize ofL (joinT (l.map Prod.fst)) = D at *
  have HR1 := Lib.hid hr1
  have HSM := Lib.hid (fun vb W (hW : Below w.heap.size w W) (hb : TksAt W vb (pl r)) => same_any v vb l (pl r) W (hv.below hW) hb hm)
  rw [HS.out] at HSM
  clear hA hF hv hmod hr1 hr2
  go_enter Tryd.func3, Tryd.ntmps3
  go_wp2_with (first
    | (go_at_call 6; refine HFEW.out.mono ?_; rintro e w1 ⟨rfl, rfl⟩)
    | (go_at_call 8; refine HTELL2.out.mono ?_; rintro e w2 ⟨rfl, hb2⟩; have HB2 := Lib.hid hb2; clear hb2)
    | (go_at_call 9; refine (no_any _ _).mono ?_; rintro e w1 ⟨rfl, rfl⟩)
    | (go_at_call 10; refine (HLX.out _ (HW.out.below HB2.out).1).mono ?_; rintro e w3 ⟨vb, rfl, hvb, hb3⟩; rw [HR1.out] at hvb ⊢; have HVB := Lib.hid hvb.tks; have HB3 := Lib.hid (HB2.out.trans (hb3.mono HB2.out.size)); clear hvb hb3)
    | (go_at_call 11; refine (HSM.out _ _ HB3.out HVB.out).mono ?_; rintro e w4 ⟨rfl, hb4⟩; have HB4 := Lib.hid (HB3.out.trans (hb4.mono HB3.out.size)); clear hb4)
    | (go_at_call 7; refine (HALV.out _ (HW.out.below HB4.out)).mono ?_; rintro e w5 ⟨rfl, hb5⟩))
  go_ret
  exact ⟨rfl, HB4.out.trans (hb5.mono HB4.out.size)⟩
end Go.Proofs.YtacoadfhiejnhaaDoor
