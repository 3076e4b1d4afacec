/- SemverSorts: its walk. -/
import Derived.Test.YtmgnbpgcbehidaaJ8
import Derived.Test.YtmgnbpgcbehidaaB2
import Derived.Outline
namespace Go.Proofs.Ytmgnbpgcbehidaa
open Go.RowKit
/-- What the three calls answer, on whatever memory. -/
structure SortsC (v : Sv.V) (vl : Value) (l : List Sv.V) : Prop where
  around : ∀ W, VRow W vl l → Calls Try.prog 16 #[vv v, vl] W (AroundR l v W)
  sorted : ∀ W, VRow W vl l → Calls Try.prog 21 #[vl] W (SortedR (inB l) W.heap.size W)
theorem sorts_long (q : Option Addr) (n c : Nat) (v : Sv.V) (major : Int) (h : 60 < n) (w : World) : Calls Try.prog 5 #[.slice q n c, vv v, .int .i64 major] w fun e w' => e = .returned (.bool true) ∧ Below w.heap.size w w' := by
  have d : decide (60 < (n : Int)) = true := by simp; omega
  go_enter Try.func5, Try.ntmps5
  go_wp2_with (go_at_call 11; refine (alive_ok _).mono ?_; rintro e w9 ⟨rfl, hb⟩)
  go_ret
  exact ⟨rfl, (below_alloc w _).trans (hb.mono (by simp))⟩
theorem OneV.row {w : World} {base : Nat} {v : Value} {A : Option Sv.V} (h : OneV w base v A) : VRow w v A.toList := by
  cases A with
  | none => exact ⟨none, 0, h, fun i x hx => by simp at hx⟩
  | some y =>
    obtain ⟨b, _, rfl, h2⟩ := h
    refine ⟨_, 1, rfl, fun i z hz => ⟨b, 0, rfl, ?_⟩⟩
    match i, hz with
    | 0, hz => cases hz; exact h2
    | i + 1, hz => simp at hz
theorem VRow.drewN {w : World} {v : Value} {l : List Sv.V} (h : VRow w v l) (n : Nat) : VRow (w.drewN n) v l := h
theorem sorted_one {l ls L : List Sv.V} {v : Value} {base : Nat} {w w' : World} (h : SortedP (inB l) base v ls w w') (hok : ∀ x ∈ l, OkV x) (hu : Sv.Up L) (hm : ∀ x, x ∈ L ↔ x ∈ l) : ls = L :=
  Sv.up_one (Sv.up_of h.asc h.nodup) hu fun x => by
    rw [hm]
    exact ⟨fun hx => by simpa [inB] using (h.mem x (h.ok x hx)).1 hx, fun hx => (h.mem x (hok x hx)).2 (by simpa [inB] using hx)⟩
def vobj (v : Sv.V) : Obj := .cells #[.int .i64 v.a, .int .i64 v.b, .int .i64 v.c] 23
set_option maxRecDepth 100000 in
set_option maxHeartbeats 4000000 in
theorem sorts_of (vl : Value) (l : List Sv.V) (v : Sv.V) (major : Int) (w : World) (hr : VRow w vl l) (h60 : l.length ≤ 60) (hok : ∀ x ∈ l, OkV x) (C : SortsC v vl l) :
    Calls Try.prog 5 #[vl, vv v, .int .i64 major] w fun e w' => e = .returned (.bool true) ∧ Below w.heap.size w w' := by
  have HC := Lib.hid C
  have HOK := Lib.hid hok
  have HR0 := Lib.hid (hr.below (below_alloc w (.cells #[.int .i64 v.a, .int .i64 v.b, .int .i64 v.c] 23)))
  obtain ⟨q, c, hvl, _⟩ := hr
  subst hvl
  have d60 : decide (60 < (l.length : Int)) = false := by simp; omega
  clear C hok
  go_enter Try.func5, Try.ntmps5
  go_wp2_with (first
    | (go_at_call 16; ((with_reducible refine (HC.out.around _ HR0.out).mono ?_); rintro e w1 ⟨va, vb, A, B, rfl, hA, hB, hbel, habv, hb1⟩; have HA := Lib.hid hA; have HB := Lib.hid hB; have HBel := Lib.hid hbel; have HAbv := Lib.hid habv; have HB1 := Lib.hid hb1; obtain ⟨hc1, hf1⟩ := bcell hb1; have z1 := hb1.size; rw [World.size_alloc] at z1; have y1 : w.heap.size < w1.heap.size := (by omega); have HR1 := Lib.hid (HR0.out.below hb1); clear hA hB hbel habv hb1))
    | (go_at_call 17; ((with_reducible refine (refAround_any v _ l _ HR1.out h60).mono ?_); rintro e w2 ⟨va2, vb2, A2, B2, rfl, hA, hB, hbel, habv, hb2⟩; have HA2 := Lib.hid hA; have HB2 := Lib.hid hB; have HBel2 := Lib.hid hbel; have HAbv2 := Lib.hid habv; have HBb2 := Lib.hid hb2; obtain ⟨hc2, hf2⟩ := bcell hb2; have z2 := hb2.size; have y2 : w.heap.size < w2.heap.size := (by omega); have HR2 := Lib.hid (HR1.out.below hb2); clear hA hB hbel habv hb2))
    | (go_at_call 18; ((with_reducible refine (best_any major v _ l _ HR2.out (by omega)).mono ?_); rintro e w3 ⟨A3, he, hbest, hb3⟩; have HBest := Lib.hid hbest; have HB3 := Lib.hid hb3; obtain ⟨hc3, hf3⟩ := bcell hb3; have z3 := hb3.size; have y3 : w.heap.size < w3.heap.size := (by omega); have HR3 := Lib.hid (HR2.out.below hb3); clear hbest hb3; unfold bst at he; subst he)))
  have HR3a := Lib.hid (HR3.out.below (below_alloc w3 (.cells #[.int .i64 (Sv.optV A3).a, .int .i64 (Sv.optV A3).b, .int .i64 (Sv.optV A3).c] 23)))
  (with_reducible refine (refBest_of major v _ l _ HR3a.out (by omega) (fun W h => refSorted_any _ l W h h60)).mono ?_)
  rintro e w4 ⟨A4, he, hbest, hb4⟩
  obtain rfl := Sv.best_one HBest.out hbest
  clear hbest
  have HB4 := Lib.hid hb4
  obtain ⟨hc4, hf4⟩ := bcell hb4
  have z4 := hb4.size
  rw [World.size_alloc] at z4
  have y4 : w3.heap.size < w4.heap.size := (by omega)
  have HR4 := Lib.hid ((HR3a.out.below hb4).below (below_alloc w4 (.cells #[.int .i64 (Sv.optV A3).a, .int .i64 (Sv.optV A3).b, .int .i64 (Sv.optV A3).c] 23)))
  clear hb4
  unfold bst at he
  subst he
  go_wp2_with (first
    | (go_at_call 21; ((with_reducible refine (HC.out.sorted _ HR4.out).mono ?_); rintro e w5 ⟨vs, ls, rfl, hS⟩; have HS := Lib.hid hS; have HB5 := Lib.hid hS.below; obtain ⟨hc5, hf5⟩ := bcell hS.below; have z5 := hS.below.size; rw [World.size_alloc] at z5; have y5 : w3.heap.size < w5.heap.size := (by omega); have y5b : w4.heap.size < w5.heap.size := (by omega); have HR5 := Lib.hid (HR4.out.below hS.below); have HV := Lib.hid (VRow.own hS.own); clear hS))
    | (go_at_call 22; ((with_reducible refine (refSorted_any _ l _ HR5.out h60).mono ?_); rintro e w6 ⟨vs2, L, rfl, hrow, hup, hmem, hlen, hb6⟩; obtain rfl := sorted_one HS.out HOK.out hup hmem; have HB6 := Lib.hid hb6; obtain ⟨hc6, hf6⟩ := bcell hb6; have z6 := hb6.size; have HV2 := Lib.hid hrow; have HV1 := Lib.hid (HV.out.below hb6); clear hrow hup hmem hb6)))
  have H45 : Below w4.heap.size w4 w5 := (below_alloc w4 _).trans (HB5.out.mono (by simp))
  have H46 : Below w4.heap.size w4 w6 := H45.trans (HB6.out.mono H45.size)
  have H34 : Below w3.heap.size w3 w4 := (below_alloc w3 _).trans (HB4.out.mono (by simp))
  have H36 : Below w3.heap.size w3 w6 := H34.trans (H46.mono H34.size)
  have H26 : Below w2.heap.size w2 w6 := HB3.out.trans (H36.mono HB3.out.size)
  have H16 : Below w1.heap.size w1 w6 := HBb2.out.trans (H26.mono HBb2.out.size)
  have H06 : Below w.heap.size w w6 := (below_alloc w _).trans ((HB1.out.trans (H16.mono HB1.out.size)).mono (by simp))
  have hAA := Sv.bel_one HBel.out HBel2.out
  have hBB := Sv.abv_one HAbv.out HAbv2.out
  subst hAA hBB
  have RA1 := Lib.hid (HA.out.row.below H16)
  have RA2 := Lib.hid (HA2.out.row.below H26)
  have RB1 := Lib.hid (HB.out.row.below H16)
  have RB2 := Lib.hid (HB2.out.row.below H26)
  have HB06 := Lib.hid H06
  clear H45 H46 H34 H36 H26 H16 H06
  (with_reducible refine (same_eq _ _ ls _ HV1.out HV2.out (by omega)).mono ?_)
  rintro e w7 ⟨rfl, n7, rfl⟩
  go_wp2_with fail
  have RA1b := Lib.hid (RA1.out.drewN n7)
  have RA2b := Lib.hid (RA2.out.drewN n7)
  (with_reducible refine (same_eq _ _ A.toList _ RA1b.out RA2b.out (by cases A <;> simp)).mono ?_)
  rintro e w8 ⟨rfl, n8, rfl⟩
  go_wp2_with fail
  have RB1b := Lib.hid (RB1.out.drewN (n7 + n8))
  have RB2b := Lib.hid (RB2.out.drewN (n7 + n8))
  (with_reducible refine (same_eq _ _ B.toList _ RB1b.out RB2b.out (by cases B <;> simp)).mono ?_)
  rintro e w9 ⟨rfl, n9, rfl⟩
  go_wp2_with (go_at_call 11; refine (alive_ok _).mono ?_; rintro e wA ⟨rfl, hbA⟩)
  go_ret
  exact ⟨rfl, (below_drewN HB06.out _).trans (hbA.mono HB06.out.size)⟩
end Go.Proofs.Ytmgnbpgcbehidaa
