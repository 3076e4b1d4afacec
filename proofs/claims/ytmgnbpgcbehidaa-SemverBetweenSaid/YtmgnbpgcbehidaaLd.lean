/- For every input SemverBetween returns true and leaves its arguments as they were: of any versions (at most 60) those next to a version have its major number, one is ahead of it, the other behind, and none of the list lies between. No condition. -/
import Derived.Test.YtmgnbpgcbehidaaH7
import Derived.Test.YtmgnbpgcbehidaaH6
import Derived.Test.YtmgnbpgcbehidaaD0
namespace Go.Proofs.Ytmgnbpgcbehidaa
open Go.ChangeShapes Go.WideShapes Go.ChangeAt Go.RowKit
open Go.ChangeMaps (open_string shut_string)
set_option linter.unusedVariables false

theorem between_walk (vl : Value) (l : List Sv.V) (v : Sv.V) (w : World) (hr : VRow w vl l) (hc : (∀ x ∈ l, OkV x) ∧ l.length ≤ maxLen) :
    Calls Try.prog 6 #[vl, vv v] w fun e w' => e = .returned (.bool true) ∧ Below w.heap.size w w' := by
  by_cases h60 : l.length ≤ 60
  · exact between_of v vl l w hr h60 fun W h => around_any v vl l W h hc.1 h60
  · obtain ⟨q, c, rfl, _⟩ := hr
    exact between_long v q l.length c (by omega) w

set_option maxRecDepth 100000 in
theorem semverBetween_lifted (os : Os) (started : os.Started) (H : Type) (enc : TypeId × Value → H) :
    ReturnsInHanded {} Try.checked os 6 .any (Rows.semverBetweenSpec.pre6 enc Try.prog Try.f6 Rows.semverBetweenRow.domain false) (Rows.semverBetweenSpec.post enc Try.prog Try.f6 false true false false) := by
  refine returnsInHanded_of_change (C := Try.checked) ownKn started (by kernel_rfl) Try.func6
    (ChangeSpec.witness6 (enc := enc) (C := Try.checked) false ⟨#[], #[.slice none 0 0, .agg #[.int .i64 0, .int .i64 0, .int .i64 0]], []⟩ 8 (by kernel_rfl) (by kernel_rfl) (by kernel_rfl) (by kernel_rfl)) ?_
  intro W base args ds gs before hval0 hW hcnd _
  have hval : ∀ (j : Nat) t v, Try.f6.params[j]? = some t → args[j]? = some v → Value.okWide Try.prog W .any base t v := hval0
  have hW' := hW
  obtain ⟨p, q, hA0, hV, rfl, hfz, hnd⟩ := hW
  have hA : DataW.TrodAll enc Try.prog W 0 (fun _ => true) true Try.f6.params.toList args.toList ds p := hA0
  rw [Try.params6] at hA hval
  obtain ⟨v0, vs0, d0, ds0, p0, q0, hargs, rfl, rfl, h0, r0⟩ := trodAll_cons hA
  obtain ⟨v1, vs1, d1, ds1, p1, q1, rfl, rfl, rfl, h1, r1⟩ := trodAll_cons r0
  obtain ⟨rfl, rfl, rfl⟩ := trodAll_nil r1
  obtain rfl : args = #[v0, v1] := by cases args; simp_all
  obtain ⟨rfl, rfl⟩ := trodVars_none hV
  have lt0 : ∀ x ∈ p0, x.block < W.heap.size := by obtain ⟨m, hm⟩ := h0; exact DataW.trod_lt m _ _ _ hm
  have lt1 : ∀ x ∈ p1, x.block < W.heap.size := by obtain ⟨m, hm⟩ := h1; exact DataW.trod_lt m _ _ _ hm
  have k0 := h0
  obtain ⟨a0, b0, c0⟩ := arg_row (hval 0 35 v0 rfl rfl) h0
  have k1 := h1
  obtain ⟨a1, rfl⟩ := arg_v (hval 1 23 v1 rfl rfl) h1
  clear hA0 hval0
  refine (between_walk v0 a0 a1 W b0 c0).mono fun e W' ⟨he, bel⟩ => ?_
  subst he
  exact ⟨_, rfl, _, _, _, [], _, [], hW', trodAll_mk1 (shut_bool Try.underlying4 _),
    (trodAll_cons_mk (Below.trod laidTry (by kernel_rfl) (of_decide_eq_true (by kernel_rfl)) k0 bel lt0) (trodAll_cons_mk (Below.trod laidTry (by kernel_rfl) (of_decide_eq_true (by kernel_rfl)) k1 bel lt1) trodAll_mk0)), rfl, bel.frame _, fun h => by cases h⟩

theorem semverBetween_over : Rows.semverBetweenRow.holds Try.pinned (OpenSpec.ofChange Rows.semverBetweenSpec) :=
  OpenClaim.holds_of_wide 6 Try.f6 rfl rfl rfl rfl rfl rfl rfl ⟨rfl, rfl, rfl, rfl, rfl⟩ rfl rfl rfl rfl rfl (by kernel_rfl) Try.func6 (by kernel_rfl)
    (of_decide_eq_true (by kernel_rfl)) (by unfold Func.isWrapper; first | (rw [if_pos (by decide +kernel)]; kernel_rfl) | (rw [if_neg (by decide +kernel)]; exact ⟨rfl, rfl⟩))
    (fun os started H enc _ => semverBetween_lifted os started H enc)

theorem semverBetween_holds : Rows.SemverBetweenSaid := semverBetween_over
#print axioms semverBetween_holds
end Go.Proofs.Ytmgnbpgcbehidaa
