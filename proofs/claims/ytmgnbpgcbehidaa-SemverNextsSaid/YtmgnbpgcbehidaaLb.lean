/- For every input SemverNexts returns true and leaves its arguments as they were: the next version by any gap, or why there is none, is as the document says: it is behind, by just that gap, is right, and no right version with a 0 behind that gap lies between. No condition. -/
import Derived.Test.YtmgnbpgcbehidaaE1
import Derived.Test.YtmgnbpgcbehidaaD0
namespace Go.Proofs.Ytmgnbpgcbehidaa
open Go.ChangeShapes Go.WideShapes Go.ChangeAt Go.RowKit
open Go.ChangeMaps (open_string shut_string)
set_option linter.unusedVariables false

namespace Sv
theorem up_ahead (v : V) (g : Int) : cmp v (up v g) = -1 := by
  have r := cmp_range v (up v g)
  have h : cmp v (up v g) < 0 := by
    rw [cmp_neg, less_iff]
    unfold up
    split
    · simp; omega
    · split
      · simp; omega
      · simp; omega
  omega
theorem up_gap (v : V) (g : Int) (h1 : 1 ≤ g) (h2 : g ≤ 3) : gap v (up v g) = g := by
  have h4 : g = 1 ∨ g = 2 ∨ g = 3 := by omega
  rcases h4 with rfl | rfl | rfl
  · simp [gap, up]; omega
  · simp [gap, up]; omega
  · simp [gap, up]; omega
theorem inR_mk {n : Int} (h : 0 ≤ n ∧ n ≤ 999999) : inR n = true := by unfold inR; exact decide_eq_true h
theorem up_right (v : V) (g : Int) (h : right v = true) (h3 : at' v g ≠ 999999) : right (up v g) = true := by
  obtain ⟨a, b, c⟩ := right_yes h
  unfold right
  unfold at' at h3
  unfold up
  split at h3
  · rw [if_pos ‹_›]
    rw [inR_mk (by simp only; omega), inR_mk (by simp)]; rfl
  · split at h3
    · rw [if_neg ‹_›, if_pos ‹_›]
      rw [inR_mk a, inR_mk (by simp only; omega), inR_mk (by simp)]; rfl
    · rw [if_neg ‹_›, if_neg ‹_›]
      rw [inR_mk a, inR_mk b, inR_mk (by simp only; omega)]; rfl
theorem none_between (v u : V) (g : Int) (h : right v = true) (h1 : 1 ≤ g) (h2 : g ≤ 3) (hr : g = 1 ∨ (u.c = 0 ∧ (g = 2 ∨ u.b = 0))) (hl : cmp v u < 0) : ¬ cmp u (up v g) < 0 := by
  obtain ⟨a, b, c⟩ := right_yes h
  rw [cmp_neg] at hl ⊢
  rw [less_iff] at hl ⊢
  unfold up
  split
  · simp only; omega
  · split
    · simp only; omega
    · simp only; omega
end Sv
theorem nexts_walk (v : Sv.V) (g : Int) (u : Sv.V) (w : World) : Calls Try.prog 4 #[vv v, .int .i64 g, vv u] w fun e w' => e = .returned (.bool true) ∧ Below w.heap.size w w' := by
  rcases Bool.eq_false_or_eq_true (Sv.right v) with h | h
  · by_cases h1 : g < 1
    · exact nexts_err v u g 2 (Sv.next_bad (.inr (.inl h1))) (by decide) w
    · by_cases h2 : 3 < g
      · exact nexts_err v u g 2 (Sv.next_bad (.inr (.inr h2))) (by decide) w
      · by_cases h3 : Sv.at' v g = 999999
        · exact nexts_err v u g 9 (Sv.next_full h (by omega) (by omega) h3) (by decide) w
        · have hn := Sv.next_up h (by omega) (by omega) h3
          have ha := Sv.up_ahead v g
          have hg := Sv.up_gap v g (by omega) (by omega)
          have hr := Sv.up_right v g h h3
          have tr : ∀ a b : Int, a = b → (a == b) = true := fun a b h => by simpa using h
          have fa : ∀ a b : Int, a ≠ b → (a == b) = false := fun a b h => by simpa using h
          by_cases hround : g = 1 ∨ (u.c = 0 ∧ (g = 2 ∨ u.b = 0))
          · have hR : (g == 1) = true ∨ ((g == 1) = false ∧ (u.c == 0) = true ∧ (g == 2) = true) ∨ ((g == 1) = false ∧ (u.c == 0) = true ∧ (g == 2) = false ∧ (u.b == 0) = true) := by
              by_cases g1 : g = 1
              · exact .inl (tr _ _ g1)
              · rcases hround with g1' | ⟨hc, hb⟩
                · exact absurd g1' g1
                · by_cases g2 : g = 2
                  · exact .inr (.inl ⟨fa _ _ g1, tr _ _ hc, tr _ _ g2⟩)
                  · exact .inr (.inr ⟨fa _ _ g1, tr _ _ hc, fa _ _ g2, tr _ _ (hb.resolve_left g2)⟩)
            rcases Bool.eq_false_or_eq_true (Sv.right u) with h6 | h6
            · by_cases h7 : Sv.cmp v u < 0
              · exact nexts_behind v _ u g hn ha hg hr hR h6 (decide_eq_true h7) (decide_eq_false (Sv.none_between v u g h (by omega) (by omega) hround h7)) w
              · exact nexts_ahead v _ u g hn ha hg hr hR h6 (decide_eq_false h7) w
            · exact nexts_wrong v _ u g hn ha hg hr hR h6 w
          · have g1 : g ≠ 1 := fun h => hround (.inl h)
            have hR : ((g == 1) = false ∧ (u.c == 0) = false) ∨ ((g == 1) = false ∧ (u.c == 0) = true ∧ (g == 2) = false ∧ (u.b == 0) = false) := by
              by_cases hc : u.c = 0
              · exact .inr ⟨fa _ _ g1, tr _ _ hc, fa _ _ (fun h => hround (.inr ⟨hc, .inl h⟩)), fa _ _ (fun h => hround (.inr ⟨hc, .inr h⟩))⟩
              · exact .inl ⟨fa _ _ g1, fa _ _ hc⟩
            exact nexts_far v _ u g hn ha hg hr hR w
  · exact nexts_err v u g 2 (Sv.next_bad (.inl h)) (by decide) w

set_option maxRecDepth 100000 in
theorem semverNexts_lifted (os : Os) (started : os.Started) (H : Type) (enc : TypeId × Value → H) :
    ReturnsInHanded {} Try.checked os 4 .any (Rows.semverNextsSpec.pre6 enc Try.prog Try.f4 Rows.semverNextsRow.domain false) (Rows.semverNextsSpec.post enc Try.prog Try.f4 false true false false) := by
  refine returnsInHanded_of_change (C := Try.checked) ownKn started (by kernel_rfl) Try.func4
    (ChangeSpec.witness6 (enc := enc) (C := Try.checked) false ⟨#[], #[.agg #[.int .i64 0, .int .i64 0, .int .i64 0], .int .i64 0, .agg #[.int .i64 0, .int .i64 0, .int .i64 0]], []⟩ 8 (by kernel_rfl) (by kernel_rfl) (by kernel_rfl) (by kernel_rfl)) ?_
  intro W base args ds gs before hval0 hW hcnd _
  have hval : ∀ (j : Nat) t v, Try.f4.params[j]? = some t → args[j]? = some v → Value.okWide Try.prog W .any base t v := hval0
  have hW' := hW
  obtain ⟨p, q, hA0, hV, rfl, hfz, hnd⟩ := hW
  have hA : DataW.TrodAll enc Try.prog W 0 (fun _ => true) true Try.f4.params.toList args.toList ds p := hA0
  rw [Try.params4] at hA hval
  obtain ⟨v0, vs0, d0, ds0, p0, q0, hargs, rfl, rfl, h0, r0⟩ := trodAll_cons hA
  obtain ⟨v1, vs1, d1, ds1, p1, q1, rfl, rfl, rfl, h1, r1⟩ := trodAll_cons r0
  obtain ⟨v2, vs2, d2, ds2, p2, q2, rfl, rfl, rfl, h2, r2⟩ := trodAll_cons r1
  obtain ⟨rfl, rfl, rfl⟩ := trodAll_nil r2
  obtain rfl : args = #[v0, v1, v2] := by cases args; simp_all
  obtain ⟨rfl, rfl⟩ := trodVars_none hV
  have lt0 : ∀ x ∈ p0, x.block < W.heap.size := by obtain ⟨m, hm⟩ := h0; exact DataW.trod_lt m _ _ _ hm
  have lt1 : ∀ x ∈ p1, x.block < W.heap.size := by obtain ⟨m, hm⟩ := h1; exact DataW.trod_lt m _ _ _ hm
  have lt2 : ∀ x ∈ p2, x.block < W.heap.size := by obtain ⟨m, hm⟩ := h2; exact DataW.trod_lt m _ _ _ hm
  have k0 := h0
  obtain ⟨a0, rfl⟩ := arg_v (hval 0 23 v0 rfl rfl) h0
  have k1 := h1
  obtain ⟨a1, rfl, rfl, rfl, w1⟩ := open_int Try.underlying3 (hval 1 3 v1 rfl rfl) h1
  have b1 := bounds_i64 w1
  have k2 := h2
  obtain ⟨a2, rfl⟩ := arg_v (hval 2 23 v2 rfl rfl) h2
  clear hA0 hval0
  refine (nexts_walk a0 a1 a2 W ).mono fun e W' ⟨he, bel⟩ => ?_
  subst he
  exact ⟨_, rfl, _, _, _, [], _, [], hW', trodAll_mk1 (shut_bool Try.underlying4 _),
    (trodAll_cons_mk (Below.trod laidTry (by kernel_rfl) (of_decide_eq_true (by kernel_rfl)) k0 bel lt0) (trodAll_cons_mk (Below.trod laidTry (by kernel_rfl) (of_decide_eq_true (by kernel_rfl)) k1 bel lt1) (trodAll_cons_mk (Below.trod laidTry (by kernel_rfl) (of_decide_eq_true (by kernel_rfl)) k2 bel lt2) trodAll_mk0))), rfl, bel.frame _, fun h => by cases h⟩

theorem semverNexts_over : Rows.semverNextsRow.holds Try.pinned (OpenSpec.ofChange Rows.semverNextsSpec) :=
  OpenClaim.holds_of_wide 4 Try.f4 rfl rfl rfl rfl rfl rfl rfl ⟨rfl, rfl, rfl, rfl, rfl⟩ rfl rfl rfl rfl rfl (by kernel_rfl) Try.func4 (by kernel_rfl)
    (of_decide_eq_true (by kernel_rfl)) (by unfold Func.isWrapper; first | (rw [if_pos (by decide +kernel)]; kernel_rfl) | (rw [if_neg (by decide +kernel)]; exact ⟨rfl, rfl⟩))
    (fun os started H enc _ => semverNexts_lifted os started H enc)

theorem semverNexts_holds : Rows.SemverNextsSaid := semverNexts_over
#print axioms semverNexts_holds
end Go.Proofs.Ytmgnbpgcbehidaa
