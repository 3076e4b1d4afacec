/- For every text CommandReads: what was read is what may be told; pins in a row of the call's own. -/
import Derived.Test.YtfbfdkjimoomlaaU8
namespace Go.Proofs.Ytfbfdkjimoomlaa
open Go.RowKit
abbrev flatP (ps : List Cm.Pn) : List Value := ps.flatMap fun x => ([.string x.p, .int .i64 x.v.a, .int .i64 x.v.b, .int .i64 x.v.c] : List Value)
theorem flatP_len (ps : List Cm.Pn) : (flatP ps).length = ps.length * 4 := by
  induction ps with
  | nil => rfl
  | cons x l ih =>
    show (([.string x.p, .int .i64 x.v.a, .int .i64 x.v.b, .int .i64 x.v.c] : List Value) ++ flatP l).length = _
    rw [List.length_append, ih, List.length_cons]
    simp
    omega
theorem flatP_get (ps : List Cm.Pn) (i : Nat) (x : Cm.Pn) (h : ps[i]? = some x) : (flatP ps)[i * 4]? = some (.string x.p) ∧ (flatP ps)[i * 4 + 1]? = some (.int .i64 x.v.a) ∧ (flatP ps)[i * 4 + 2]? = some (.int .i64 x.v.b) ∧ (flatP ps)[i * 4 + 3]? = some (.int .i64 x.v.c) := by
  induction ps generalizing i with
  | nil => simp at h
  | cons y l ih =>
    have e : flatP (y :: l) = ([.string y.p, .int .i64 y.v.a, .int .i64 y.v.b, .int .i64 y.v.c] : List Value) ++ flatP l := rfl
    cases i with
    | zero =>
      simp at h
      subst h
      rw [e]
      exact ⟨rfl, rfl, rfl, rfl⟩
    | succ i =>
      have h2 := ih i (by simpa using h)
      rw [e]
      rw [List.getElem?_append_right (by simp; omega), List.getElem?_append_right (by simp; omega), List.getElem?_append_right (by simp; omega), List.getElem?_append_right (by simp; omega)]
      simp only [List.length_cons, List.length_nil]
      rw [show (i + 1) * 4 - (0 + 1 + 1 + 1 + 1) = i * 4 by omega, show (i + 1) * 4 + 1 - (0 + 1 + 1 + 1 + 1) = i * 4 + 1 by omega, show (i + 1) * 4 + 2 - (0 + 1 + 1 + 1 + 1) = i * 4 + 2 by omega, show (i + 1) * 4 + 3 - (0 + 1 + 1 + 1 + 1) = i * 4 + 3 by omega]
      exact h2
theorem ps_of_own {w : World} {base : Nat} {v : Value} {ps : List Cm.Pn} (h : w.ownsRow base 25 4 v ps.length (flatP ps)) : ∃ q c, v = .slice q ps.length c ∧ PsAt w q ps := by
  rcases h.2 with ⟨rfl, h0⟩ | ⟨g, cap, cur, rfl, hb, hg, r⟩
  · refine ⟨none, 0, ?_, fun i x hx => ?_⟩
    · have : ps.length = 0 := by omega
      rw [this]
    · rw [List.getElem?_eq_none (by omega)] at hx; cases hx
  · refine ⟨some ⟨g, 0, none⟩, cap, rfl, fun i x hx => ⟨g, 0, rfl, ?_⟩⟩
    obtain ⟨h0, h1, h2, h3⟩ := flatP_get ps i x hx
    have hc := h.cells (g := g) rfl
    have c0 := hc _ _ h0
    have c1 := hc _ _ h1
    have c2 := hc _ _ h2
    have c3 := hc _ _ h3
    rw [add_zero_none] at c0 c1 c2 c3
    rw [show 0 + i * 4 = i * 4 by omega]
    exact ⟨c0, c1, c2, c3⟩
namespace Cm
theorem rdPs_i64 (n : Nat) (st : St) : ∀ x ∈ (rdPs n st).1, i64 x.v.a ∧ i64 x.v.b ∧ i64 x.v.c := by
  induction n generalizing st with
  | zero => intro x hx; simp [rdPs] at hx
  | succ n ih =>
    intro x hx
    cases st with
    | none => simp [rdPs] at hx
    | some l =>
      rcases List.mem_cons.1 (show x ∈ (rdZ (some l)).1 :: (rdPs n (rdZ (some l)).2).1 from hx) with rfl | hx
      · exact ⟨zag_i64 _, zag_i64 _, zag_i64 _⟩
      · exact ih _ x hx
theorem pinZ_len1 (x : Pn) : 1 ≤ (pinZ x).length ∧ x.p.size ≤ (pinZ x).length := by
  unfold pinZ txt
  simp only [List.length_append, Cx.uv_len]
  have : x.p.data.toList.length = x.p.size := by simp
  omega
theorem many_ge (ps : List Pn) : ps.length ≤ (many pinZ ps).length ∧ ∀ x ∈ ps, x.p.size ≤ (many pinZ ps).length := by
  induction ps with
  | nil => exact ⟨Nat.le_refl _, fun x hx => by cases hx⟩
  | cons y l ih =>
    have h1 := pinZ_len1 y
    have e : (many pinZ (y :: l)).length = (pinZ y).length + (many pinZ l).length := by show (pinZ y ++ many pinZ l).length = _; rw [List.length_append]
    refine ⟨by rw [List.length_cons, e]; have := ih.1; omega, fun x hx => ?_⟩
    rcases List.mem_cons.1 hx with rfl | hx
    · rw [e]; omega
    · have := ih.2 x hx
      rw [e]; omega
theorem rawA_ok (l : List UInt8) (hl : l.length ≤ 4000) (h : l = toldB (rawA l)) : anOk (rawA l) ∧ (rawA l).ps.length ≤ 4000 := by
  have hlen := congrArg List.length h
  unfold toldB at hlen
  simp only [List.length_append, txt_len] at hlen
  obtain ⟨m1, m2⟩ := many_ge (rawA l).ps
  refine ⟨⟨zag_i64 _, zag_i64 _, zag_i64 _, zag_i64 _, by omega, by omega, by omega, fun x hx => ?_, by omega, zag_i64 _, zag_i64 _, zag_i64 _, zag_i64 _⟩, by omega⟩
  have := m2 x hx
  exact ⟨by omega, rdPs_i64 _ _ x hx⟩
end Cm
end Go.Proofs.Ytfbfdkjimoomlaa
