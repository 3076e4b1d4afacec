/- Mathematics: where a number ends by the document, and by a cut at a point. -/
import Derived.Test.YtmgnbpgcbehidaaDoorB1
import Derived.Test.YtmgnbpgcbehidaaDoorC2
namespace Go.Proofs.YtmgnbpgcbehidaaDoor
open Go.RowKit
namespace Sv
theorem not_dig46 : isDig 46 = false := by decide
theorem foldl_le (l : List UInt8) : ∀ a, a * 10 ^ l.length ≤ l.foldl (fun n c => 10 * n + (c.toNat - 48)) a := by
  induction l with
  | nil => intro a; simp
  | cons c l ih =>
    intro a
    have h1 := ih (10 * a + (c.toNat - 48))
    have h3 : (a * 10) * 10 ^ l.length ≤ (10 * a + (c.toNat - 48)) * 10 ^ l.length := Nat.mul_le_mul_right _ (by omega)
    rw [List.length_cons, Nat.pow_succ, Nat.mul_comm (10 ^ l.length) 10, ← Nat.mul_assoc]
    exact Nat.le_trans h3 h1
theorem len_six {T : List UInt8} (h : NumP T) : T.length ≤ 6 := by
  obtain ⟨h1, h2, h3, h4⟩ := h
  cases T with
  | nil => simp
  | cons c l =>
    by_cases hl : l.length = 0
    · simp [hl]
    · have hc : c ≠ 48 := fun e => h2 ⟨by simp [e], by simp; omega⟩
      have hd := isDig_yes (h3 c (by simp))
      have hn : c.toNat ≠ 48 := fun e => hc (UInt8.toNat_inj.1 e)
      have h5 := foldl_le l (10 * 0 + (c.toNat - 48))
      have h6 : val (c :: l) = l.foldl (fun n c => 10 * n + (c.toNat - 48)) (10 * 0 + (c.toNat - 48)) := rfl
      by_cases h7 : l.length ≤ 5
      · simp; omega
      · have h8 : 10 ^ 6 ≤ 10 ^ l.length := Nat.pow_le_pow_right (by omega) (by omega)
        have h9 : 1 * 10 ^ l.length ≤ (10 * 0 + (c.toNat - 48)) * 10 ^ l.length := Nat.mul_le_mul_right _ (by omega)
        omega
theorem run_self {T : List UInt8} (h : ∀ c ∈ T, isDig c = true) : run T = T := by
  have := run_eq (D := T) (j := T.length) (by simpa using h) (.inl rfl)
  simpa using this
theorem run_take (X : List UInt8) : run X = X.take (run X).length := List.prefix_iff_eq_take.1 (List.takeWhile_prefix isDig)
theorem run_le (X : List UInt8) : (run X).length ≤ X.length := (List.takeWhile_prefix (l := X) isDig).length_le
theorem run_dig {X : List UInt8} : ∀ c ∈ run X, isDig c = true := fun c hc => by
  unfold run at hc
  induction X with
  | nil => cases hc
  | cons x l ih =>
    rw [List.takeWhile_cons] at hc
    cases hx : isDig x with
    | false => rw [hx] at hc; cases hc
    | true =>
      rw [hx] at hc
      rcases List.mem_cons.1 hc with rfl | hc
      · exact hx
      · exact ih hc
theorem head_take {X : List UInt8} {j : Nat} (h : 0 < j) : (X.take j).head? = X.head? := by
  cases X with
  | nil => simp
  | cons c l => cases j with
    | zero => omega
    | succ j => rfl
/-- A number's digits, whatever follows. -/
theorem numR_of {X : List UInt8} {j : Nat} (hj : j ≤ X.length) (h : NumP (X.take j)) (hr : run X = X.take j) : NumR X := by
  have h6 := len_six h
  obtain ⟨h1, h2, h3, h4⟩ := h
  have hp : 0 < j := Nat.pos_of_ne_zero fun e => h1 (by rw [e]; rfl)
  exact ⟨by rw [hr]; exact h1, by rw [hr]; exact h6, by rw [hr]; rw [head_take hp] at h2; exact h2⟩
theorem numP_of {X : List UInt8} (h : NumR X) : NumP (run X) := by
  obtain ⟨h1, h2, h3⟩ := h
  have hp : 0 < (run X).length := List.length_pos_iff.2 h1
  refine ⟨h1, fun q => h3 ⟨?_, q.2⟩, run_dig, ?_⟩
  · have := q.1; rw [run_take X, head_take hp] at this; exact this
  · have h5 := val_lt (run X) run_dig
    have h6 : 10 ^ (run X).length ≤ 10 ^ 6 := Nat.pow_le_pow_right (by omega) h2
    omega
theorem ext_data (s : ByteArray) (a b : Nat) : (s.extract a b).data.toList = (s.data.toList.drop a).take (b - a) := by
  rw [ByteArray.data_extract, Array.toList_extract, List.extract_eq_take_drop]
theorem cut_no {s : ByteArray} {c : UInt8} (h : Lib.indexByte s.data.toList c = -1) : cutS s c = (s, ⟨#[]⟩, false) := by unfold cutS; rw [if_pos h]
theorem cut_at {s : ByteArray} {c : UInt8} {j : Nat} (h : Lib.indexByte s.data.toList c = j) : (cutS s c).1.data.toList = s.data.toList.take j ∧ (cutS s c).2.1.data.toList = s.data.toList.drop (j + 1) ∧ (cutS s c).2.2 = true := by
  have hn : ¬ Lib.indexByte s.data.toList c = -1 := by omega
  unfold cutS
  rw [if_neg hn, h]
  refine ⟨?_, ?_, rfl⟩
  · show (s.extract 0 ((j : Int).toNat)).data.toList = _
    rw [ext_data]; simp
  · show (s.extract ((j : Int).toNat + 1) s.size).data.toList = _
    rw [ext_data, List.take_of_length_le (by simp)]
    simp
theorem index_cases (l : List UInt8) (c : UInt8) : Lib.indexByte l c = -1 ∨ ∃ j : Nat, Lib.indexByte l c = j := by
  have := Lib.indexByte_ge l c
  by_cases h : Lib.indexByte l c = -1
  · exact .inl h
  · exact .inr ⟨(Lib.indexByte l c).toNat, by omega⟩
theorem num_at {s : ByteArray} {j : Nat} (h : Lib.indexByte s.data.toList 46 = j) (hn : NumP (s.data.toList.take j)) : NumR s.data.toList ∧ run s.data.toList = s.data.toList.take j := by
  obtain ⟨h1, h2⟩ := Lib.indexByte_some h
  have hl : j < s.data.toList.length := (List.getElem?_eq_some_iff.1 h1).1
  have e : s.data.toList[j] = 46 := (List.getElem?_eq_some_iff.1 h1).2
  have hr : run s.data.toList = s.data.toList.take j := run_eq hn.2.2.1 (.inr ⟨hl, by rw [e]; exact not_dig46⟩)
  exact ⟨numR_of (Nat.le_of_lt hl) hn hr, hr⟩
theorem stepA {s : ByteArray} (h : ¬ (NumR s.data.toList ∧ s.data.toList[(run s.data.toList).length]? = some 46)) : (nb s && m s) = false := by
  rcases index_cases s.data.toList 46 with hi | ⟨j, hi⟩
  · have : m s = false := by unfold m; rw [cut_no hi]
    rw [this]; simp
  · have hc := cut_at hi
    cases hb : nb s with
    | false => rfl
    | true =>
      have hn : NumP (s.data.toList.take j) := by
        unfold nb t at hb
        rw [hc.1] at hb
        exact of_decide_eq_true hb
      obtain ⟨h1, h2⟩ := num_at hi hn
      obtain ⟨g1, _⟩ := Lib.indexByte_some hi
      have hl : j < s.data.toList.length := (List.getElem?_eq_some_iff.1 g1).1
      exact absurd ⟨h1, by rw [h2, List.length_take, Nat.min_eq_left (by omega)]; exact g1⟩ h
theorem stepB {s : ByteArray} (h : NumR s.data.toList) (h2 : s.data.toList[(run s.data.toList).length]? = some 46) : nb s = true ∧ m s = true ∧ nv s = val (run s.data.toList) ∧ (r s).data.toList = s.data.toList.drop ((run s.data.toList).length + 1) := by
  rcases index_cases s.data.toList 46 with hi | ⟨j, hi⟩
  · exact absurd h2 (Lib.indexByte_none hi _)
  · obtain ⟨g1, g2⟩ := Lib.indexByte_some hi
    have hj : j = (run s.data.toList).length := by
      rcases Nat.lt_trichotomy j (run s.data.toList).length with hlt | rfl | hlt
      · exfalso
        have hm : (run s.data.toList)[j] ∈ run s.data.toList := List.getElem_mem hlt
        have hd := run_dig _ hm
        have e : (run s.data.toList)[j]? = s.data.toList[j]? := by
          conv => lhs; rw [run_take s.data.toList]
          rw [List.getElem?_take, if_pos hlt]
        rw [g1, List.getElem?_eq_getElem hlt] at e
        rw [Option.some.inj e, not_dig46] at hd
        cases hd
      · rfl
      · exact absurd h2 (g2 _ hlt)
    have hc := cut_at hi
    have hT : (t s).data.toList = run s.data.toList := by unfold t; rw [hc.1, hj, ← run_take]
    have hy := num_yes (numP_of h)
    refine ⟨by unfold nb; rw [hT, hy.1], by unfold m; exact hc.2.2, by unfold nv; rw [hT, hy.2], by unfold r; rw [hc.2.1, hj]⟩
theorem lastA {s : ByteArray} (h : ¬ (NumR s.data.toList ∧ (run s.data.toList).length = s.data.toList.length)) : (nb s && !m s) = false := by
  rcases index_cases s.data.toList 46 with hi | ⟨j, hi⟩
  · cases hb : nb s with
    | false => rfl
    | true =>
      have ht : t s = s := by unfold t; rw [cut_no hi]
      have hn : NumP s.data.toList := by
        unfold nb at hb
        rw [ht] at hb
        exact of_decide_eq_true hb
      have hr := run_self hn.2.2.1
      exact absurd ⟨numR_of (j := s.data.toList.length) (Nat.le_refl _) (by rw [List.take_length]; exact hn) (by rw [List.take_length]; exact hr), by rw [hr]⟩ h
  · have : m s = true := by unfold m; exact (cut_at hi).2.2
    rw [this]; simp
theorem lastB {s : ByteArray} (h : NumR s.data.toList) (h2 : (run s.data.toList).length = s.data.toList.length) : nb s = true ∧ m s = false ∧ nv s = val (run s.data.toList) := by
  have hr : run s.data.toList = s.data.toList := by
    have := run_take s.data.toList
    rw [h2, List.take_length] at this
    exact this
  rcases index_cases s.data.toList 46 with hi | ⟨j, hi⟩
  · have ht : t s = s := by unfold t; rw [cut_no hi]
    have hy := num_yes (numP_of h)
    rw [hr] at hy
    exact ⟨by unfold nb; rw [ht, hy.1], by unfold m; rw [cut_no hi], by unfold nv; rw [ht, hy.2, hr]⟩
  · exfalso
    obtain ⟨g1, _⟩ := Lib.indexByte_some hi
    have hm := List.mem_of_getElem? g1
    rw [← hr] at hm
    have := run_dig _ hm
    rw [not_dig46] at this
    cases this
end Sv
end Go.Proofs.YtmgnbpgcbehidaaDoor
