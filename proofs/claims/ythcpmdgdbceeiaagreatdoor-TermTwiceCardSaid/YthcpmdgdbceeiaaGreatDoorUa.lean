/- What is put behind one another is what is put at once (mathematics). -/
import Derived.Test.YthcpmdgdbceeiaaGreatDoorU9
namespace Go.Proofs.YthcpmdgdbceeiaaGreatDoor
open Go.RowKit
/-- A term is at most so deep. -/
def Dp : Nat → Tm → Prop
  | 0, _ => False
  | d + 1, .mk _ _ _ _ kids => ∀ x ∈ kids, Dp d x
theorem IsT.dp {w : World} : ∀ {d : Nat} {v : Value} {t : Tm}, IsT w d v t → Dp d t := by
  intro d
  induction d with
  | zero => intro v t h; cases h
  | succ d ih =>
    intro v t h
    obtain ⟨k, p, n, N, kids⟩ := t
    obtain ⟨q, c, _, _, _, _, h5⟩ := h
    intro x hx
    obtain ⟨i, hi, hxi⟩ := List.getElem_of_mem hx
    obtain ⟨_, _, _, _, _, _, _, _, _, ht⟩ := h5 i x (by rw [List.getElem?_eq_getElem hi, hxi])
    exact ih ht
theorem inN_put1 {b : ByteArray} {ns : List ByteArray} {k : Int} {n : ByteArray} (h : inN b (put1 ns k n) = false) : inN b ns = false ∧ ¬(k = 1 ∧ n = b) := by
  by_cases hk : k = 1 ∧ inN n ns = false
  · have e : put1 ns k n = ns ++ [n] := by unfold put1; rw [if_pos hk]
    rw [e, inN_snoc] at h
    simp at h
    exact ⟨h.2, fun h2 => h.1 h2.2.symm⟩
  · have e : put1 ns k n = ns := by unfold put1; rw [if_neg hk]
    rw [e] at h
    refine ⟨h, fun h2 => hk ⟨h2.1, ?_⟩⟩
    rw [h2.2]; exact h
theorem inN_fold {b : ByteArray} {d : Nat} (hm : ∀ (ns : List ByteArray) (t : Tm), inN b (varsT d ns t) = false → inN b ns = false) : ∀ (kids : List Tm) (ns : List ByteArray), inN b (kids.foldl (varsT d) ns) = false → inN b ns = false ∧ ∀ t ∈ kids, ∃ ns', inN b (varsT d ns' t) = false := by
  intro kids
  induction kids with
  | nil => intro ns h; exact ⟨h, fun t ht => by cases ht⟩
  | cons x l ih =>
    intro ns h
    obtain ⟨h1, h2⟩ := ih (varsT d ns x) h
    refine ⟨hm ns x h1, fun t ht => ?_⟩
    rcases List.mem_cons.1 ht with rfl | ht
    · exact ⟨ns, h1⟩
    · exact h2 t ht
theorem inN_vars {b : ByteArray} : ∀ (d : Nat) (ns : List ByteArray) (t : Tm), inN b (varsT d ns t) = false → inN b ns = false := by
  intro d
  induction d with
  | zero => intro ns t h; exact h
  | succ d ih =>
    intro ns t h
    obtain ⟨k, p, n, N, kids⟩ := t
    exact (inN_put1 (inN_fold ih kids _ h).1).1
/-- Nothing is put where no such variable is. -/
theorem sub_id {σ : ByteArray → Option Tm} {b : ByteArray} (hσ : ∀ n, n ≠ b → σ n = none) : ∀ (d d' : Nat) (ns : List ByteArray) (t : Tm), Dp d t → inN b (varsT d ns t) = false → sub σ d' t = t := by
  intro d
  induction d with
  | zero => intro d' ns t h; cases h
  | succ d ih =>
    intro d' ns t hd h
    cases d' with
    | zero => rfl
    | succ d' =>
      obtain ⟨k, p, n, N, kids⟩ := t
      obtain ⟨h1, h2⟩ := inN_fold (inN_vars d) kids _ h
      obtain ⟨_, h3⟩ := inN_put1 h1
      have e : (if k = 1 then σ n else none) = none := by
        by_cases hk : k = 1
        · rw [if_pos hk]; exact hσ n fun e => h3 ⟨hk, e⟩
        · rw [if_neg hk]
      rw [sub_no e]
      congr 1
      refine (List.map_congr_left fun x hx => ?_).trans (List.map_id kids)
      obtain ⟨ns', hns⟩ := h2 x hx
      exact ih d' ns' x (hd x hx) hns
def one1 (a : ByteArray) (x : Tm) (n : ByteArray) : Option Tm := if a = n then some x else none
def two2 (a : ByteArray) (x : Tm) (b : ByteArray) (y : Tm) (n : ByteArray) : Option Tm := if a = n then some x else if b = n then some y else none
theorem byOf_one (a : ByteArray) (x : Tm) : byOf (fg [a] 1) [x] = one1 a x := by
  funext n
  unfold byOf one1
  by_cases h : a = n
  · have e : fg [a] 1 n = some (0 : Int) := by show (match fg [a] 0 n with | some i => some i | none => if ([a] : List ByteArray)[0]? = some n then some ((0 : Nat) : Int) else none) = _; simp [fg, h]
    rw [e, if_pos h]; rfl
  · have e : fg [a] 1 n = none := by show (match fg [a] 0 n with | some i => some i | none => if ([a] : List ByteArray)[0]? = some n then some ((0 : Nat) : Int) else none) = _; simp [fg, h]
    rw [e, if_neg h]; rfl
theorem byOf_two (a : ByteArray) (x : Tm) (b : ByteArray) (y : Tm) : byOf (fg [a, b] 2) [x, y] = two2 a x b y := by
  funext n
  unfold byOf two2
  have e : fg [a, b] 2 n = (if a = n then some (0 : Int) else if b = n then some (1 : Int) else none) := by
    show (match (match fg [a, b] 0 n with | some i => some i | none => if ([a, b] : List ByteArray)[0]? = some n then some ((0 : Nat) : Int) else none) with | some i => some i | none => if ([a, b] : List ByteArray)[1]? = some n then some ((1 : Nat) : Int) else none) = _
    by_cases h : a = n
    · simp [fg, h]
    · by_cases h2 : b = n
      · simp [fg, h, h2]
      · simp [fg, h, h2]
  rw [e]
  by_cases h : a = n
  · rw [if_pos h, if_pos h]; rfl
  · rw [if_neg h, if_neg h]
    by_cases h2 : b = n
    · rw [if_pos h2, if_pos h2]; rfl
    · rw [if_neg h2, if_neg h2]; rfl
/-- Put behind one another: what is put at once, if the second is not in what the first put. -/
theorem sub_sub {a b : ByteArray} {x y : Tm} (hab : a ≠ b) {e : Nat} (hx : Dp e x) {ns : List ByteArray} (hb : inN b (varsT e ns x) = false) : ∀ (d d2 : Nat) (t : Tm), Dp d t → d ≤ d2 → sub (one1 b y) d2 (sub (one1 a x) d t) = sub (two2 a x b y) d t := by
  intro d
  induction d with
  | zero => intro d2 t h; cases h
  | succ d ih =>
    intro d2 t hd hd2
    obtain ⟨d2, rfl⟩ : ∃ m, d2 = m + 1 := ⟨d2 - 1, by omega⟩
    obtain ⟨k, p, n, N, kids⟩ := t
    have hσ : ∀ n, n ≠ b → one1 b y n = none := fun n h => if_neg fun e => h e.symm
    by_cases hk : k = 1
    · subst hk
      by_cases h1 : a = n
      · have e1 : one1 a x n = some x := if_pos h1
        have e2 : two2 a x b y n = some x := if_pos h1
        rw [sub_yes e1, sub_yes e2]
        exact sub_id hσ e _ ns x hx hb
      · have e1 : one1 a x n = none := if_neg h1
        rw [sub_no (σ := one1 a x) (by rw [if_pos rfl]; exact e1)]
        by_cases h2 : b = n
        · have e3 : one1 b y n = some y := if_pos h2
          have e4 : two2 a x b y n = some y := by unfold two2; rw [if_neg h1, if_pos h2]
          rw [sub_yes e3, sub_yes e4]
        · have e3 : one1 b y n = none := if_neg h2
          have e4 : two2 a x b y n = none := by unfold two2; rw [if_neg h1, if_neg h2]
          rw [sub_no (by rw [if_pos rfl]; exact e3), sub_no (by rw [if_pos rfl]; exact e4), List.map_map]
          congr 1
          exact List.map_congr_left fun z hz => ih d2 z (hd z hz) (by omega)
    · rw [sub_no (if_neg hk), sub_no (if_neg hk), sub_no (if_neg hk), List.map_map]
      congr 1
      exact List.map_congr_left fun z hz => ih d2 z (hd z hz) (by omega)
theorem two_comm {a b : ByteArray} {x y : Tm} (hab : a ≠ b) : two2 a x b y = two2 b y a x := by
  funext n
  unfold two2
  by_cases h : a = n
  · rw [if_pos h, if_neg fun e => hab (h.trans e.symm), if_pos h]
  · rw [if_neg h]
    by_cases h2 : b = n
    · rw [if_pos h2, if_pos h2]
    · rw [if_neg h2, if_neg h2, if_neg h]
end Go.Proofs.YthcpmdgdbceeiaaGreatDoor
