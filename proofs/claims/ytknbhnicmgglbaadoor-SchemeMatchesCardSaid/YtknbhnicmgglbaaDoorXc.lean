
/- The stack of pairs, and what is put. -/
import Derived.Test.YtknbhnicmgglbaaDoorXb
namespace Go.Proofs.YtknbhnicmgglbaaDoor
open Go.RowKit
abbrev T10 := T5 × T5
def prC (q : T10) : List Value := [.int .i64 q.1.1, .string q.1.2.1, .string q.1.2.2.1, .int .i64 q.1.2.2.2.1, q.1.2.2.2.2, .int .i64 q.2.1, .string q.2.2.1, .string q.2.2.2.1, .int .i64 q.2.2.2.2.1, q.2.2.2.2.2]
/-- The cells of a stack, its top first. -/
def prL (vs : List T10) : List Value := vs.reverse.flatMap prC
theorem prL_cons (q : T10) (vs : List T10) : prL (q :: vs) = prL vs ++ prC q := by simp [prL]
theorem prL_length (vs : List T10) : (prL vs).length = vs.length * 10 := by
  induction vs with
  | nil => rfl
  | cons q vs ih => rw [prL_cons, List.length_append, ih, List.length_cons]; simp [prC]; omega
theorem own_pop {w : World} {B c : Nat} {ao : Option Addr} {q : T10} {vs : List T10} (h : w.ownsRow B 42 10 (.slice ao (vs.length + 1) c) (vs.length + 1) (prL (q :: vs))) : w.ownsRow B 42 10 (.slice ao vs.length c) vs.length (prL vs) := by
  obtain ⟨h1, h2⟩ := h
  rcases h2 with ⟨h0, _⟩ | ⟨g, cap, cur, hv, hg, hh, hn, hcap, hsz, htake⟩
  · cases h0
  · cases hv
    refine ⟨prL_length vs, .inr ⟨g, c, cur, rfl, hg, hh, by omega, hcap, hsz, ?_⟩⟩
    have h3 : (cur.toList.take ((vs.length + 1) * 10)).take (vs.length * 10) = (prL (q :: vs)).take (vs.length * 10) := by rw [htake]
    rw [List.take_take, Nat.min_eq_left (by omega), prL_cons, List.take_append_of_le_length (by rw [prL_length]; omega), List.take_of_length_le (l := prL vs) (by rw [prL_length]; omega)] at h3
    exact h3
theorem own_sl0 {w : World} {b : Nat} {e : TypeId} {size n : Nat} {v : Value} {xs : List Value} (h : w.ownsRow b e size v n xs) : ∃ ao c, v = .slice ao n c ∧ n ≤ c := by
  rcases h.2 with ⟨rfl, rfl⟩ | ⟨g, cap, cur, rfl, _, _, hn, _⟩
  · exact ⟨none, 0, rfl, Nat.le_refl _⟩
  · exact ⟨_, cap, rfl, hn⟩
/-- The cells of its top. -/
theorem own_top {w : World} {B c : Nat} {ao : Option Addr} {q : T10} {vs : List T10} (h : w.ownsRow B 42 10 (.slice ao (vs.length + 1) c) (vs.length + 1) (prL (q :: vs))) :
    ∃ g, ao = some ⟨g, 0, none⟩ ∧ B ≤ g ∧ vs.length + 1 ≤ c ∧ (∃ cur, w.heap[g]? = some (.cells cur 42 (0, 0))) ∧ ∀ j u, (prC q)[j]? = some u → w.cell? ⟨g, vs.length * 10 + j, none⟩ = some u := by
  have h0 := h
  obtain ⟨h1, h2⟩ := h
  rcases h2 with ⟨h0, _⟩ | ⟨g, cap, cur, hv, hg, hh, hn, hcap, hsz, htake⟩
  · cases h0
  · cases hv
    refine ⟨g, rfl, hg, hn, ⟨cur, hh⟩, fun j u hu => ?_⟩
    have hlt : j < 10 := by
      have := (List.getElem?_eq_some_iff.1 hu).1
      simpa [prC] using this
    have h4 : (prL (q :: vs))[vs.length * 10 + j]? = some u := by
      rw [prL_cons, List.getElem?_append_right (by rw [prL_length]; omega), prL_length, Nat.add_sub_cancel_left, hu]
    rw [← htake, List.getElem?_take_of_lt (by omega)] at h4
    rw [hb_cell hh]
    simpa using h4
/-- The stack's values are terms. -/
def Prs (w0 : World) (D : Nat) : List T10 → List (Tm × Tm) → Prop
  | [], [] => True
  | q :: vs, x :: st => IsT w0 D (t5v q.1) x.1 ∧ IsT w0 D (t5v q.2) x.2 ∧ Sm D x.2 ∧ Prs w0 D vs st
  | _, _ => False
theorem Prs.len {w0 : World} {D : Nat} : ∀ {vs : List T10} {st : List (Tm × Tm)}, Prs w0 D vs st → vs.length = st.length
  | [], [], _ => rfl
  | _ :: vs, _ :: st, h => by rw [List.length_cons, List.length_cons, Prs.len h.2.2.2]
  | [], _ :: _, h => h.elim
  | _ :: _, [], h => h.elim
theorem Prs.dp {w0 : World} {D : Nat} : ∀ {vs : List T10} {st : List (Tm × Tm)}, Prs w0 D vs st → ∀ x ∈ st, Dp D x.1
  | [], [], _, x, hx => by cases hx
  | _ :: vs, y :: st, h, x, hx => by
    rcases List.mem_cons.1 hx with rfl | hx
    · exact h.1.dp
    · exact Prs.dp h.2.2.2 x hx
  | [], _ :: _, h, _, _ => h.elim
  | _ :: _, [], h, _, _ => h.elim
/-- What is put: values that are these terms. -/
def PutOk (w0 : World) (D : Nat) (g : ByteArray → Option Value) (P : ByteArray → Option Tm) : Prop :=
  ∀ s, (g s = none ∧ P s = none) ∨ ∃ v t, g s = some v ∧ P s = some t ∧ IsT w0 D v t ∧ Sm D t
theorem PutOk.up {w0 : World} {D : Nat} {g : ByteArray → Option Value} {P : ByteArray → Option Tm} (h : PutOk w0 D g P) (n : ByteArray) {v : Value} {t : Tm} (ht : IsT w0 D v t) (hs : Sm D t) : PutOk w0 D (upV g n v) (upV P n t) := fun s => by
  unfold upV
  by_cases e : s = n
  · rw [if_pos e, if_pos e]; exact .inr ⟨v, t, rfl, rfl, ht, hs⟩
  · rw [if_neg e, if_neg e]; exact h s
/-- The world while the loop goes round: b0 lies the general one's box; M is the map. -/
structure MSt (w0 w : World) (D M b0 : Nat) (bx : Array Value) (sv : Value) (st : List (Tm × Tm)) (P : ByteArray → Option Tm) (n : Nat) : Prop where
  vs : ∃ vs, Prs w0 D vs st ∧ w.ownsRow w0.heap.size 42 10 sv vs.length (prL vs)
  put : ∃ g, TMap w M n g ∧ PutOk w0 D g P
  box : w.heap[b0]? = some (.cells bx 24 (0, 0))
  lo : w0.heap.size ≤ M ∧ w0.heap.size ≤ b0
  below : Below w0.heap.size w0 w
theorem MSt.kept {w0 w w' : World} {D M b0 : Nat} {bx : Array Value} {sv : Value} {st : List (Tm × Tm)} {P : ByteArray → Option Tm} {n : Nat} (h : MSt w0 w D M b0 bx sv st P n) (hk : ∀ (g : Nat) (x : Obj), w.heap[g]? = some x → w'.heap[g]? = some x) (hb : Below w0.heap.size w0 w') : MSt w0 w' D M b0 bx sv st P n := by
  obtain ⟨vs, h1, h2⟩ := h.vs
  obtain ⟨g, h3, h4⟩ := h.put
  exact ⟨⟨vs, h1, own_kept h2 fun g x _ hx => hk g x hx⟩, ⟨g, h3.kept fun x hx => hk _ x hx, h4⟩, hk _ _ h.box, h.lo, hb⟩
theorem MSt.below2 {w0 w w' : World} {D M b0 : Nat} {bx : Array Value} {sv : Value} {st : List (Tm × Tm)} {P : ByteArray → Option Tm} {n : Nat} (h : MSt w0 w D M b0 bx sv st P n) (hb : Below w.heap.size w w') : MSt w0 w' D M b0 bx sv st P n :=
  h.kept (fun g x hx => hb_below hx hb (hb_lt hx)) (h.below.trans (hb.mono h.below.size))
end Go.Proofs.YtknbhnicmgglbaaDoor
