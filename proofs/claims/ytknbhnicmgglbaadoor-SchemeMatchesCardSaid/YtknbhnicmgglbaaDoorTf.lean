
/- Texts that are the same; a variable's term. -/
import Derived.Test.YtknbhnicmgglbaaDoorTa
import Derived.Deep.QuietTactic
import Derived.BigQuiet
import Derived.Deep.DeepCutAuto
namespace Go.Proofs.YtknbhnicmgglbaaDoor
open Go.RowKit
/-- A slice of texts. -/
def SRow (w : World) (v : Value) (l : List ByteArray) : Prop := ∃ q c, v = .slice q l.length c ∧ ∀ i s, l[i]? = some s → ∃ g, q = some ⟨g, 0, none⟩ ∧ w.cell? ⟨g, i, none⟩ = some (.string s)
theorem SRow.own {w : World} {base n : Nat} {v : Value} {l : List ByteArray} (hn : n = l.length) (h : w.ownsRow base 9 1 v n (l.map .string)) : SRow w v l := by
  subst hn
  rcases h.2 with ⟨rfl, h0⟩ | ⟨g, cap, cur, rfl, _, hb, _, _, _, h4⟩
  · have : l = [] := List.eq_nil_of_length_eq_zero h0
    subst this
    exact ⟨none, 0, rfl, fun i s hs => by simp at hs⟩
  · refine ⟨_, cap, rfl, fun i s hs => ⟨g, rfl, ?_⟩⟩
    have hi : i < l.length := (List.getElem?_eq_some_iff.1 hs).1
    rw [hb_cell hb, ← Array.getElem?_toList, ← List.getElem?_take_of_lt (l := cur.toList) (i := i) (j := l.length * 1) (by omega), h4, List.getElem?_map, hs]
    rfl
theorem SRow.below {w w' : World} {v : Value} {l : List ByteArray} (h : SRow w v l) (hb : Below w.heap.size w w') : SRow w' v l := by
  obtain ⟨q, c, rfl, h⟩ := h
  refine ⟨q, c, rfl, fun i s hs => ?_⟩
  obtain ⟨g, rfl, hc⟩ := h i s hs
  exact ⟨g, rfl, keep_cell hb hc⟩
theorem kids_none (w : World) (d : Nat) : KidsT w d (.slice none 0 0) [] := ⟨none, 0, rfl, Nat.zero_le _, fun i x hx => by simp at hx⟩
theorem leaf_is (w : World) (d : Nat) (k : Int) (n : ByteArray) (hn : n.size ≤ maxLen) : IsT w (d + 1) (tv k ⟨#[]⟩ n 0 (.slice none 0 0)) (.mk k ⟨#[]⟩ n 0 []) := IsT.shut (Nat.zero_le _) hn (kids_none w d)
theorem kids_two {w : World} {d g : Nat} {k1 k2 N1 N2 : Int} {p1 n1 p2 n2 : ByteArray} {s1 s2 : Value} {x y : Tm} (h : w.heap[g]? = some (.cells #[.int .i64 k1, .string p1, .string n1, .int .i64 N1, s1, .int .i64 k2, .string p2, .string n2, .int .i64 N2, s2] 24 (0, 0)))
    (h1 : IsT w d (tv k1 p1 n1 N1 s1) x) (h2 : IsT w d (tv k2 p2 n2 N2 s2) y) : KidsT w d (.slice (some ⟨g, 0, none⟩) 2 2) [x, y] := by
  refine ⟨_, 2, rfl, by unfold maxLen; simp, fun i z hz => ?_⟩
  match i, hz with
  | 0, hz => cases hz; exact ⟨g, 0, k1, p1, n1, N1, s1, rfl, ⟨hb_at h 0 rfl, hb_at h 1 rfl, hb_at h 2 rfl, hb_at h 3 rfl, hb_at h 4 rfl⟩, h1⟩
  | 1, hz => cases hz; exact ⟨g, 0, k2, p2, n2, N2, s2, rfl, ⟨hb_at h 5 rfl, hb_at h 6 rfl, hb_at h 7 rfl, hb_at h 8 rfl, hb_at h 9 rfl⟩, h2⟩
  | i + 2, hz => simp at hz
theorem kids_one {w : World} {d g : Nat} {k1 N1 : Int} {p1 n1 : ByteArray} {s1 : Value} {x : Tm} (h : w.heap[g]? = some (.cells #[.int .i64 k1, .string p1, .string n1, .int .i64 N1, s1] 24 (0, 0)))
    (h1 : IsT w d (tv k1 p1 n1 N1 s1) x) : KidsT w d (.slice (some ⟨g, 0, none⟩) 1 1) [x] := by
  refine ⟨_, 1, rfl, by unfold maxLen; simp, fun i z hz => ?_⟩
  match i, hz with
  | 0, hz => cases hz; exact ⟨g, 0, k1, p1, n1, N1, s1, rfl, ⟨hb_at h 0 rfl, hb_at h 1 rfl, hb_at h 2 rfl, hb_at h 3 rfl, hb_at h 4 rfl⟩, h1⟩
  | i + 1, hz => simp at hz
theorem srow_two {w : World} {g : Nat} {a b : ByteArray} (h : w.heap[g]? = some (.cells #[.string a, .string b] 9 (0, 0))) : SRow w (.slice (some ⟨g, 0, none⟩) 2 2) [a, b] :=
  ⟨_, 2, rfl, fun i s hs => ⟨g, rfl, by
    match i, hs with
    | 0, hs => cases hs; exact hb_at h 0 rfl
    | 1, hs => cases hs; exact hb_at h 1 rfl
    | i + 2, hs => simp at hs⟩⟩
theorem srow_one {w : World} {g : Nat} {a : ByteArray} (h : w.heap[g]? = some (.cells #[.string a] 9 (0, 0))) : SRow w (.slice (some ⟨g, 0, none⟩) 1 1) [a] :=
  ⟨_, 1, rfl, fun i s hs => ⟨g, rfl, by
    match i, hs with
    | 0, hs => cases hs; exact hb_at h 0 rfl
    | i + 1, hs => simp at hs⟩⟩
theorem KidsT.slice {w : World} {d : Nat} {s : Value} {kids : List Tm} (h : KidsT w d s kids) : ∃ q l c, s = .slice q l c := by
  obtain ⟨q, c, rfl, _⟩ := h
  exact ⟨q, _, c, rfl⟩
end Go.Proofs.YtknbhnicmgglbaaDoor
