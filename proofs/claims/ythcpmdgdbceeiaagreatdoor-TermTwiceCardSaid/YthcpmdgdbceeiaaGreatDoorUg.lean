/- Slices of one or two texts or terms; boxes; ties. -/
import Derived.Test.YthcpmdgdbceeiaaGreatDoorUc
import Derived.Test.YthcpmdgdbceeiaaGreatDoorUf
namespace Go.Proofs.YthcpmdgdbceeiaaGreatDoor
open Go.RowKit
theorem IsT.isX {w : World} {d : Nat} : ∀ {v : Value} {x : Tm}, IsT w d v x → IsX (fun b => b < w.heap.size) w d v x := by
  induction d with
  | zero => intro v x h; cases h
  | succ d ih =>
    intro v x h
    obtain ⟨k, p, n, N, kids⟩ := x
    obtain ⟨q, c, h1, h2, h3, h4, h5⟩ := h
    refine ⟨q, c, h1, h2, h3, h4, fun i y hy => ?_⟩
    obtain ⟨b, o, k', p', n', N', s', e, ha, ht⟩ := h5 i y hy
    exact ⟨b, o, k', p', n', N', s', e, ha.lt, ha, ih ht⟩
theorem TAt.of_block {w : World} {g j : Nat} {cs : Array Value} {k : Int} {p n : ByteArray} {N : Int} {s : Value} (h : w.heap[g]? = some (.cells cs 24 (0, 0)))
    (h0 : cs[j]? = some (.int .i64 k)) (h1 : cs[j + 1]? = some (.string p)) (h2 : cs[j + 2]? = some (.string n)) (h3 : cs[j + 3]? = some (.int .i64 N)) (h4 : cs[j + 4]? = some s) : TAt w g j k p n N s :=
  ⟨hb_at h _ h0, hb_at h _ h1, hb_at h _ h2, hb_at h _ h3, hb_at h _ h4⟩
theorem KidsT.one {w : World} {g d : Nat} {k : Int} {p n : ByteArray} {N : Int} {s : Value} {t : Tm} (h : w.heap[g]? = some (.cells #[.int .i64 k, .string p, .string n, .int .i64 N, s] 24 (0, 0))) (ht : IsT w d (tv k p n N s) t) :
    KidsT w d (.slice (some ⟨g, 0, none⟩) 1 1) [t] := by
  refine ⟨_, 1, rfl, by unfold maxLen; simp, fun i x hx => ?_⟩
  match i, hx with
  | 0, hx =>
    cases hx
    exact ⟨g, 0, k, p, n, N, s, rfl, TAt.of_block h rfl rfl rfl rfl rfl, ht⟩
  | i + 1, hx => simp at hx
theorem KidsT.two {w : World} {g d : Nat} {k : Int} {p n : ByteArray} {N : Int} {s : Value} {t : Tm} {k2 : Int} {p2 n2 : ByteArray} {N2 : Int} {s2 : Value} {t2 : Tm}
    (h : w.heap[g]? = some (.cells #[.int .i64 k, .string p, .string n, .int .i64 N, s, .int .i64 k2, .string p2, .string n2, .int .i64 N2, s2] 24 (0, 0))) (ht : IsT w d (tv k p n N s) t) (ht2 : IsT w d (tv k2 p2 n2 N2 s2) t2) :
    KidsT w d (.slice (some ⟨g, 0, none⟩) 2 2) [t, t2] := by
  refine ⟨_, 2, rfl, by unfold maxLen; simp, fun i x hx => ?_⟩
  match i, hx with
  | 0, hx =>
    cases hx
    exact ⟨g, 0, k, p, n, N, s, rfl, TAt.of_block h rfl rfl rfl rfl rfl, ht⟩
  | 1, hx =>
    cases hx
    exact ⟨g, 0, k2, p2, n2, N2, s2, rfl, TAt.of_block h rfl rfl rfl rfl rfl, ht2⟩
  | i + 2, hx => simp at hx
theorem SRow.nil (w : World) : SRow w (.slice none 0 0) [] := ⟨none, 0, rfl, fun i s h => by simp at h⟩
theorem SRow.two {w : World} {g : Nat} {x y : ByteArray} (h : w.heap[g]? = some (.cells #[.string x, .string y] 9 (0, 0))) : SRow w (.slice (some ⟨g, 0, none⟩) 2 2) [x, y] := by
  refine ⟨_, 2, rfl, fun i z hz => ⟨g, rfl, ?_⟩⟩
  match i, hz with
  | 0, hz => cases hz; exact hb_at h 0 rfl
  | 1, hz => cases hz; exact hb_at h 1 rfl
  | i + 2, hz => simp at hz
/-- A box for a term that is new, and empty. -/
def Inv.MP.box (base : Nat) : Inv.MP := ⟨fun v w => ∃ g, v = .pointer (some ⟨g, 0, none⟩) ∧ base ≤ g ∧ w.heap[g]? = some (.cells #[.int .i64 0, .string ⟨#[]⟩, .string ⟨#[]⟩, .int .i64 0, .slice none 0 0] 24 (0, 0)),
  fun v w w' ⟨g, h1, h2, h3⟩ hb => ⟨g, h1, h2, hb_below h3 hb (hb_lt h3)⟩⟩
/-- A term whose lists don't lie in a box. -/
def Inv.Tie.apart (a b d : Nat) (t : Tm) : Inv.Tie := ⟨a, b, fun v u w => ∃ g, u = .pointer (some ⟨g, 0, none⟩) ∧ IsX (fun b => b ≠ g) w d v t, fun v u w w' ⟨g, h1, h2⟩ hb => ⟨g, h1, h2.below hb⟩⟩
theorem apart_left {w w3 : World} {base d : Nat} {t : Tm} {v u : Value} (hu : (Inv.MP.box base).p u w) (hx : IsX (fun b => w.heap.size ≤ b) w3 d v t) : ∃ g, u = .pointer (some ⟨g, 0, none⟩) ∧ IsX (fun b => b ≠ g) w3 d v t := by
  obtain ⟨g, rfl, _, hg⟩ := hu
  exact ⟨g, rfl, hx.move fun b hb _ => ⟨by have := hb_lt hg; omega, rfl⟩⟩
theorem apart_right {w : World} {d : Nat} {t : Tm} {u : Value} (o : Obj) (hu : IsT w d u t) : ∃ g, Value.pointer (some ⟨w.heap.size, 0, none⟩) = .pointer (some ⟨g, 0, none⟩) ∧ IsX (fun b => b ≠ g) (w.alloc o) d u t :=
  ⟨_, rfl, hu.isX.move fun b hb _ => ⟨Nat.ne_of_lt hb, by rw [Below.heap_alloc _ _ _ hb]⟩⟩
theorem box_set {w : World} {base g : Nat} {z0 z1 z2 z3 z4 : Value} (hbg : base ≤ g) (hz : w.heap[g]? = some (.cells #[z0, z1, z2, z3, z4] 24 (0, 0))) (c0 c1 c2 c3 c4 : Value) :
    (((((w.setCell ⟨g, 0, none⟩ c0).setCell ⟨g, 1, none⟩ c1).setCell ⟨g, 2, none⟩ c2).setCell ⟨g, 3, none⟩ c3).setCell ⟨g, 4, none⟩ c4).heap[g]? = some (.cells #[c0, c1, c2, c3, c4] 24 (0, 0)) ∧
    (∀ b, b ≠ g → (((((w.setCell ⟨g, 0, none⟩ c0).setCell ⟨g, 1, none⟩ c1).setCell ⟨g, 2, none⟩ c2).setCell ⟨g, 3, none⟩ c3).setCell ⟨g, 4, none⟩ c4).heap[b]? = w.heap[b]?) ∧
    Below base w (((((w.setCell ⟨g, 0, none⟩ c0).setCell ⟨g, 1, none⟩ c1).setCell ⟨g, 2, none⟩ c2).setCell ⟨g, 3, none⟩ c3).setCell ⟨g, 4, none⟩ c4) := by
  refine ⟨?_, fun b hb => ?_, (((((Below.refl _ w).setCell (by simpa using hbg) _).setCell (by simpa using hbg) _).setCell (by simpa using hbg) _).setCell (by simpa using hbg) _).setCell (by simpa using hbg) _⟩
  · have h0 := hb_set_same hz 0 c0
    have h1 := hb_set_same h0 1 c1
    have h2 := hb_set_same h1 2 c2
    have h3 := hb_set_same h2 3 c3
    have h4 := hb_set_same h3 4 c4
    simpa using h4
  · rw [Below.heap_setCell _ _ _ b hb, Below.heap_setCell _ _ _ b hb, Below.heap_setCell _ _ _ b hb, Below.heap_setCell _ _ _ b hb, Below.heap_setCell _ _ _ b hb]
end Go.Proofs.YthcpmdgdbceeiaaGreatDoor
