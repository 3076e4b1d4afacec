/- SchemeOrder's calls, as it uses them; boxes and ties. -/
import Derived.Test.YtknbhnicmgglbaaDoorZn
import Derived.Test.YtknbhnicmgglbaaDoorYb
import Derived.Test.YtknbhnicmgglbaaDoorYe
import Derived.Test.YtknbhnicmgglbaaDoorU9
import Derived.Outline
namespace Go.Proofs.YtknbhnicmgglbaaDoor
open Go.RowKit
set_option linter.unusedVariables false
noncomputable def abB (a b : Tm) : Bool := by classical exact decide (Ab a b)
theorem abB_iff {a b : Tm} : abB a b = true ↔ Ab a b := by unfold abB; simp
theorem abB_of {a b : Tm} {r : Bool} (h : r = true ↔ Ab a b) : r = abB a b := by
  cases r with
  | true => exact (abB_iff.2 (h.1 rfl)).symm
  | false =>
    cases hx : abB a b with
    | false => rfl
    | true => exact absurd (h.2 (abB_iff.1 hx)) (by simp)
def BoolR (r : Bool) (w : World) (e : Ending) (w' : World) : Prop := e = .returned (.bool r) ∧ Below w.heap.size w w'
theorem aboveB_any (d : Nat) (va vb : Value) (ta tb : Tm) (w : World) (h : Two w d va vb ta tb) : Calls Tryd.prog 10 #[va, vb] w (BoolR (abB ta tb) w) :=
  (above_any d va vb ta tb w h).mono fun e w' ⟨r, he, hm, hb⟩ => ⟨by rw [he, abB_of (mt_iff hm)], hb⟩
theorem sameB_any (d : Nat) (va vb : Value) (ta tb : Tm) (w : World) (h : Two w d va vb ta tb) : Calls Tryd.prog 11 #[va, vb] w (BoolR (abB ta tb && abB tb ta) w) :=
  (same7_any d va vb ta tb w h).mono fun e w' ⟨r, he, hm, hb⟩ => ⟨by
    have h1 := sameM_iff hm
    have h2 : r = (abB ta tb && abB tb ta) := by
      cases r with
      | true =>
        have h3 := h1.1 rfl
        rw [abB_iff.2 h3.1, abB_iff.2 h3.2]; rfl
      | false =>
        cases hx : (abB ta tb && abB tb ta) with
        | false => rfl
        | true =>
          rw [Bool.and_eq_true, abB_iff, abB_iff] at hx
          exact absurd (h1.2 hx) (by simp)
    rw [he, h2], hb⟩
theorem Gd.two {w : World} {d d1 d2 z1 v1 z2 v2 : Nat} {va vb : Value} {ta tb : Tm} (ha : Gd d1 ta z1 v1) (hb : Gd d2 tb z2 v2) (ia : IsT w d1 va ta) (ib : IsT w d2 vb tb) (h1 : d1 ≤ d) (h2 : d2 ≤ d) (hz1 : z1 ≤ 30000) (hz2 : z2 ≤ 30000) : Two w d va vb ta tb :=
  ⟨ia.more h1, ib.more h2, (ha.more h1 hz1 (Nat.le_refl _)).sm, (hb.more h2 hz2 (Nat.le_refl _)).sm, (ha.more h1 hz1 (Nat.le_refl _)).sz, (hb.more h2 hz2 (Nat.le_refl _)).sz⟩
theorem same_eq {d z v z' v' : Nat} {a b : Tm} (ha : Gd d a z v) (hb : Gd d b z' v') (hv : v ≤ 2600) (hv' : v' ≤ 2600) : (abB a b && abB b a) = same (canonT d a) (canonT d b) := by
  have h := canon_iff ha.ty hb.ty (Nat.le_trans ha.vs hv) (Nat.le_trans hb.vs hv')
  cases hx : (abB a b && abB b a) with
  | true =>
    rw [Bool.and_eq_true, abB_iff, abB_iff] at hx
    exact (same_iff.2 (h.2 hx)).symm
  | false =>
    refine (same_no fun e => ?_).symm
    have h2 := h.1 e
    rw [← abB_iff, ← abB_iff] at h2
    rw [h2.1, h2.2] at hx
    cases hx
theorem Gd.canon' {d z v : Nat} {t : Tm} (h : Gd d t z v) : Gd (1 + d) (canonT d t) z z := by
  obtain ⟨h1, h2, h3⟩ := h.canon
  refine ⟨h1, h2, h3, ?_⟩
  have := varsT_length (1 + d) [] (canonT d t)
  simp at this
  omega
def CanB (d : Nat) (t : Tm) (w : World) (e : Ending) (w' : World) : Prop := ∃ v', e = .returned v' ∧ IsT w' (1 + d) v' (canonT d t) ∧ Below w.heap.size w w'
theorem canonB_any (d z v : Nat) (va : Value) (t : Tm) (w : World) (h : Gd d t z v) (hz : z ≤ 30000) (hv : v ≤ 2600) (hi : IsT w d va t) : Calls Tryd.prog 16 #[va] w (CanB d t w) :=
  (canonA_any d va t w hi h.sm (Nat.le_trans h.sz hz) (Nat.le_trans h.vs hv)).mono fun e w' ⟨k, p, n, N, q, l, c, he, hx, hb⟩ => ⟨_, he, hx.isT, hb⟩
theorem IsT.shp {w : World} {d : Nat} {v : Value} {x : Tm} (h : IsT w d v x) : ∃ k p n N q l c, v = tv k p n N (.slice q l c) := by
  obtain ⟨_, k, p, n, N, _, l, _, _, rfl, _, _, q, c, rfl, _⟩ := h.open
  exact ⟨_, _, _, _, _, _, _, rfl⟩
def Inr.MP.row (xs : List ByteArray) : Inr.MP := ⟨fun v w => SRowO w v xs, fun v w w' h hb => h.below hb⟩
def Inr.MP.term (d : Nat) (t : Tm) : Inr.MP := ⟨fun v w => IsT w d v t, fun v w w' h hb => h.below hb⟩
def Inr.MP.kids (B0 d : Nat) (l : List Tm) : Inr.MP := ⟨fun v w => KidsE (fun b => b < B0) w d v l, fun v w w' h hb => h.below hb⟩
def Inr.MP.box (base : Nat) : Inr.MP := ⟨fun v w => ∃ g, v = .pointer (some ⟨g, 0, none⟩) ∧ base ≤ g ∧ w.heap[g]? = some (.cells #[.int .i64 0, .string ⟨#[]⟩, .string ⟨#[]⟩, .int .i64 0, .slice none 0 0] 24 (0, 0)),
  fun v w w' ⟨g, h1, h2, h3⟩ hb => ⟨g, h1, h2, hb_below h3 hb (hb_lt h3)⟩⟩
/-- A term whose lists don't lie in a box. -/
def Inr.Tie.apart (a b d : Nat) (t : Tm) : Inr.Tie := ⟨a, b, fun v u w => ∃ g, u = .pointer (some ⟨g, 0, none⟩) ∧ IsX (fun b => b ≠ g) w d v t, fun v u w w' ⟨g, h1, h2⟩ hb => ⟨g, h1, h2.below hb⟩⟩
theorem apart_l {w w3 : World} {base d : Nat} {t : Tm} {v u : Value} (hu : (Inr.MP.box base).p u w) (hx : IsX (fun b => b < base ∨ w.heap.size ≤ b) w3 d v t) : ∃ g, u = .pointer (some ⟨g, 0, none⟩) ∧ IsX (fun b => b ≠ g) w3 d v t := by
  obtain ⟨g, rfl, h1, hg⟩ := hu
  exact ⟨g, rfl, hx.move fun b hb _ => ⟨by have := hb_lt hg; omega, rfl⟩⟩
theorem apart_r {w : World} {d : Nat} {t : Tm} {u : Value} (o : Obj) (hu : IsT w d u t) : ∃ g, Value.pointer (some ⟨w.heap.size, 0, none⟩) = .pointer (some ⟨g, 0, none⟩) ∧ IsX (fun b => b ≠ g) (w.alloc o) d u t :=
  ⟨_, rfl, hu.isX.move fun b hb _ => ⟨Nat.ne_of_lt hb, by rw [Below.heap_alloc _ _ _ hb]⟩⟩
theorem SRowO.two {w : World} {g : Nat} {x y : ByteArray} (h : w.heap[g]? = some (.cells #[.string x, .string y] 9 (0, 0))) : SRowO w (.slice (some ⟨g, 0, none⟩) 2 2) [x, y] := by
  refine ⟨_, 2, rfl, fun i z hz => ⟨g, 0, rfl, ?_⟩⟩
  match i, hz with
  | 0, hz => cases hz; exact hb_at h 0 rfl
  | 1, hz => cases hz; exact hb_at h 1 rfl
  | i + 2, hz => simp at hz
theorem KidsE.two {w w0 : World} {g d : Nat} {k : Int} {p n : ByteArray} {N : Int} {s : Value} {t : Tm} {k2 : Int} {p2 n2 : ByteArray} {N2 : Int} {s2 : Value} {t2 : Tm}
    (h : w.heap[g]? = some (.cells #[.int .i64 k, .string p, .string n, .int .i64 N, s, .int .i64 k2, .string p2, .string n2, .int .i64 N2, s2] 24 (0, 0)))
    (hb : Below w0.heap.size w0 w) (h1 : IsT w0 d (tv k p n N s) t) (h2 : IsT w0 d (tv k2 p2 n2 N2 s2) t2) : KidsE (fun b => b < w0.heap.size) w d (.slice (some ⟨g, 0, none⟩) 2 2) [t, t2] := by
  refine ⟨_, 2, rfl, by show 2 ≤ maxLen; decide, fun i x hx => ?_⟩
  match i, hx with
  | 0, hx =>
    cases hx
    exact ⟨g, 0, k, p, n, N, s, rfl, trivial, ⟨hb_at h 0 rfl, hb_at h 1 rfl, hb_at h 2 rfl, hb_at h 3 rfl, hb_at h 4 rfl⟩, h1.isX.below hb⟩
  | 1, hx =>
    cases hx
    exact ⟨g, 0, k2, p2, n2, N2, s2, rfl, trivial, ⟨hb_at h 5 rfl, hb_at h 6 rfl, hb_at h 7 rfl, hb_at h 8 rfl, hb_at h 9 rfl⟩, h2.isX.below hb⟩
  | i + 2, hx => simp at hx
end Go.Proofs.YtknbhnicmgglbaaDoor
