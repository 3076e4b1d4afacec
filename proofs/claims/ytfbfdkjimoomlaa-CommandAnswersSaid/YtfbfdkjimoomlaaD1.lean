
/- A writer: its pieces, and what a call puts behind them. -/
import Derived.Test.YtfbfdkjimoomlaaC8
import Derived.Test.YtfbfdkjimoomlaaC3
namespace Go.Proofs.Ytfbfdkjimoomlaa
open Go.RowKit

/-- The bytes of pieces, the last one first. -/
def text : List (List UInt8) → List UInt8
  | [] => []
  | c :: r => text r ++ c
def Chain (w : World) (B : Nat) : Value → List (List UInt8) → Prop
  | p, [] => p = .pointer none
  | p, c :: r => ∃ X q bv, p = .pointer (some ⟨X, 0, none⟩) ∧ B < X ∧ w.heap[X]? = some (.cells #[q, bv, .int .i64 ((text (c :: r)).length : Nat)] 98 (0, 0)) ∧ w.ownsRow (B + 1) 5 1 bv c.length (bytesV c) ∧ Chain w B q r
def Wr (w : World) (B : Nat) (ps : List (List UInt8)) : Prop := ∃ p, w.heap[B]? = some (.cells #[p] 62 (0, 0)) ∧ Chain w B p ps

theorem own_base {w : World} {b b' : Nat} {e : TypeId} {size : Nat} {v : Value} {n : Nat} {xs : List Value} (h : w.ownsRow b e size v n xs) (hb : b' ≤ b) : w.ownsRow b' e size v n xs := by
  obtain ⟨hl, h⟩ := h
  refine ⟨hl, ?_⟩
  rcases h with h | ⟨g, cap, cur, rfl, hg, r⟩
  · exact .inl h
  · exact .inr ⟨g, cap, cur, rfl, by omega, r⟩
theorem own_block {w : World} {base : Nat} {e : TypeId} {size : Nat} {v : Value} {n : Nat} {xs : List Value} (h : w.ownsRow base e size v n xs) : ∀ g, v.ownBlock = some g → base ≤ g := fun g hg => (h.lt g hg).1
theorem Chain.kept {w w' : World} {B : Nat} (hk : ∀ k x, B < k → w.heap[k]? = some x → w'.heap[k]? = some x) : ∀ (ps : List (List UInt8)) (p : Value), Chain w B p ps → Chain w' B p ps
  | [], _, h => h
  | c :: r, p, ⟨X, q, bv, hp, hX, hh, ho, hc⟩ => ⟨X, q, bv, hp, hX, hk X _ hX hh, own_kept ho (fun g x hg hx => hk g x (own_block ho g hg) hx), Chain.kept hk r q hc⟩
theorem Wr.lt {w : World} {B : Nat} {ps : List (List UInt8)} (h : Wr w B ps) : B < w.heap.size := by
  obtain ⟨p, h, _⟩ := h
  exact hb_lt h
theorem Wr.below {w w' : World} {B : Nat} {ps : List (List UInt8)} (h : Wr w B ps) (hb : Below w.heap.size w w') : Wr w' B ps := by
  obtain ⟨p, h1, h2⟩ := h
  exact ⟨p, hb_below h1 hb (hb_lt h1), Chain.kept (fun k x _ hx => hb_below hx hb (hb_lt hx)) ps p h2⟩
theorem below_grown {w w' : World} (h : Below w.heap.size w w') (row : Option Nat) : w.grownBy w' row := ⟨h.os, h.tape, h.output, h.size, fun k hk _ => h.block k hk⟩

set_option maxHeartbeats 1000000 in
theorem add_piece (B : Nat) (ps : List (List UInt8)) (c : List UInt8) (bv : Value) (w : World) (hW : Wr w B ps) (hown : w.ownsRow (B + 1) 5 1 bv c.length (bytesV c)) (hc : c.length ≤ 140737488355400) (hp : (text ps).length ≤ 1000000) :
    Calls Try.prog 51 #[.pointer (some ⟨B, 0, none⟩), bv] w fun e w' => e = .returned (.tuple #[]) ∧ Wr w' B (c :: ps) ∧ w.grownBy w' (some B) := by
  obtain ⟨p, hB, hCh⟩ := hW
  have hlen : ∀ g n cp, bv = .slice g n cp → n = c.length := by
    intro g n cp e
    subst e
    rcases hown.2 with ⟨h, h0⟩ | ⟨_, _, _, h, _⟩
    · cases h; omega
    · cases h; rfl
  have c0 : w.cell? ⟨B, 0, none⟩ = some p := hb_at hB 0 rfl
  have hBl := hb_lt hB
  have f0 := hb_free hB 0
  obtain ⟨g, n, cp, rfl⟩ : ∃ g n cp, bv = .slice g n cp := by
    rcases hown.2 with ⟨h, _⟩ | ⟨_, _, _, h, _⟩
    · exact ⟨_, _, _, h⟩
    · exact ⟨_, _, _, h⟩
  obtain rfl := hlen g n cp rfl
  have HO := Lib.hid hown
  have HB := Lib.hid hB
  clear hown hB hlen
  have fin : ∀ (q : Value) (z : Int), z = ((text (c :: ps)).length : Nat) → Chain w B q ps →
      Wr ((w.setCell ⟨B, 0, none⟩ (.pointer (some ⟨w.heap.size, 0, none⟩))).alloc (.cells #[q, .slice g c.length cp, .int .i64 z] 98)) B (c :: ps) ∧
      w.grownBy ((w.setCell ⟨B, 0, none⟩ (.pointer (some ⟨w.heap.size, 0, none⟩))).alloc (.cells #[q, .slice g c.length cp, .int .i64 z] 98)) (some B) := by
    intro q z hz hch
    subst hz
    have hsz : (w.setCell ⟨B, 0, none⟩ (.pointer (some ⟨w.heap.size, 0, none⟩))).heap.size = w.heap.size := by simp [World.setCell]
    have hk : ∀ k x, B < k → w.heap[k]? = some x → ((w.setCell ⟨B, 0, none⟩ (.pointer (some ⟨w.heap.size, 0, none⟩))).alloc (.cells #[q, .slice g c.length cp, .int .i64 ((text (c :: ps)).length : Nat)] 98)).heap[k]? = some x :=
      fun k x hk hx => hb_alloc (hb_set_other hx _ (by simp; omega)) _
    have hnew := hb_new (w.setCell ⟨B, 0, none⟩ (.pointer (some ⟨w.heap.size, 0, none⟩))) (.cells #[q, .slice g c.length cp, .int .i64 ((text (c :: ps)).length : Nat)] 98)
    rw [hsz] at hnew
    refine ⟨⟨_, hb_alloc (hb_set_same HB.out 0 _) _, w.heap.size, q, _, rfl, hBl, hnew, own_kept HO.out (fun g x hg hx => hk g x (own_block HO.out g hg) hx), Chain.kept hk ps q hch⟩, ?_⟩
    exact (grown_set w ⟨B, 0, none⟩ _).trans (below_grown (below_alloc _ _) _)
  have FIN := Lib.hid fin
  clear fin
  cases ps with
  | nil =>
    obtain rfl : p = .pointer none := hCh
    go_enter Try.func51, Try.ntmps51
    go_wp2
    go_end0
    exact ⟨rfl, FIN.out _ _ (by simp [text]) rfl⟩
  | cons c2 r =>
    obtain ⟨X, q, bv2, rfl, hX, hh, ho, hc2⟩ := id hCh
    have d2 : w.cell? ⟨X, 2, none⟩ = some (.int .i64 ((text (c2 :: r)).length : Nat)) := hb_at hh 2 rfl
    have HCh := Lib.hid hCh
    have e : (text (c :: c2 :: r)).length = c.length + (text (c2 :: r)).length := by
      rw [text, List.length_append]; omega
    have HE := Lib.hid e
    clear hCh hh ho hc2 e
    generalize (text (c2 :: r)).length = m at *
    go_enter Try.func51, Try.ntmps51
    go_wp2
    go_end0
    exact ⟨rfl, FIN.out _ _ (by rw [HE.out]; simp) HCh.out⟩
end Go.Proofs.Ytfbfdkjimoomlaa
