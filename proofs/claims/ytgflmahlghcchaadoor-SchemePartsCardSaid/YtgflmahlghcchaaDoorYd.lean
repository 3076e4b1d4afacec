/- Canon of the chapter's example. -/
import Derived.Test.YtgflmahlghcchaaDoorYa
import Derived.Test.YtgflmahlghcchaaDoorU8
import Derived.Laws.MakeOwn
namespace Go.Proofs.YtgflmahlghcchaaDoor
open Go.RowKit
abbrev tA : ByteArray := ⟨#[97]⟩
abbrev tB : ByteArray := ⟨#[98]⟩
def byC : Nat → Array Value
  | 0 => #[.int .i64 0, .string ⟨#[]⟩, .string ⟨#[]⟩, .int .i64 0, .slice none 0 0, .int .i64 0, .string ⟨#[]⟩, .string ⟨#[]⟩, .int .i64 0, .slice none 0 0]
  | 1 => #[.int .i64 1, .string ⟨#[]⟩, .string tA, .int .i64 0, .slice none 0 0, .int .i64 0, .string ⟨#[]⟩, .string ⟨#[]⟩, .int .i64 0, .slice none 0 0]
  | _ => #[.int .i64 1, .string ⟨#[]⟩, .string tA, .int .i64 0, .slice none 0 0, .int .i64 1, .string ⟨#[]⟩, .string tB, .int .i64 0, .slice none 0 0]
theorem canon_vars : [funT tB tA].foldl (varsT 2) [] = [tB, tA] := by decide +kernel
theorem canon_sub : sub (byOf (fg [tB, tA] 2) [.mk 1 ⟨#[]⟩ tA 0 [], .mk 1 ⟨#[]⟩ tB 0 []]) 2 (funT tB tA) = funT tA tB := by rfl
theorem info24z : (Tryd.prog.info? 24).map (fun i => (i.zero, i.size, i.bytes)) = some (some zT, 5, 72) := by kernel_rfl
theorem make2 (W : World) : (Instr.makeSlice 22 (.int .i64 2) (.int .i64 2)).run Tryd.prog W = .ok (.slice (some ⟨W.heap.size, 0, none⟩) 2 2) (W.alloc (.cells (byC 0) 24)) := by
  obtain ⟨i0, hi, hz0, hz1, hz2⟩ := info_parts info24z
  have h := run_makeSlice (P := Tryd.prog) (w := W) 22 24 i0 zT Tryd.underlying22 hi hz0 .i64 .i64 2 2 (by decide) (by decide) (by rw [hz1]; decide) (by rw [hz2]; decide) (by decide)
  have e : madeCells zT.cells (Int.toNat 2 * i0.size) = byC 0 := by rw [hz1]; kernel_rfl
  rw [e] at h
  exact h
theorem canon_own {w : World} {B : Nat} {v : Value} (h : w.ownsRow B 9 1 v ([funT tB tA].foldl (varsT 2) []).length (([funT tB tA].foldl (varsT 2) []).map .string)) : w.ownsRow B 9 1 v 2 [.string tB, .string tA] := by
  rw [canon_vars] at h
  exact h
theorem canon_x {X : Nat → Prop} {w : World} {d : Nat} {v : Value} (h : IsX X w d v (sub (byOf (fg [tB, tA] ([tB, tA] : List ByteArray).length) [.mk 1 ⟨#[]⟩ tA 0 [], .mk 1 ⟨#[]⟩ tB 0 []]) 2 (funT tB tA))) : ∃ q c, v = tv 3 ⟨#[]⟩ ⟨#[]⟩ 0 (.slice q 2 c) ∧ IsX X w d (tv 3 ⟨#[]⟩ ⟨#[]⟩ 0 (.slice q 2 c)) (funT tA tB) := by
  have h1 : IsX X w d v (funT tA tB) := h
  cases d with
  | zero => cases h1
  | succ d =>
    have h2 := h1
    obtain ⟨q, c, e, _⟩ := h2
    subst e
    exact ⟨q, c, rfl, h1⟩
def CanonP (w : World) (e : Ending) (w' : World) : Prop := ∃ q c d, e = .returned (tv 3 ⟨#[]⟩ ⟨#[]⟩ 0 (.slice q 2 c)) ∧ IsT w' d (tv 3 ⟨#[]⟩ ⟨#[]⟩ 0 (.slice q 2 c)) (funT tA tB) ∧ Below w.heap.size w w'
set_option maxRecDepth 100000 in
set_option maxHeartbeats 4000000 in
theorem canon_any (q : Option Addr) (c : Nat) (w : World) (h : IsT w 2 (tv 3 ⟨#[]⟩ ⟨#[]⟩ 0 (.slice q 2 c)) (funT tB tA)) : Calls Tryd.prog 11 #[tv 3 ⟨#[]⟩ ⟨#[]⟩ 0 (.slice q 2 c)] w (CanonP w) := by
  have HT := Lib.hid h
  clear h
  have k0 := hb_alloc (hb_alloc (hb_new w (.cells #[.int .i64 3, .string ⟨#[]⟩, .string ⟨#[]⟩, .int .i64 0, .slice q 2 c] 24)) (.cells #[.int .i64 0, .string ⟨#[]⟩, .string ⟨#[]⟩, .int .i64 0, .slice none 0 0] 24)) (.cells #[.int .i64 3, .string ⟨#[]⟩, .string ⟨#[]⟩, .int .i64 0, .slice q 2 c] 24)
  have k1 := hb_alloc (hb_new (w.alloc (.cells #[.int .i64 3, .string ⟨#[]⟩, .string ⟨#[]⟩, .int .i64 0, .slice q 2 c] 24)) (.cells #[.int .i64 0, .string ⟨#[]⟩, .string ⟨#[]⟩, .int .i64 0, .slice none 0 0] 24)) (.cells #[.int .i64 3, .string ⟨#[]⟩, .string ⟨#[]⟩, .int .i64 0, .slice q 2 c] 24)
  have k2 := hb_new ((w.alloc (.cells #[.int .i64 3, .string ⟨#[]⟩, .string ⟨#[]⟩, .int .i64 0, .slice q 2 c] 24)).alloc (.cells #[.int .i64 0, .string ⟨#[]⟩, .string ⟨#[]⟩, .int .i64 0, .slice none 0 0] 24)) (.cells #[.int .i64 3, .string ⟨#[]⟩, .string ⟨#[]⟩, .int .i64 0, .slice q 2 c] 24)
  simp only [World.size_alloc] at k1 k2
  have hB0 := (below2 w (.cells #[.int .i64 3, .string ⟨#[]⟩, .string ⟨#[]⟩, .int .i64 0, .slice q 2 c] 24) (.cells #[.int .i64 0, .string ⟨#[]⟩, .string ⟨#[]⟩, .int .i64 0, .slice none 0 0] 24)).trans ((below_alloc ((w.alloc (.cells #[.int .i64 3, .string ⟨#[]⟩, .string ⟨#[]⟩, .int .i64 0, .slice q 2 c] 24)).alloc (.cells #[.int .i64 0, .string ⟨#[]⟩, .string ⟨#[]⟩, .int .i64 0, .slice none 0 0] 24)) (.cells #[.int .i64 3, .string ⟨#[]⟩, .string ⟨#[]⟩, .int .i64 0, .slice q 2 c] 24)).mono (by simp; omega))
  have K0 := Lib.hid k0
  have K1 := Lib.hid k1
  have K2 := Lib.hid k2
  have HB0 := Lib.hid hB0
  have HVA := Lib.hid (vars_any 2 [funT tB tA] _ _ (KidsT.one k2 (HT.out.below hB0)) (by decide +kernel))
  clear k0 k1 k2 hB0
  go_enter Tryd.func11, Tryd.ntmps11
  go_upto_region 2 with (go_at_call 16; ((with_reducible refine HVA.out.mono ?_); rintro e w3 ⟨v3, rfl, ho3, hb3⟩; have ho4 := canon_own ho3; obtain ⟨a3, cc3, rfl, _⟩ := own_sl0 ho4; have HO3 := Lib.hid (SRow.own (l := [tB, tA]) rfl ho4); have HB3 := Lib.hid hb3; have u0 := hb_below K0.out hb3 (by simp <;> omega); have u1 := hb_below K1.out hb3 (by simp <;> omega); have U0 := Lib.hid u0; have U1 := Lib.hid u1; clear ho3 ho4 hb3 u0 u1))
  have hB3 : Below w.heap.size w w3 := HB0.out.trans (HB3.out.mono HB0.out.size)
  have HB3w := Lib.hid hB3
  have hz3 := hB3.size
  clear hB3
  have hmk := make2
  go_upto_region 3 with fail
  have hn4 := hb_new w3 (.cells (byC 0) 24)
  have hB4 := below_alloc w3 (.cells (byC 0) 24)
  generalize hW4 : w3.alloc (.cells (byC 0) 24) = w4 at *
  have hz4 : w4.heap.size = w3.heap.size + 1 := by rw [← hW4]; simp
  clear hW4 hmk
  have HB4 := Lib.hid hB4
  have HN4 := Lib.hid hn4
  clear hB4 hn4
  go_wp2
  go_loopw [14] (fun i wr => ∃ j : Nat, j ≤ 2 ∧ i = .int .i64 j ∧ wr.heap[w3.heap.size]? = some (.cells (byC j) 24 (0, 0)) ∧ Below w3.heap.size w3 wr) (fun i _ => 2 - (intOf i).toNat)
  case atStart => exact ⟨0, by omega, rfl, HN4.out, HB4.out⟩
  case round =>
    obtain ⟨j, hj, rfl, hbj, hBj⟩ := hrel
    have HBJ := Lib.hid hBj
    have hzj := hBj.size
    have hlb := hb_lt hbj
    have hf := hb_free hbj
    have f0 := hf 0
    have f1 := hf 1
    have f2 := hf 2
    have f3 := hf 3
    have f4 := hf 4
    have f5 := hf 5
    have f6 := hf 6
    have f7 := hf 7
    have f8 := hf 8
    have f9 := hf 9
    have hj2 : j = 0 ∨ j = 1 ∨ j = 2 := by omega
    rcases hj2 with rfl | rfl | rfl
    · have e0 := hb_at hbj 0 rfl
      have e1 := hb_at hbj 1 rfl
      have e2 := hb_at hbj 2 rfl
      have e3 := hb_at hbj 3 rfl
      have e4 := hb_at hbj 4 rfl
      have h0 := hb_set_same hbj 0 (.int .i64 1)
      have h1 := hb_set_same h0 1 (.string ⟨#[]⟩)
      have h2 := hb_set_same h1 2 (.string tA)
      have h3 := hb_set_same h2 3 (.int .i64 0)
      have h4 := hb_set_same h3 4 (.slice none 0 0)
      have H4 := Lib.hid h4
      clear hbj hf h0 h1 h2 h3 h4 hBj
      go_wp2_with (go_at_call 13; (with_reducible refine (name0 _).mono ?_); rintro e w5 ⟨rfl, rfl⟩)
      go_roundw
      case rel => exact ⟨1, by omega, by go_num, H4.out, (((((HBJ.out.setCell (by simp) _).setCell (by simp) _).setCell (by simp) _).setCell (by simp) _).setCell (by simp) _)⟩
      case measure => simp [intOf]
    · have e0 := hb_at hbj 5 rfl
      have e1 := hb_at hbj 6 rfl
      have e2 := hb_at hbj 7 rfl
      have e3 := hb_at hbj 8 rfl
      have e4 := hb_at hbj 9 rfl
      have h0 := hb_set_same hbj 5 (.int .i64 1)
      have h1 := hb_set_same h0 6 (.string ⟨#[]⟩)
      have h2 := hb_set_same h1 7 (.string tB)
      have h3 := hb_set_same h2 8 (.int .i64 0)
      have h4 := hb_set_same h3 9 (.slice none 0 0)
      have H4 := Lib.hid h4
      clear hbj hf h0 h1 h2 h3 h4 hBj
      go_wp2_with (go_at_call 13; (with_reducible refine (name1 _).mono ?_); rintro e w5 ⟨rfl, rfl⟩)
      go_roundw
      case rel => exact ⟨2, by omega, by go_num, H4.out, (((((HBJ.out.setCell (by simp) _).setCell (by simp) _).setCell (by simp) _).setCell (by simp) _).setCell (by simp) _)⟩
      case measure => simp [intOf]
    · have hw1 : Below w.heap.size w wr := HB3w.out.trans (hBj.mono hz3)
      have HW1 := Lib.hid hw1
      have hT := HT.out.below hw1
      have t0 := hb_below U0.out hBj (hb_lt U0.out)
      have t1 := hb_below U1.out hBj (hb_lt U1.out)
      have T1 := Lib.hid t1
      have x0 := hb_at t0 0 rfl
      have x1 := hb_at t0 1 rfl
      have x2 := hb_at t0 2 rfl
      have x3 := hb_at t0 3 rfl
      have x4 := hb_at t0 4 rfl
      have hz : ∀ s : ByteArray, s = ⟨#[]⟩ ∨ s = tA ∨ s = tB → s.size ≤ maxLen := by
        rintro s (rfl | rfl | rfl) <;> decide
      have hleaf : ∀ s : ByteArray, s.size ≤ maxLen → IsT wr 1 (tv 1 ⟨#[]⟩ s 0 (.slice none 0 0)) (.mk 1 ⟨#[]⟩ s 0 []) := fun s hs => IsT.shut (Nat.zero_le _) hs ⟨none, 0, rfl, Nat.zero_le _, fun i x hx => by simp at hx⟩
      have hK : KidsT wr 1 (.slice (some ⟨w3.heap.size, 0, none⟩) 2 2) [.mk 1 ⟨#[]⟩ tA 0 [], .mk 1 ⟨#[]⟩ tB 0 []] := KidsT.two hbj (hleaf tA (hz _ (by simp))) (hleaf tB (hz _ (by simp)))
      have HSU := Lib.hid (subst_any 2 1 (funT tB tA) _ [tB, tA] _ [.mk 1 ⟨#[]⟩ tA 0 [], .mk 1 ⟨#[]⟩ tB 0 []] _ wr hT (HO3.out.below hBj) (by decide) (by intro s hs; exact hz s (by simp at hs; rcases hs with rfl | rfl <;> simp)) hK (by simp [Sm, funT]) (by intro x hx; simp at hx; rcases hx with rfl | rfl <;> simp [Sm]))
      clear hbj hf hBj hw1 hT t0 t1 hz hleaf hK f0 f1 f2 f3 f4 f5 f6 f7 f8 f9
      go_wp2_with (go_at_call 17; (with_reducible refine HSU.out.mono ?_); rintro e w5 ⟨v5, rfl, hx5, hb5⟩; obtain ⟨q5, c5, rfl, hx6⟩ := canon_x hx5; have HX6 := Lib.hid hx6; have HB5 := Lib.hid hb5; have u1 := hb_below T1.out hb5 (hb_lt T1.out); have y0 := hb_at u1 0 rfl; have y1 := hb_at u1 1 rfl; have y2 := hb_at u1 2 rfl; have y3 := hb_at u1 3 rfl; have y4 := hb_at u1 4 rfl; have g0 := hb_free u1 0; have g1 := hb_free u1 1; have g2 := hb_free u1 2; have g3 := hb_free u1 3; have g4 := hb_free u1 4; have hw8 := hb_lt T1.out; clear hx5 hx6 hb5 u1)
      have hB5 : Below w.heap.size w w5 := HW1.out.trans (HB5.out.mono HW1.out.size)
      refine bodyPost_ret (v := tv 3 ⟨#[]⟩ ⟨#[]⟩ 0 (.slice q5 2 c5)) (by simp [results, Tryd.results11, go_sem, y0, y1, y2, y3, y4]) rfl ⟨_, _, 3, rfl, ?_, (((((hB5.setCell (by simp) _).setCell (by simp) _).setCell (by simp) _).setCell (by simp) _).setCell (by simp) _)⟩
      refine (HX6.out.move (Y := fun _ => True) fun b hb _ => ⟨trivial, ?_⟩).isT
      rw [Below.heap_setCell _ _ _ b (by show b ≠ w.heap.size + 1; omega), Below.heap_setCell _ _ _ b (by show b ≠ w.heap.size + 1; omega), Below.heap_setCell _ _ _ b (by show b ≠ w.heap.size + 1; omega), Below.heap_setCell _ _ _ b (by show b ≠ w.heap.size + 1; omega), Below.heap_setCell _ _ _ b (by show b ≠ w.heap.size + 1; omega)]
end Go.Proofs.YtgflmahlghcchaaDoor
