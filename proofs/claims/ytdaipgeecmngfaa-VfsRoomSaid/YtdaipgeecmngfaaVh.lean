/- Maps of one entry or none, gone through; a store that New makes; its sectors. -/
import Derived.Test.YtdaipgeecmngfaaVd
namespace Go.Proofs.Ytdaipgeecmngfaa
open Go.RowKit Go.Maps
open Go.ChangeMaps (setBlock)

theorem below1 (w : World) (a : Obj) : Below w.heap.size w (w.alloc a) := (Below.refl _ _).alloc (Nat.le_refl _) _
theorem below2 (w : World) (a b : Obj) : Below w.heap.size w ((w.alloc a).alloc b) := (below1 w a).alloc (by simp) _
theorem below3 (w : World) (a b c : Obj) : Below w.heap.size w (((w.alloc a).alloc b).alloc c) := (below2 w a b).alloc (by simp; omega) _
theorem below4 (w : World) (a b c d : Obj) : Below w.heap.size w ((((w.alloc a).alloc b).alloc c).alloc d) := (below3 w a b c).alloc (by simp; omega) _
theorem below_grown {B : Nat} {a w w' : World} {k : Nat} (h : Below B a w) (hg : w.grownBy w' (some k)) (hB : B ≤ w.heap.size) (hk : B ≤ k) : Below B a w' := h.grown hg hB (fun j hj => by cases hj; exact hk)
theorem size1 (w : World) (a : Obj) : (w.alloc a).heap.size = w.heap.size + 1 := by simp
theorem size2 (w : World) (a b : Obj) : ((w.alloc a).alloc b).heap.size = w.heap.size + 2 := by simp
theorem size3 (w : World) (a b c : Obj) : (((w.alloc a).alloc b).alloc c).heap.size = w.heap.size + 3 := by simp
theorem size4 (w : World) (a b c d : Obj) : ((((w.alloc a).alloc b).alloc c).alloc d).heap.size = w.heap.size + 4 := by simp
theorem new2 (w : World) (a b : Obj) : ((w.alloc a).alloc b).heap[w.heap.size + 1]? = some b := by rw [← size1 w a]; exact heap_alloc_new _ _
theorem new3 (w : World) (a b c : Obj) : (((w.alloc a).alloc b).alloc c).heap[w.heap.size + 1 + 1]? = some c := by rw [show w.heap.size + 1 + 1 = ((w.alloc a).alloc b).heap.size by simp]; exact heap_alloc_new _ _
theorem new4 (w : World) (a b c d : Obj) : ((((w.alloc a).alloc b).alloc c).alloc d).heap[w.heap.size + 1 + 1 + 1]? = some d := by rw [show w.heap.size + 1 + 1 + 1 = (((w.alloc a).alloc b).alloc c).heap.size by simp]; exact heap_alloc_new _ _
theorem block_same {w : World} {b : Nat} {x : Obj} (h : w.heap[b]? = some x) (y : Obj) : (setBlock w b y).heap[b]? = some y := by
  have := hb_lt h
  simp [setBlock, this]
theorem block_other {w : World} {b k : Nat} (y : Obj) (h : k ≠ b) : (setBlock w b y).heap[k]? = w.heap[k]? := by
  simp [setBlock, Array.getElem?_setIfInBounds, Ne.symm h]

section
variable {P : Program} (w : World) {ops : Array Oper} {rest : List Oper} {o : Oper} {a : Act} {Q : Exit → Act → World → Prop}
theorem wpList_range_raw (hg : o.guard = none) (m : Operand) (t : TypeId) (hop : o.op = Op.range t m) (k e : TypeId) (ht : P.underlying t = some (.map k e)) (b : Nat) (es : Array MapEntry) (clock : Nat)
    (hm : a.eval m = .map (some b)) (hb : w.heap[b]? = some (.map es clock))
    (hK : wpList P ops Q rest (a.put o.dst (.pointer (some ⟨w.heap.size, 0, none⟩))) (w.alloc (.mapIter (some b) clock #[] clock))) : wpList P ops Q (o :: rest) a w := by
  refine wpList_plain hg fun K' hK' => ?_
  have hrun := run_range_map (P := P) w t k e b es clock ht hb
  unfold Oper.wp
  simp [execOp, hop, hm, hrun, Result.andThen]
  exact hK' _ _ hK

theorem wpList_next_done (hg : o.guard = none) (it : Operand) (hop : o.op = Op.next it false) (r b since c0 clock : Nat) (seen : Array Nat) (es : Array MapEntry) (hit : a.eval it = .pointer (some ⟨r, 0, none⟩))
    (hr : w.heap[r]? = some (.mapIter (some b) since seen c0)) (hb : w.heap[b]? = some (.map es clock)) (h1 : ∀ x ∈ es.toList, x.born < since) (h2 : since ≤ c0) (h3 : (leftOf es seen).size = 0)
    (hK : wpList P ops Q rest (a.put o.dst (.tuple #[.bool false])) w) : wpList P ops Q (o :: rest) a w := by
  refine wpList_plain hg fun K' hK' => ?_
  rcases run_next_at (P := P) w o.type r b since c0 seen es clock hr hb h1 h2 with ⟨_, hrun⟩ | ⟨e, he, _⟩
  · unfold Oper.wp
    simp [execOp, hop, hit, hrun, Result.andThen]
    exact hK' _ _ hK
  · have h4 : leftOf es seen = #[] := Array.eq_empty_of_size_eq_zero h3
    rw [h4] at he
    cases he

theorem wpList_next_one (hg : o.guard = none) (it : Operand) (hop : o.op = Op.next it false) (r b since c0 clock : Nat) (e0 : MapEntry) (hit : a.eval it = .pointer (some ⟨r, 0, none⟩))
    (hr : w.heap[r]? = some (.mapIter (some b) since #[] c0)) (hb : w.heap[b]? = some (.map #[e0] clock)) (h1 : e0.born < since) (h2 : since ≤ c0)
    (hK : ∀ w', w'.heap[r]? = some (.mapIter (some b) since #[e0.born] clock) → w.grownBy w' (some r) → (Instr.entry (.pointer (some ⟨r, 0, none⟩))).run P w' = .ok (.tuple #[e0.key, e0.val]) w' →
      wpList P ops Q rest (a.put o.dst (.tuple #[.bool true, e0.key, e0.val])) w') : wpList P ops Q (o :: rest) a w := by
  refine wpList_plain hg fun K' hK' => ?_
  have hrb : r ≠ b := fun e => by rw [e, hb] at hr; cases hr
  have hl : leftOf #[e0] #[] = #[e0] := by simp [leftOf]
  rcases run_next_at (P := P) w o.type r b since c0 #[] #[e0] clock hr hb (by simpa using h1) h2 with ⟨h0, _⟩ | ⟨e, he, w1, hw1, hrun⟩
  · rw [hl] at h0
    cases h0
  · rw [hl] at he
    obtain rfl : e = e0 := by simpa using he
    have hr1 : w1.heap[r]? = some (.mapIter (some b) since #[] c0) := by rcases hw1 with rfl | rfl <;> exact hr
    have hb1 : w1.heap[b]? = some (.map #[e] clock) := by rcases hw1 with rfl | rfl <;> exact hb
    have hg1 : w.grownBy w1 none := by rcases hw1 with rfl | rfl <;> exact ⟨rfl, rfl, rfl, Nat.le_refl _, fun _ _ _ => rfl⟩
    have hr2 := block_same hr1 (.mapIter (some b) since #[e.born] clock)
    have hb2 := (block_other (.mapIter (some b) since #[e.born] clock) hrb.symm).trans hb1
    unfold Oper.wp
    simp [execOp, hop, hit, hrun, Result.andThen]
    exact hK' _ _ (hK _ hr2 ⟨hg1.os, hg1.tape, hg1.output, by simpa [setBlock] using hg1.size, fun k hk hkr => (block_other _ (fun e => hkr (by rw [e]))).trans (hg1.block k hk (by simp))⟩
      (run_entry_at _ r b since #[] #[e] clock e hr2 hb2 (by simp) (by simp)))
end

theorem put_box_a {w : World} {N : Nat} {x : Obj} (h : w.heap[N]? = some x) (o y : Obj) : (setBlock (w.alloc o).drew N y).heap[N]? = some y := block_same (w := (w.alloc o).drew) (x := x) (hb_alloc h o) y
theorem put_box_b {w : World} {N : Nat} {x : Obj} (h : w.heap[N]? = some x) (o y : Obj) : (setBlock (w.alloc o).drew N y).heap[w.heap.size]? = some o :=
  (block_other (w := (w.alloc o).drew) y (by have := hb_lt h; omega)).trans (heap_alloc_new w o)
theorem put_box_c (w : World) (N : Nat) (o y : Obj) : w.grownBy (setBlock (w.alloc o).drew N y) (some N) :=
  ⟨rfl, rfl, rfl, by have : (setBlock (w.alloc o).drew N y).heap.size = w.heap.size + 1 := by simp [setBlock]
                     omega, fun k hk hkr => (block_other (w := (w.alloc o).drew) y (fun e => hkr (by rw [e]))).trans (heap_alloc_old w o hk)⟩

structure New4 (n : Nat) (w w' : World) : Prop where
  store : w'.heap[w.heap.size + 2]? = some (.cells (fsCells n 0 w.heap.size (w.heap.size + 1) (.slice none 0 0)) 82 (0, 0))
  names : w'.heap[w.heap.size]? = some (.map #[] 0)
  lasting : w'.heap[w.heap.size + 1]? = some (.map #[] 0)
  size : w'.heap.size = w.heap.size + 3
  below : Below w.heap.size w w'

theorem new4_mk (n : Nat) (w : World) : New4 n w (((w.alloc (.map #[] 0)).alloc (.map #[] 0)).alloc (.cells (fsCells n 0 w.heap.size (w.heap.size + 1) (.slice none 0 0)) 82)) := by
  have e1 : (w.alloc (.map #[] 0)).heap.size = w.heap.size + 1 := by simp
  have e2 : ((w.alloc (.map #[] 0)).alloc (.map #[] 0)).heap.size = w.heap.size + 2 := by simp
  refine ⟨?_, hb_alloc (hb_alloc (heap_alloc_new w _) _) _, hb_alloc ?_ _, by simp, ((Below.refl _ _).alloc (Nat.le_refl _) _ |>.alloc (by simp) _).alloc (by simp; omega) _⟩
  · rw [← e2]
    exact heap_alloc_new _ _
  · rw [← e1]
    exact heap_alloc_new _ _

theorem empty_ok (n : Nat) (w : World) : Calls Try.prog 32 #[.int .i64 n] w fun e w' => e = .returned (.pointer (some ⟨w.heap.size + 2, 0, none⟩)) ∧ New4 n w w' := by
  have hmm := @run_makeMap Try.prog
  go_enter Try.func32, Try.ntmps32
  go_wp2
  go_ret
  exact ⟨rfl, new4_mk n w⟩

theorem new_ok (n : Nat) (w : World) (h1 : 1 ≤ n) (h2 : n ≤ 4096) : Calls Try.prog 9 #[.int .i64 n] w fun e w' => e = .returned (.tuple #[.pointer (some ⟨w.heap.size + 2, 0, none⟩), .int .i64 0]) ∧ New4 n w w' := by
  go_enter Try.func9, Try.ntmps9
  go_wp2_with (first | (go_at_call 32; refine (empty_ok n _).mono ?_; rintro e w' ⟨rfl, hN⟩) | go_in)
  go_ret2
  exact ⟨rfl, hN⟩

theorem used_ok (F : Nat) (cap used N L : Nat) (tv : Value) (w : World) (hF : w.heap[F]? = some (.cells (fsCells cap used N L tv) 82 (0, 0))) (hc : 0 < cap) :
    Calls Try.prog 24 #[.pointer (some ⟨F, 0, none⟩)] w fun e w' => e = .returned (.int .i64 used) ∧ w = w' := by
  have c0 : w.cell? ⟨F, 0, none⟩ = some (.int .i64 cap) := hb_at hF 0 rfl
  have c1 : w.cell? ⟨F, 1, none⟩ = some (.int .i64 used) := hb_at hF 1 rfl
  clear hF
  go_enter Try.func24, Try.ntmps24
  go_wp2_with (first | (go_at_call 46; refine (made_yes F cap hc _ (by assumption)).mono ?_; rintro e w' ⟨rfl, rfl⟩) | go_in)
  go_ret
  exact ⟨rfl, rfl⟩
end Go.Proofs.Ytdaipgeecmngfaa
