/- The texts Vd, Vh, Vi, one behind the other. -/
import Derived.Test.YtmfphnhdahaooaaM03
import Derived.Deep.RegionLaw
import Derived.Deep.DeepCutAuto
import Derived.Lib.Hide
set_option linter.unusedSimpArgs false
set_option linter.unusedVariables false
/- A name comes to be: the turn is made on the directory, and kept behind the turns since the last SyncDir. -/
namespace Go.Proofs.Ytmfphnhdahaooaa
open Go.RowKit Go.Maps

def fsCells (cap used : Int) (N L : Nat) (tv : Value) : Array Value := #[.int .i64 cap, .int .i64 used, .map (some N), .map (some L), tv, .int .i64 (-1), .int .i64 (-1), .bool false]
def turnCells (s tn : ByteArray) (X : Nat) : List Value := [.int .i64 0, .string s, .string tn, .pointer (some ⟨X, 0, none⟩)]

theorem info87 : (Try.prog.info? 87).map (fun i => (i.zero, i.size, i.bytes)) = some (some (.agg #[.int .i64 0, .string ⟨#[]⟩, .string ⟨#[]⟩, .pointer none]), 4, 48) := by kernel_rfl

structure Did (F N L : Nat) (cap used : Int) (tv : Value) (n : Nat) (ts : List Value) (s tn : ByteArray) (X : Nat) (es : Array MapEntry) (clock : Nat) (w w' : World) : Prop where
  own : ∃ tv', w'.heap[F]? = some (.cells (fsCells cap used N L tv') 82 (0, 0)) ∧ w'.ownsRow 0 87 4 tv' (n + 1) (ts ++ turnCells s tn X)
  map : w'.heap[N]? = some (.map (es.push ⟨.string s, .pointer (some ⟨X, 0, none⟩), clock⟩) (clock + 1))
  size : w.heap.size ≤ w'.heap.size
  rest : w'.os = w.os ∧ w'.tape = w.tape ∧ w'.output = w.output
  kept : ∀ k x, k ≠ N → k ≠ F → some k ≠ tv.ownBlock → w.heap[k]? = some x → w'.heap[k]? = some x

set_option maxHeartbeats 1000000 in
theorem do_comes (F N L X : Nat) (cap used : Int) (tv : Value) (n : Nat) (ts : List Value) (s tn : ByteArray) (es : Array MapEntry) (clock : Nat) (w : World)
    (hF : w.heap[F]? = some (.cells (fsCells cap used N L tv) 82 (0, 0))) (hN : w.heap[N]? = some (.map es clock)) (hT : w.ownsRow 0 87 4 tv n ts) (hn : n ≤ 1000000)
    (hf : ∀ w, (Instr.findKey 9 (.string s) es.toList).run Try.prog w = .ok none w) :
    Calls Try.prog 58 #[.pointer (some ⟨F, 0, none⟩), .agg #[.int .i64 0, .string s, .string tn, .pointer (some ⟨X, 0, none⟩)]] w fun e w' => e = .returned (.tuple #[]) ∧ Did F N L cap used tv n ts s tn X es clock w w' := by
  have c2 : w.cell? ⟨F, 2, none⟩ = some (.map (some N)) := by rw [hb_cell hF]; rfl
  have hFl := hb_lt hF
  have hne : F ≠ N := fun e => by subst e; rw [hF] at hN; cases hN
  go_enter Try.func58, Try.ntmps58
  go_upto_region 1 with fail
  go_cut [9] (fun _ wx => wx.heap[N]? = some (.map (es.push ⟨.string s, .pointer (some ⟨X, 0, none⟩), clock⟩) (clock + 1)) ∧ (w.alloc (.cells (turnCells s tn X).toArray 87)).grownBy wx (some N))
  case first =>
    go_region_with (go_at_call 47; refine (change_comes s tn X N es clock _ (by first | exact hb_alloc hN _) hf).mono ?_; rintro e w1 ⟨rfl, hN1, hg1⟩)
    all_goals (go_wp2_with fail; go_meet; exact ⟨hN1, grown_undrew hg1⟩)
  case rest =>
    obtain ⟨hN1, hg1⟩ := hcut
    obtain ⟨i0, hi, hz0, hz1, hz2⟩ := info_parts info87
    have hF1 := hb_grown (hb_alloc hF _) hg1 (by simpa using hne)
    have hB1 := hb_grown (heap_alloc_new w (.cells (turnCells s tn X).toArray 87)) hg1 (by have := hb_lt hN; simp; omega)
    have hT1 := (hT.alloc (.cells (turnCells s tn X).toArray 87)).kept hg1 (by
      have := own_ne hT hN (by simp)
      exact .inr (fun e => this e.symm))
    have c4 : wc.cell? ⟨F, 4, none⟩ = some tv := by rw [hb_cell hF1]; rfl
    have b0 : wc.cell? ⟨w.heap.size, 0, none⟩ = some (.int .i64 0) := by rw [hb_cell hB1]; rfl
    have b1 : wc.cell? ⟨w.heap.size, 1, none⟩ = some (.string s) := by rw [hb_cell hB1]; rfl
    have b2 : wc.cell? ⟨w.heap.size, 2, none⟩ = some (.string tn) := by rw [hb_cell hB1]; rfl
    have b3 : wc.cell? ⟨w.heap.size, 3, none⟩ = some (.pointer (some ⟨X, 0, none⟩)) := by rw [hb_cell hB1]; rfl
    have c4a : ∀ o, (wc.alloc o).cell? ⟨F, 4, none⟩ = some tv := fun o => hb_at (hb_alloc hF1 o) 4 rfl
    have hneT : some F ≠ tv.ownBlock := own_ne hT hF (by simp)
    go_wp2_with fail
    go_region_law (refine step_append_lies _ rfl (.tmp 14) (.tmp 16) 80 rfl 0 87 i0 _ 4 48 Try.underlying80 hi hz0 hz1 hz2 rfl (by decide) tv n ts (by simp [Act.eval, Act.put]) (hT1.alloc _) ⟨wc.heap.size, 0, none⟩ 1 1 (turnCells s tn X) (by simp [Act.eval, Act.put]) rfl (new_cells _ _ _ _ rfl) (by simp [turnCells, Value.oneCell']) (by decide) (by unfold maxLen; omega) (by omega) (Nat.zero_le _) _ rfl ?_; intro g cap' w2 hown2 hg2 hat2 hlt2; have hF2 := hb_grown (hb_alloc (w := wc.drew) hF1 _) hg2 hneT; have c42 : w2.cell? ⟨F, 4, none⟩ = some tv := hb_at hF2 4 rfl; have f42 := hb_free hF2 4)
    all_goals
      go_wp2_with fail
      go_end0
      exact ⟨rfl, ⟨_, hb_set_same hF2 4 _, hown2.kept (grown_set _ _ _) (.inr fun e => own_ne hown2 hF2 (by simp) e.symm)⟩,
        hb_set_other (hb_grown (hb_alloc (w := wc.drew) hN1 _) hg2 (own_ne hT hN (by simp))) _ (Ne.symm hne),
        by have e1 := hg1.size; have e2 := hg2.size; have e3 := (grown_set w2 ⟨F, 4, none⟩ (.slice (some ⟨g, 0, none⟩) (n + 1) cap')).size; simp at e1 e2; omega,
        ⟨hg2.os.trans hg1.os, hg2.tape.trans hg1.tape, hg2.output.trans hg1.output⟩,
        fun k x hkN hkF hkT h => hb_set_other (hb_grown (hb_alloc (w := wc.drew) (hb_grown (w' := wc) (hb_alloc h _) hg1 (fun e => hkN (Option.some.inj e))) _) hg2 hkT) _ hkF⟩
end Go.Proofs.Ytmfphnhdahaooaa
/- Maps of one entry or none, gone through; a store that New makes; its sectors. -/
namespace Go.Proofs.Ytmfphnhdahaooaa
open Go.RowKit Go.Maps
open Go.ChangeMaps (setBlock)

theorem below1 (w : World) (a : Obj) : Below w.heap.size w (w.alloc a) := (Below.refl _ _).alloc (Nat.le_refl _) _
theorem below2 (w : World) (a b : Obj) : Below w.heap.size w ((w.alloc a).alloc b) := (below1 w a).alloc (by simp) _
theorem below3 (w : World) (a b c : Obj) : Below w.heap.size w (((w.alloc a).alloc b).alloc c) := (below2 w a b).alloc (by simp; omega) _
theorem below4 (w : World) (a b c d : Obj) : Below w.heap.size w ((((w.alloc a).alloc b).alloc c).alloc d) := (below3 w a b c).alloc (by simp; omega) _
theorem below_grown {B : Nat} {a w w' : World} {k : Nat} (h : Below B a w) (hg : w.grownBy w' (some k)) (hB : B ≤ w.heap.size) (hk : B ≤ k) : Below B a w' := h.grown hg hB (fun j hj => by cases hj; exact hk)
theorem size1 (w : World) (a : Obj) : (w.alloc a).heap.size = w.heap.size + 1 := by simp
theorem size2 (w : World) (a b : Obj) : ((w.alloc a).alloc b).heap.size = w.heap.size + 2 := by simp
theorem size3 (w : World) (a b c : Obj) : (((w.alloc a).alloc b).alloc c).heap.size = w.heap.size + 3 := by simp
theorem size4 (w : World) (a b c d : Obj) : ((((w.alloc a).alloc b).alloc c).alloc d).heap.size = w.heap.size + 4 := by simp
theorem new2 (w : World) (a b : Obj) : ((w.alloc a).alloc b).heap[w.heap.size + 1]? = some b := by rw [← size1 w a]; exact heap_alloc_new _ _
theorem new3 (w : World) (a b c : Obj) : (((w.alloc a).alloc b).alloc c).heap[w.heap.size + 1 + 1]? = some c := by rw [show w.heap.size + 1 + 1 = ((w.alloc a).alloc b).heap.size by simp]; exact heap_alloc_new _ _
theorem new4 (w : World) (a b c d : Obj) : ((((w.alloc a).alloc b).alloc c).alloc d).heap[w.heap.size + 1 + 1 + 1]? = some d := by rw [show w.heap.size + 1 + 1 + 1 = (((w.alloc a).alloc b).alloc c).heap.size by simp]; exact heap_alloc_new _ _
theorem block_same {w : World} {b : Nat} {x : Obj} (h : w.heap[b]? = some x) (y : Obj) : (setBlock w b y).heap[b]? = some y := by
  have := hb_lt h
  simp [setBlock, this]
theorem block_other {w : World} {b k : Nat} (y : Obj) (h : k ≠ b) : (setBlock w b y).heap[k]? = w.heap[k]? := by
  simp [setBlock, Array.getElem?_setIfInBounds, Ne.symm h]

section
variable {P : Program} (w : World) {ops : Array Oper} {rest : List Oper} {o : Oper} {a : Act} {Q : Exit → Act → World → Prop}
theorem wpList_range_raw (hg : o.guard = none) (m : Operand) (t : TypeId) (hop : o.op = Op.range t m) (k e : TypeId) (ht : P.underlying t = some (.map k e)) (b : Nat) (es : Array MapEntry) (clock : Nat)
    (hm : a.eval m = .map (some b)) (hb : w.heap[b]? = some (.map es clock))
    (hK : wpList P ops Q rest (a.put o.dst (.pointer (some ⟨w.heap.size, 0, none⟩))) (w.alloc (.mapIter (some b) clock #[] clock))) : wpList P ops Q (o :: rest) a w := by
  refine wpList_plain hg fun K' hK' => ?_
  have hrun := run_range_map (P := P) w t k e b es clock ht hb
  unfold Oper.wp
  simp [execOp, hop, hm, hrun, Result.andThen]
  exact hK' _ _ hK

theorem wpList_next_done (hg : o.guard = none) (it : Operand) (hop : o.op = Op.next it false) (r b since c0 clock : Nat) (seen : Array Nat) (es : Array MapEntry) (hit : a.eval it = .pointer (some ⟨r, 0, none⟩))
    (hr : w.heap[r]? = some (.mapIter (some b) since seen c0)) (hb : w.heap[b]? = some (.map es clock)) (h1 : ∀ x ∈ es.toList, x.born < since) (h2 : since ≤ c0) (h3 : (leftOf es seen).size = 0)
    (hK : wpList P ops Q rest (a.put o.dst (.tuple #[.bool false])) w) : wpList P ops Q (o :: rest) a w := by
  refine wpList_plain hg fun K' hK' => ?_
  rcases run_next_at (P := P) w o.type r b since c0 seen es clock hr hb h1 h2 with ⟨_, hrun⟩ | ⟨e, he, _⟩
  · unfold Oper.wp
    simp [execOp, hop, hit, hrun, Result.andThen]
    exact hK' _ _ hK
  · have h4 : leftOf es seen = #[] := Array.eq_empty_of_size_eq_zero h3
    rw [h4] at he
    cases he

theorem wpList_next_one (hg : o.guard = none) (it : Operand) (hop : o.op = Op.next it false) (r b since c0 clock : Nat) (e0 : MapEntry) (hit : a.eval it = .pointer (some ⟨r, 0, none⟩))
    (hr : w.heap[r]? = some (.mapIter (some b) since #[] c0)) (hb : w.heap[b]? = some (.map #[e0] clock)) (h1 : e0.born < since) (h2 : since ≤ c0)
    (hK : ∀ w', w'.heap[r]? = some (.mapIter (some b) since #[e0.born] clock) → w.grownBy w' (some r) → (Instr.entry (.pointer (some ⟨r, 0, none⟩))).run P w' = .ok (.tuple #[e0.key, e0.val]) w' →
      wpList P ops Q rest (a.put o.dst (.tuple #[.bool true, e0.key, e0.val])) w') : wpList P ops Q (o :: rest) a w := by
  refine wpList_plain hg fun K' hK' => ?_
  have hrb : r ≠ b := fun e => by rw [e, hb] at hr; cases hr
  have hl : leftOf #[e0] #[] = #[e0] := by simp [leftOf]
  rcases run_next_at (P := P) w o.type r b since c0 #[] #[e0] clock hr hb (by simpa using h1) h2 with ⟨h0, _⟩ | ⟨e, he, w1, hw1, hrun⟩
  · rw [hl] at h0
    cases h0
  · rw [hl] at he
    obtain rfl : e = e0 := by simpa using he
    have hr1 : w1.heap[r]? = some (.mapIter (some b) since #[] c0) := by rcases hw1 with rfl | rfl <;> exact hr
    have hb1 : w1.heap[b]? = some (.map #[e] clock) := by rcases hw1 with rfl | rfl <;> exact hb
    have hg1 : w.grownBy w1 none := by rcases hw1 with rfl | rfl <;> exact ⟨rfl, rfl, rfl, Nat.le_refl _, fun _ _ _ => rfl⟩
    have hr2 := block_same hr1 (.mapIter (some b) since #[e.born] clock)
    have hb2 := (block_other (.mapIter (some b) since #[e.born] clock) hrb.symm).trans hb1
    unfold Oper.wp
    simp [execOp, hop, hit, hrun, Result.andThen]
    exact hK' _ _ (hK _ hr2 ⟨hg1.os, hg1.tape, hg1.output, by simpa [setBlock] using hg1.size, fun k hk hkr => (block_other _ (fun e => hkr (by rw [e]))).trans (hg1.block k hk (by simp))⟩
      (run_entry_at _ r b since #[] #[e] clock e hr2 hb2 (by simp) (by simp)))
end

theorem put_box_a {w : World} {N : Nat} {x : Obj} (h : w.heap[N]? = some x) (o y : Obj) : (setBlock (w.alloc o).drew N y).heap[N]? = some y := block_same (w := (w.alloc o).drew) (x := x) (hb_alloc h o) y
theorem put_box_b {w : World} {N : Nat} {x : Obj} (h : w.heap[N]? = some x) (o y : Obj) : (setBlock (w.alloc o).drew N y).heap[w.heap.size]? = some o :=
  (block_other (w := (w.alloc o).drew) y (by have := hb_lt h; omega)).trans (heap_alloc_new w o)
theorem put_box_c (w : World) (N : Nat) (o y : Obj) : w.grownBy (setBlock (w.alloc o).drew N y) (some N) :=
  ⟨rfl, rfl, rfl, by have : (setBlock (w.alloc o).drew N y).heap.size = w.heap.size + 1 := by simp [setBlock]
                     omega, fun k hk hkr => (block_other (w := (w.alloc o).drew) y (fun e => hkr (by rw [e]))).trans (heap_alloc_old w o hk)⟩

structure New4 (n : Nat) (w w' : World) : Prop where
  store : w'.heap[w.heap.size + 2]? = some (.cells (fsCells n 0 w.heap.size (w.heap.size + 1) (.slice none 0 0)) 82 (0, 0))
  names : w'.heap[w.heap.size]? = some (.map #[] 0)
  lasting : w'.heap[w.heap.size + 1]? = some (.map #[] 0)
  size : w'.heap.size = w.heap.size + 3
  below : Below w.heap.size w w'

theorem new4_mk (n : Nat) (w : World) : New4 n w (((w.alloc (.map #[] 0)).alloc (.map #[] 0)).alloc (.cells (fsCells n 0 w.heap.size (w.heap.size + 1) (.slice none 0 0)) 82)) := by
  have e1 : (w.alloc (.map #[] 0)).heap.size = w.heap.size + 1 := by simp
  have e2 : ((w.alloc (.map #[] 0)).alloc (.map #[] 0)).heap.size = w.heap.size + 2 := by simp
  refine ⟨?_, hb_alloc (hb_alloc (heap_alloc_new w _) _) _, hb_alloc ?_ _, by simp, ((Below.refl _ _).alloc (Nat.le_refl _) _ |>.alloc (by simp) _).alloc (by simp; omega) _⟩
  · rw [← e2]
    exact heap_alloc_new _ _
  · rw [← e1]
    exact heap_alloc_new _ _

theorem empty_ok (n : Nat) (w : World) : Calls Try.prog 32 #[.int .i64 n] w fun e w' => e = .returned (.pointer (some ⟨w.heap.size + 2, 0, none⟩)) ∧ New4 n w w' := by
  have hmm := @run_makeMap Try.prog
  go_enter Try.func32, Try.ntmps32
  go_wp2
  go_ret
  exact ⟨rfl, new4_mk n w⟩

theorem new_ok (n : Nat) (w : World) (h1 : 1 ≤ n) (h2 : n ≤ 4096) : Calls Try.prog 9 #[.int .i64 n] w fun e w' => e = .returned (.tuple #[.pointer (some ⟨w.heap.size + 2, 0, none⟩), .int .i64 0]) ∧ New4 n w w' := by
  go_enter Try.func9, Try.ntmps9
  go_wp2_with (first | (go_at_call 32; refine (empty_ok n _).mono ?_; rintro e w' ⟨rfl, hN⟩) | go_in)
  go_ret2
  exact ⟨rfl, hN⟩

theorem used_ok (F : Nat) (cap used N L : Nat) (tv : Value) (w : World) (hF : w.heap[F]? = some (.cells (fsCells cap used N L tv) 82 (0, 0))) (hc : 0 < cap) :
    Calls Try.prog 24 #[.pointer (some ⟨F, 0, none⟩)] w fun e w' => e = .returned (.int .i64 used) ∧ w = w' := by
  have c0 : w.cell? ⟨F, 0, none⟩ = some (.int .i64 cap) := hb_at hF 0 rfl
  have c1 : w.cell? ⟨F, 1, none⟩ = some (.int .i64 used) := hb_at hF 1 rfl
  clear hF
  go_enter Try.func24, Try.ntmps24
  go_wp2_with (first | (go_at_call 46; refine (made_yes F cap hc _ (by assumption)).mono ?_; rintro e w' ⟨rfl, rfl⟩) | go_in)
  go_ret
  exact ⟨rfl, rfl⟩
end Go.Proofs.Ytmfphnhdahaooaa
/- What a crash is told: the files that survive, by their names, and the sectors of these that do. -/
namespace Go.Proofs.Ytmfphnhdahaooaa
open Go.RowKit Go.Maps

structure NewMap (M : Nat) (es : Array MapEntry) (clock : Nat) (w w' : World) : Prop where
  map : w'.heap[M]? = some (.map es clock)
  new : w.heap.size ≤ M
  below : Below w.heap.size w w'

theorem firsts_nil (w : World) : Calls Try.prog 49 #[.slice none 0 0] w fun e w' => e = .returned (.map (some w.heap.size)) ∧ NewMap w.heap.size #[] 0 w w' := by
  have hmm := @run_makeMap Try.prog
  go_enter Try.func49, Try.ntmps49
  go_wp2
  refine wp_loop_rounds 1 ?_
  rw [rounds_succ]
  go_wp2
  go_ret
  exact ⟨rfl, heap_alloc_new _ _, Nat.le_refl _, (Below.refl _ _).alloc (Nat.le_refl _) _⟩

def survCells (s : ByteArray) (sv : Value) : Array Value := #[.string s, sv, .bool true]
theorem zero58 (w : World) : (zeroValue 58).run Try.prog w = .ok (.agg #[.string ⟨#[]⟩, .slice none 0 0, .bool false]) w := by kernel_rfl

set_option maxRecDepth 100000 in
set_option maxHeartbeats 1000000 in
theorem firsts_one (Z c Y d : Nat) (s : ByteArray) (w : World) (hZ : w.heap[Z]? = some (.cells (survCells s (.slice (some ⟨Y, 0, none⟩) 1 d)) 58 (0, 0))) :
    Calls Try.prog 49 #[.slice (some ⟨Z, 0, none⟩) 1 c] w fun e w' => e = .returned (.map (some w.heap.size)) ∧ NewMap w.heap.size #[⟨.string s, .agg #[.string s, .slice (some ⟨Y, 0, none⟩) 1 d, .bool true], 0⟩] 1 w w' := by
  have hmm := @run_makeMap Try.prog
  have z0 : ∀ o, (w.alloc o).cell? ⟨Z, 0, none⟩ = some (.string s) := fun o => hb_at (hb_alloc hZ o) 0 rfl
  have z1 : ∀ o, (w.alloc o).cell? ⟨Z, 1, none⟩ = some (.slice (some ⟨Y, 0, none⟩) 1 d) := fun o => hb_at (hb_alloc hZ o) 1 rfl
  have z2 : ∀ o, (w.alloc o).cell? ⟨Z, 2, none⟩ = some (.bool true) := fun o => hb_at (hb_alloc hZ o) 2 rfl
  have HZ := Lib.hid hZ
  clear hZ
  go_enter Try.func49, Try.ntmps49
  go_wp2
  refine wp_loop_rounds 2 ?_
  rw [rounds_succ]
  go_wp2_with (first
    | (at_lookup; refine wpList_look_raw _ rfl _ _ 91 true rfl 9 58 Try.underlying91 w.heap.size #[] 0 rfl (hb_alloc (heap_alloc_new w _) _) _ rfl (ck9 _ _ _) none (find9_none _ _) _ (zero58 _) (.tuple #[.agg #[.string ⟨#[]⟩, .slice none 0 0, .bool false], .bool false]) rfl ?_)
    | (at_mapUpdate; refine wpList_put_new _ rfl _ _ _ 91 rfl 9 58 Try.underlying91 w.heap.size #[] 0 rfl (hb_alloc (hb_alloc (heap_alloc_new w _) _) _) _ _ rfl rfl (ck9 _ _ _) (find9_none _ _) ?_; intro w1 hN1 hg1 hs1)
    | go_in)
  rw [rounds_succ]
  go_wp2
  go_ret
  exact ⟨rfl, hN1, Nat.le_refl _, below_grown (below3 _ _ _ _) hg1 (by rw [size3]; omega) (Nat.le_refl _)⟩

theorem kept_empty (M : Nat) (clock : Nat) (w : World) (hM : w.heap[M]? = some (.map #[] clock)) :
    Calls Try.prog 50 #[.map (some M)] w fun e w' => e = .returned (.map (some w.heap.size)) ∧ NewMap w.heap.size #[] 0 w w' := by
  have hmm := @run_makeMap Try.prog
  have hMl := hb_lt hM
  have HM := Lib.hid hM
  clear hM
  go_enter Try.func50, Try.ntmps50
  go_wp2_with (first
    | (at_range; refine wpList_range_raw _ rfl _ 91 rfl 9 58 Try.underlying91 M #[] clock rfl (hb_alloc HM.out _) ?_; go_frame)
    | go_in)
  refine wp_loop_rounds 1 ?_
  rw [rounds_succ]
  go_wp2_with (first
    | (at_next; refine wpList_next_done _ rfl _ rfl _ M clock clock clock #[] #[] rfl (heap_alloc_new _ _) (hb_alloc (hb_alloc HM.out _) _) (by simp) (Nat.le_refl _) (by simp [leftOf]) ?_)
    | go_in)
  go_ret
  exact ⟨rfl, hb_alloc (heap_alloc_new _ _) _, Nat.le_refl _, below2 _ _ _⟩

theorem find120_none (s : ByteArray) (n : Int) (w : World) : (Instr.findKey 120 (.agg #[.string s, .int .i64 n]) []).run Try.prog w = .ok none w := by kernel_rfl
theorem ck120 (s : ByteArray) (n : Int) (w : World) : (Instr.checkKey false 10000 120 (.agg #[.string s, .int .i64 n])).run Try.prog w = .ok () w := by kernel_rfl

set_option maxRecDepth 100000 in
set_option maxHeartbeats 1000000 in
theorem kept_one (M Y d : Nat) (s : ByteArray) (w : World) (hM : w.heap[M]? = some (.map #[⟨.string s, .agg #[.string s, .slice (some ⟨Y, 0, none⟩) 1 d, .bool true], 0⟩] 1)) (hY : w.heap[Y]? = some (.cells #[.int .i64 0] 3 (0, 0))) :
    Calls Try.prog 50 #[.map (some M)] w fun e w' => e = .returned (.map (some w.heap.size)) ∧ NewMap w.heap.size #[⟨.agg #[.string s, .int .i64 0], .agg #[], 0⟩] 1 w w' := by
  have hmm := @run_makeMap Try.prog
  have hMl := hb_lt hM
  have hYl := hb_lt hY
  have HM := Lib.hid hM
  have HY := Lib.hid hY
  clear hM hY
  go_enter Try.func50, Try.ntmps50
  go_wp2_with (first
    | (at_range; refine wpList_range_raw _ rfl _ 91 rfl 9 58 Try.underlying91 M _ 1 rfl (hb_alloc HM.out _) ?_; go_frame)
    | go_in)
  refine wp_loop_rounds 2 ?_
  rw [rounds_succ]
  go_wp2_with (first
    | (at_next; refine wpList_next_one _ rfl _ rfl _ M 1 1 1 _ rfl (heap_alloc_new _ _) (hb_alloc (hb_alloc HM.out _) _) Nat.zero_lt_one (Nat.le_refl _) ?_; intro w1 hr1 hg1 hen1; rw [size1] at hen1; simp only [] at hen1; have y0 : ∀ o, (w1.alloc o).cell? ⟨Y, 0, none⟩ = some (.int .i64 0) := fun o => hb_at (hb_alloc (hb_grown (hb_alloc (hb_alloc HY.out _) _) hg1 (by simp; omega)) o) 0 rfl; have HN1 := Lib.hid (hb_grown (hb_alloc (heap_alloc_new w (.map #[] 0)) _) hg1 (by simp)); rw [size1] at hr1 hg1; have HR1 := Lib.hid hr1; have HG1 := Lib.hid hg1; clear hr1 hg1)
    | go_in)
  refine wp_loop_rounds 2 ?_
  rw [rounds_succ]
  go_wp2_with (first
    | (at_mapUpdate; refine wpList_put_new _ rfl _ _ _ 93 rfl 120 118 Try.underlying93 w.heap.size #[] 0 rfl (hb_alloc HN1.out _) _ _ rfl rfl (ck120 _ _ _) (find120_none _ _ _) ?_; intro w2 hN2 hg2 hs2)
    | go_in)
  have HN2 := Lib.hid (show w2.heap[w.heap.size]? = some (.map #[⟨.agg #[.string s, .int .i64 0], .agg #[], 0⟩] 1) from hN2)
  have HR2 := Lib.hid (hb_grown (hb_alloc HR1.out _) hg2 (by simp))
  have HM2 := Lib.hid (hb_grown (hb_alloc (hb_grown (hb_alloc (hb_alloc HM.out _) _) HG1.out (by simp; omega)) _) hg2 (by simp; omega))
  have hw1 := HG1.out.size
  rw [size2] at hw1
  have HB := Lib.hid (below_grown ((below_grown (below2 w _ _) HG1.out (by rw [size2]; omega) (by omega)).alloc (by omega) _) hg2 (by rw [size1]; omega) (Nat.le_refl _))
  clear hN2 hg2 hs2 hen1 y0
  rw [rounds_succ]
  go_wp2
  rw [rounds_succ]
  go_wp2_with (first
    | (at_next; refine wpList_next_done _ rfl _ rfl (w.heap.size + 1) M 1 1 1 #[0] _ rfl HR2.out HM2.out (by simp) (Nat.le_refl _) (by simp [leftOf]) ?_)
    | go_in)
  go_ret
  exact ⟨rfl, HN2.out, Nat.le_refl _, HB.out⟩
end Go.Proofs.Ytmfphnhdahaooaa
