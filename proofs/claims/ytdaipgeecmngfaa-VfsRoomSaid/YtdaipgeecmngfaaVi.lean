/- What a crash is told: the files that survive, by their names, and the sectors of these that do. -/
import Derived.Test.YtdaipgeecmngfaaVh
import Derived.Lib.Hide
namespace Go.Proofs.Ytdaipgeecmngfaa
open Go.RowKit Go.Maps

structure NewMap (M : Nat) (es : Array MapEntry) (clock : Nat) (w w' : World) : Prop where
  map : w'.heap[M]? = some (.map es clock)
  new : w.heap.size ≤ M
  below : Below w.heap.size w w'

theorem firsts_nil (w : World) : Calls Try.prog 49 #[.slice none 0 0] w fun e w' => e = .returned (.map (some w.heap.size)) ∧ NewMap w.heap.size #[] 0 w w' := by
  have hmm := @run_makeMap Try.prog
  go_enter Try.func49, Try.ntmps49
  go_wp2
  refine wp_loop_rounds 1 ?_
  rw [rounds_succ]
  go_wp2
  go_ret
  exact ⟨rfl, heap_alloc_new _ _, Nat.le_refl _, (Below.refl _ _).alloc (Nat.le_refl _) _⟩

def survCells (s : ByteArray) (sv : Value) : Array Value := #[.string s, sv, .bool true]
theorem zero58 (w : World) : (zeroValue 58).run Try.prog w = .ok (.agg #[.string ⟨#[]⟩, .slice none 0 0, .bool false]) w := by kernel_rfl

set_option maxRecDepth 100000 in
set_option maxHeartbeats 1000000 in
theorem firsts_one (Z c Y d : Nat) (s : ByteArray) (w : World) (hZ : w.heap[Z]? = some (.cells (survCells s (.slice (some ⟨Y, 0, none⟩) 1 d)) 58 (0, 0))) :
    Calls Try.prog 49 #[.slice (some ⟨Z, 0, none⟩) 1 c] w fun e w' => e = .returned (.map (some w.heap.size)) ∧ NewMap w.heap.size #[⟨.string s, .agg #[.string s, .slice (some ⟨Y, 0, none⟩) 1 d, .bool true], 0⟩] 1 w w' := by
  have hmm := @run_makeMap Try.prog
  have z0 : ∀ o, (w.alloc o).cell? ⟨Z, 0, none⟩ = some (.string s) := fun o => hb_at (hb_alloc hZ o) 0 rfl
  have z1 : ∀ o, (w.alloc o).cell? ⟨Z, 1, none⟩ = some (.slice (some ⟨Y, 0, none⟩) 1 d) := fun o => hb_at (hb_alloc hZ o) 1 rfl
  have z2 : ∀ o, (w.alloc o).cell? ⟨Z, 2, none⟩ = some (.bool true) := fun o => hb_at (hb_alloc hZ o) 2 rfl
  have HZ := Lib.hid hZ
  clear hZ
  go_enter Try.func49, Try.ntmps49
  go_wp2
  refine wp_loop_rounds 2 ?_
  rw [rounds_succ]
  go_wp2_with (first
    | (at_lookup; refine wpList_look_raw _ rfl _ _ 91 true rfl 9 58 Try.underlying91 w.heap.size #[] 0 rfl (hb_alloc (heap_alloc_new w _) _) _ rfl (ck9 _ _ _) none (find9_none _ _) _ (zero58 _) (.tuple #[.agg #[.string ⟨#[]⟩, .slice none 0 0, .bool false], .bool false]) rfl ?_)
    | (at_mapUpdate; refine wpList_put_new _ rfl _ _ _ 91 rfl 9 58 Try.underlying91 w.heap.size #[] 0 rfl (hb_alloc (hb_alloc (heap_alloc_new w _) _) _) _ _ rfl rfl (ck9 _ _ _) (find9_none _ _) ?_; intro w1 hN1 hg1 hs1)
    | go_in)
  rw [rounds_succ]
  go_wp2
  go_ret
  exact ⟨rfl, hN1, Nat.le_refl _, below_grown (below3 _ _ _ _) hg1 (by rw [size3]; omega) (Nat.le_refl _)⟩

theorem kept_empty (M : Nat) (clock : Nat) (w : World) (hM : w.heap[M]? = some (.map #[] clock)) :
    Calls Try.prog 50 #[.map (some M)] w fun e w' => e = .returned (.map (some w.heap.size)) ∧ NewMap w.heap.size #[] 0 w w' := by
  have hmm := @run_makeMap Try.prog
  have hMl := hb_lt hM
  have HM := Lib.hid hM
  clear hM
  go_enter Try.func50, Try.ntmps50
  go_wp2_with (first
    | (at_range; refine wpList_range_raw _ rfl _ 91 rfl 9 58 Try.underlying91 M #[] clock rfl (hb_alloc HM.out _) ?_; go_frame)
    | go_in)
  refine wp_loop_rounds 1 ?_
  rw [rounds_succ]
  go_wp2_with (first
    | (at_next; refine wpList_next_done _ rfl _ rfl _ M clock clock clock #[] #[] rfl (heap_alloc_new _ _) (hb_alloc (hb_alloc HM.out _) _) (by simp) (Nat.le_refl _) (by simp [leftOf]) ?_)
    | go_in)
  go_ret
  exact ⟨rfl, hb_alloc (heap_alloc_new _ _) _, Nat.le_refl _, below2 _ _ _⟩

theorem find120_none (s : ByteArray) (n : Int) (w : World) : (Instr.findKey 120 (.agg #[.string s, .int .i64 n]) []).run Try.prog w = .ok none w := by kernel_rfl
theorem ck120 (s : ByteArray) (n : Int) (w : World) : (Instr.checkKey false 10000 120 (.agg #[.string s, .int .i64 n])).run Try.prog w = .ok () w := by kernel_rfl

set_option maxRecDepth 100000 in
set_option maxHeartbeats 1000000 in
theorem kept_one (M Y d : Nat) (s : ByteArray) (w : World) (hM : w.heap[M]? = some (.map #[⟨.string s, .agg #[.string s, .slice (some ⟨Y, 0, none⟩) 1 d, .bool true], 0⟩] 1)) (hY : w.heap[Y]? = some (.cells #[.int .i64 0] 3 (0, 0))) :
    Calls Try.prog 50 #[.map (some M)] w fun e w' => e = .returned (.map (some w.heap.size)) ∧ NewMap w.heap.size #[⟨.agg #[.string s, .int .i64 0], .agg #[], 0⟩] 1 w w' := by
  have hmm := @run_makeMap Try.prog
  have hMl := hb_lt hM
  have hYl := hb_lt hY
  have HM := Lib.hid hM
  have HY := Lib.hid hY
  clear hM hY
  go_enter Try.func50, Try.ntmps50
  go_wp2_with (first
    | (at_range; refine wpList_range_raw _ rfl _ 91 rfl 9 58 Try.underlying91 M _ 1 rfl (hb_alloc HM.out _) ?_; go_frame)
    | go_in)
  refine wp_loop_rounds 2 ?_
  rw [rounds_succ]
  go_wp2_with (first
    | (at_next; refine wpList_next_one _ rfl _ rfl _ M 1 1 1 _ rfl (heap_alloc_new _ _) (hb_alloc (hb_alloc HM.out _) _) Nat.zero_lt_one (Nat.le_refl _) ?_; intro w1 hr1 hg1 hen1; rw [size1] at hen1; simp only [] at hen1; have y0 : ∀ o, (w1.alloc o).cell? ⟨Y, 0, none⟩ = some (.int .i64 0) := fun o => hb_at (hb_alloc (hb_grown (hb_alloc (hb_alloc HY.out _) _) hg1 (by simp; omega)) o) 0 rfl; have HN1 := Lib.hid (hb_grown (hb_alloc (heap_alloc_new w (.map #[] 0)) _) hg1 (by simp)); rw [size1] at hr1 hg1; have HR1 := Lib.hid hr1; have HG1 := Lib.hid hg1; clear hr1 hg1)
    | go_in)
  refine wp_loop_rounds 2 ?_
  rw [rounds_succ]
  go_wp2_with (first
    | (at_mapUpdate; refine wpList_put_new _ rfl _ _ _ 93 rfl 120 118 Try.underlying93 w.heap.size #[] 0 rfl (hb_alloc HN1.out _) _ _ rfl rfl (ck120 _ _ _) (find120_none _ _ _) ?_; intro w2 hN2 hg2 hs2)
    | go_in)
  have HN2 := Lib.hid (show w2.heap[w.heap.size]? = some (.map #[⟨.agg #[.string s, .int .i64 0], .agg #[], 0⟩] 1) from hN2)
  have HR2 := Lib.hid (hb_grown (hb_alloc HR1.out _) hg2 (by simp))
  have HM2 := Lib.hid (hb_grown (hb_alloc (hb_grown (hb_alloc (hb_alloc HM.out _) _) HG1.out (by simp; omega)) _) hg2 (by simp; omega))
  have hw1 := HG1.out.size
  rw [size2] at hw1
  have HB := Lib.hid (below_grown ((below_grown (below2 w _ _) HG1.out (by rw [size2]; omega) (by omega)).alloc (by omega) _) hg2 (by rw [size1]; omega) (Nat.le_refl _))
  clear hN2 hg2 hs2 hen1 y0
  rw [rounds_succ]
  go_wp2
  rw [rounds_succ]
  go_wp2_with (first
    | (at_next; refine wpList_next_done _ rfl _ rfl (w.heap.size + 1) M 1 1 1 #[0] _ rfl HR2.out HM2.out (by simp) (Nat.le_refl _) (by simp [leftOf]) ?_)
    | go_in)
  go_ret
  exact ⟨rfl, HN2.out, Nat.le_refl _, HB.out⟩
end Go.Proofs.Ytdaipgeecmngfaa
