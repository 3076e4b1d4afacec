/- What a crash leaves of the file a of one byte, whose sector 0 and whose length survive: this byte. -/
import Derived.Test.YtdaipgeecmngfaaVk
import Derived.Deep.RegionLaw
import Derived.IntWalk
namespace Go.Proofs.Ytdaipgeecmngfaa
open Go.RowKit Go.Maps

theorem ck120t (em : Bool) (s : ByteArray) (n : Int) (w : World) : (Instr.checkKey em 10000 120 (.agg #[.string s, .int .i64 n])).run Try.prog w = .ok () w := by kernel_rfl
theorem find120_a (w : World) : (Instr.findKey 120 (.agg #[.string ⟨#[97]⟩, .int .i64 0]) [⟨.agg #[.string ⟨#[97]⟩, .int .i64 0], .agg #[], 0⟩]).run Try.prog w = .ok (some (0, .agg #[])) w := by kernel_rfl
theorem sectors_one (w : World) : Calls Try.prog 53 #[.int .i64 1] w fun e w' => e = .returned (.int .i64 1) ∧ w = w' := by
  go_enter Try.func53, Try.ntmps53
  go_wp2
  go_ret
  exact ⟨rfl, rfl⟩

set_option maxRecDepth 100000 in
set_option maxHeartbeats 1000000 in
theorem left_one (X B c K : Nat) (u : Int) (cur : Array Value) (w : World)
    (hX : w.heap[X]? = some (.cells #[.slice (some ⟨B, 0, none⟩) 1 c, .slice none 0 0] 85 (0, 0))) (hB : w.heap[B]? = some (.cells cur 5 (0, 0))) (hu : cur[0]? = some (.int .u8 u)) (hc : 1 ≤ c)
    (hK : w.heap[K]? = some (.map #[⟨.agg #[.string ⟨#[97]⟩, .int .i64 0], .agg #[], 0⟩] 1)) :
    Calls Try.prog 52 #[.pointer (some ⟨X, 0, none⟩), .string ⟨#[97]⟩, .bool true, .map (some K)] w fun e w' => e = .returned (.slice (some ⟨w.heap.size, 0, none⟩) 1 1) ∧ w'.heap[w.heap.size]? = some (.cells #[.int .u8 u] 5 (0, 0)) ∧ Below w.heap.size w w' := by
  have x0 : w.cell? ⟨X, 0, none⟩ = some (.slice (some ⟨B, 0, none⟩) 1 c) := hb_at hX 0 rfl
  have x1 : w.cell? ⟨X, 1, none⟩ = some (.slice none 0 0) := hb_at hX 1 rfl
  have x2 : ∀ o, (w.alloc o).cell? ⟨X, 1, none⟩ = some (.slice none 0 0) := fun o => hb_at (hb_alloc hX o) 1 rfl
  have x3 : ∀ o p, ((w.alloc o).alloc p).cell? ⟨X, 0, none⟩ = some (.slice (some ⟨B, 0, none⟩) 1 c) := fun o p => hb_at (hb_alloc (hb_alloc hX o) p) 0 rfl
  have HK := Lib.hid hK
  have HB := Lib.hid hB
  have HU := Lib.hid hu
  clear hX hK hB hu
  have hmk : ∀ w, (Instr.makeSlice 45 (.int .i64 1) (.int .i64 1)).run Try.prog w = .ok (.slice (some ⟨w.heap.size, 0, none⟩) 1 1) (w.alloc (.cells #[.int .u8 0] 5)) := fun _ => by kernel_rfl
  go_enter Try.func52, Try.ntmps52
  go_wp2_with (first
    | (go_at_call 53; refine (sectors_one _).mono ?_; rintro e w' ⟨rfl, rfl⟩)
    | go_in)
  refine wp_loop_rounds 2 ?_
  rw [rounds_succ]
  go_wp2_with (first
    | (at_lookup; refine wpList_look_raw _ rfl _ _ 93 true rfl 120 118 Try.underlying93 K _ 1 rfl (hb_alloc HK.out _) _ rfl (ck120t _ _ _ _) _ (find120_a _) _ (zero118 _) (.tuple #[.agg #[], .bool true]) rfl ?_)
    | go_in)
  have hcell : ∀ j v, [Value.int .u8 u][j]? = some v → (((w.alloc (.cells #[.int .u8 0] 5)).alloc (.cells #[] 118)).drew).cell? ((⟨B, 0, none⟩ : Addr).add j) = some v := by
    intro j v hj
    have e := hb_cell_add (hb_alloc (hb_alloc HB.out (.cells #[.int .u8 0] 5)) (.cells #[] 118)) j
    refine Eq.trans (show _ = _ from e) ?_
    have hj0 : j = 0 := by
      rcases Nat.eq_zero_or_pos j with h | h
      · exact h
      · rw [List.getElem?_eq_none (by simp; omega)] at hj
        cases hj
    subst hj0
    rw [HU.out]
    simpa using hj
  have Hc := Lib.hid hcell
  clear hcell
  have q1 : IntKind.i64.wrap 512 = 512 := IntWalk.i64_in _ (by omega)
  go_region_law (refine step_copy_splice rfl (.tmp 63) (.tmp 66) 45 45 rfl 5 Try.underlying45 size5 (some ⟨w.heap.size, 0, none⟩) (some ⟨B, 0, none⟩) 1 1 1 c (by simp [Act.eval, Act.put]) (by simp [Act.eval, Act.put]) w.heap.size 0 [.int .u8 0] 5 (hb_alloc (heap_alloc_new w _) _) [.int .u8 u] rfl (fun _ => ⟨rfl, _, rfl, Hc.out⟩) (by simp) (by simp [Value.oneCell']) w.heap.size w (below2 w _ _).drew (Nat.le_refl _) ?_; intro w2 hO2 hB2)
  all_goals
    clear q1
    go_wp2
    rw [rounds_succ]
    go_wp2
    go_ret
    exact ⟨rfl, hO2.out, hB2⟩
end Go.Proofs.Ytdaipgeecmngfaa
