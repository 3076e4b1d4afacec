/- A halving, the table of sixteen, a sum. -/
import Derived.Test.YtnailnlpjakcbaaC0
import Derived.Test.YtnailnlpjakcbaaM1
namespace Go.Proofs.Ytnailnlpjakcbaa
open Go.RowKit

theorem half_odd (x : Nat) (hx : x < 4294967296) (h : x % 2 = 1) : bits .xor .u32 ((x : Int) / 2) 2197175160 = (Cx.half x : Nat) := by
  have e : ((x : Int) / 2) = ((x / 2 : Nat) : Int) := by omega
  rw [e]
  have := u32_xor_nat (x / 2) 2197175160 (by omega) (by omega)
  rw [Cx.half, if_pos h]
  exact this
theorem half_even (x : Nat) (h : ¬ x % 2 = 1) : ((x : Int) / 2) = (Cx.half x : Nat) := by
  rw [Cx.half, if_neg h]; omega
theorem and_one (x : Nat) (hx : x < 4294967296) : bits .and .u32 (x : Int) 1 = ((x % 2 : Nat) : Int) := by
  have := u32_and_nat x 1 hx (by omega)
  rw [nat_mask1] at this
  exact this
theorem halve_any (x : Nat) (hx : x < 4294967296) (w : World) : Calls Try.prog 48 #[.int .u32 x] w fun e w' => e = .returned (.int .u32 (Cx.half x : Nat)) ∧ w = w' := by
  have e1 := and_one x hx
  by_cases h : x % 2 = 1
  · have hb : (bits BinOp.and IntKind.u32 (↑x) 1 == 1) = true := by rw [e1, h]; rfl
    have H := Lib.hid (half_odd x hx h)
    clear e1
    go_enter Try.func48, Try.ntmps48
    go_wp2
    go_ret
    exact ⟨ret_int H.out, rfl⟩
  · have hb : (bits BinOp.and IntKind.u32 (↑x) 1 == 1) = false := by rw [e1, show x % 2 = 0 by omega]; rfl
    have H := Lib.hid (half_even x h)
    clear e1
    go_enter Try.func48, Try.ntmps48
    go_wp2
    go_ret
    exact ⟨ret_int H.out, rfl⟩

/-- The table, as far as it is filled. -/
def tab (k : Nat) : Array Value := ((List.range 16).map fun i => Value.int .u32 (if i < k then (Cx.halves 4 i : Nat) else (0 : Nat) : Nat)).toArray
theorem tab_size (k : Nat) : (tab k).size = 16 := by simp [tab]
theorem tab_at (k i : Nat) (hi : i < 16) : (tab k)[i]? = some (.int .u32 (if i < k then (Cx.halves 4 i : Nat) else (0 : Nat) : Nat)) := by simp [tab, hi]
theorem tab_set (k : Nat) (hk : k < 16) : (tab k).setIfInBounds k (.int .u32 (Cx.halves 4 k : Nat)) = tab (k + 1) := by
  apply Array.ext_getElem?
  intro i
  rw [Array.getElem?_setIfInBounds]
  by_cases h : k = i
  · subst h
    rw [if_pos rfl, if_pos (by rw [tab_size]; exact hk), tab_at _ _ hk, if_pos (by omega)]
  · rw [if_neg h]
    by_cases hi : i < 16
    · rw [tab_at _ _ hi, tab_at _ _ hi]
      by_cases h2 : i < k
      · rw [if_pos h2, if_pos (by omega)]
      · rw [if_neg h2, if_neg (by omega)]
    · rw [Array.getElem?_eq_none (by rw [tab_size]; omega), Array.getElem?_eq_none (by rw [tab_size]; omega)]

def InTab (B k : Nat) (w wr : World) : Prop := Below B w wr ∧ wr.heap.size = B + 2 ∧ wr.heap[B]? = some (.cells (tab 0) 69 (0, 0)) ∧ wr.heap[B + 1]? = some (.cells (tab k) 69 (0, 0))

theorem size69 (k : Nat) : (Try.prog.info? 69).map (·.size) = some (tab k).size := by rw [tab_size]; kernel_rfl
theorem tab_one (k : Nat) : (tab k).all (·.oneCell') = true := by simp [tab, Value.oneCell']

set_option maxHeartbeats 1000000 in
theorem table_any (w : World) : Calls Try.prog 43 #[] w fun e w' => e = .returned (.agg (tab 16)) ∧ Below w.heap.size w w' := by
  go_enter Try.func43, Try.ntmps43
  go_wp2
  go_loopw [4] (fun v wr => ∃ k : Nat, k ≤ 16 ∧ v = .int .i64 k ∧ InTab w.heap.size k w wr) (fun v _ => 16 - (intOf v).toNat)
  case atStart =>
    refine ⟨0, by omega, rfl, ((Below.refl _ _).alloc (Nat.le_refl _) _).alloc (by simp) _, by simp, ?_, ?_⟩
    · exact hb_alloc (hb_new w _) _
    · have h := hb_new (w.alloc (.cells (tab 0) 69)) (.cells (tab 0) 69)
      rw [World.size_alloc] at h
      exact h
  case round =>
    obtain ⟨k, hk, rfl, hbel, hsz, h0, h1⟩ := hrel
    by_cases hlt : k < 16
    · have HS := Lib.hid hsz
      have H1 := Lib.hid h1
      have H0 := Lib.hid h0
      clear h1 h0 hsz
      have hd : decide ((k : Int) < 16) = true := by simp; omega
      go_wp2
      go_loop [3, 9] (fun x j => ∃ i : Nat, i ≤ 4 ∧ j = .int .i64 i ∧ x = .int .u32 (Cx.halves i k : Nat)) (fun _ j => 4 - (intOf j).toNat)
      case atStart => exact ⟨0, by omega, rfl, rfl⟩
      case round =>
        obtain ⟨i, hi, rfl, rfl⟩ := hrel
        have hh := Cx.halves_lt i k (by omega)
        by_cases hlt2 : i < 4
        · go_wp2_with (go_at_call 48; refine (halve_any _ hh _).mono ?_; rintro e w' ⟨rfl, rfl⟩)
          go_round
          case rel => exact ⟨i + 1, by omega, by go_num, by rw [Cx.halves_add i 1]; rfl⟩
          case measure => simp [intOf]; omega
        · obtain rfl : i = 4 := by omega
          have hc := hb_at H1.out k (tab_at k k hlt)
          have hf := hb_free H1.out k
          go_wp2
          go_roundw
          case rel =>
            refine ⟨k + 1, by omega, by go_num, hbel.setCell (by simp) _, by rw [← HS.out]; simp [World.setCell], hb_set_other H0.out _ (by simp), ?_⟩
            rw [← tab_set k hlt]
            exact hb_set_same H1.out k _
          case measure => simp [intOf]; omega
    · obtain rfl : k = 16 := by omega
      go_wp2_with (first
        | (refine wpList_load_row rfl 69 (.tmp 1) rfl (w.heap.size + 1) rfl 69 (tab 16) (0, 0) _ h1 Try.underlying69 rfl (size69 16) ?_)
        | (refine wpList_store_row rfl 69 (.tmp 0) (.tmp 18) rfl w.heap.size (tab 16) rfl rfl 69 (tab 0) h0 (size69 16) (by rw [tab_size, tab_size]) (tab_one 16) ?_))
      refine bodyPost_ret (v := .agg (tab 16)) (results_cell_row rfl _ _ w.heap.size 69 (tab 16) (0, 0) _ rfl ?_ Try.underlying69 rfl (size69 16)) rfl ⟨rfl, ?_⟩
      · exact setRow_heap _ _ _ _ _ _ h0
      · exact below_setRow hbel (Nat.le_refl _) _
end Go.Proofs.Ytnailnlpjakcbaa
