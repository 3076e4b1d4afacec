/- The sum of parts. -/
import Derived.Test.YtnailnlpjakcbaaC1
namespace Go.Proofs.Ytnailnlpjakcbaa
open Go.RowKit

theorem nib_and (x : Nat) (hx : x < 4294967296) : bits .and .u32 (x : Int) 15 = ((x % 16 : Nat) : Int) := by
  have := u32_and_nat x 15 hx (by omega)
  rw [nat_mask4] at this
  exact this
theorem nib_xor (x : Nat) (hx : x < 4294967296) : bits .xor .u32 ((x : Int) / 16) ((Cx.halves 4 (x % 16) : Nat) : Int) = ((Cx.halves 4 x : Nat) : Int) := by
  have e : ((x : Int) / 16) = ((x / 16 : Nat) : Int) := by omega
  have h := Cx.halves_lt 4 (x % 16) (by omega)
  rw [e, u32_xor_nat (x / 16) _ (by omega) h, Cx.nibble]
theorem byte_xor (x c : Nat) (hx : x < 4294967296) (hc : c < 256) : bits .xor .u32 (x : Int) (c : Int) = ((x ^^^ c : Nat) : Int) := u32_xor_nat x c hx (by omega)

def flat (l : List ByteArray) : List UInt8 := (l.map (·.data.toList)).flatten
def strs (l : List ByteArray) : List Value := l.map Value.string

theorem flat_nil : flat [] = [] := rfl
theorem flat_append (l m : List ByteArray) : flat (l ++ m) = flat l ++ flat m := by simp [flat]
theorem flat_snoc (l : List ByteArray) (k : Nat) (h : k < l.length) : flat (l.take (k + 1)) = flat (l.take k) ++ l[k].data.toList := by
  rw [List.take_succ_eq_append_getElem h, flat_append]
  simp [flat]
theorem take_snoc (s : ByteArray) (k : Nat) (h : k < s.size) : s.data.toList.take (k + 1) = s.data.toList.take k ++ [s[k]] := by
  rw [List.take_succ_eq_append_getElem (by simpa using h)]; rfl
theorem run_one (x : Nat) (l : List UInt8) (c : UInt8) : Cx.run x (l ++ [c]) = Cx.halves 4 (Cx.halves 4 (Cx.run x l ^^^ c.toNat)) := by
  rw [Cx.run_append, Cx.step_two]; rfl
theorem sum_turn (x : Nat) (hx : x < 4294967296) : bits .xor .u32 4294967295 (x : Int) = ((4294967295 - x : Nat) : Int) := by
  have h := u32_xor_nat 4294967295 x (by omega) hx
  rw [Nat.xor_comm, Cx.turn_all x hx] at h
  exact h

set_option maxHeartbeats 1000000 in
theorem sum_some (a : Addr) (c : Nat) (l : List ByteArray) (hl : l.length ≤ 1000000) (hs : ∀ s ∈ l, s.size ≤ 1000000) (w : World)
    (hc : ∀ k x, (strs l)[k]? = some x → w.cell? (a.add k) = some x) :
    Calls Try.prog 25 #[.slice (some a) l.length c] w fun e w' => e = .returned (.int .u32 (Cx.sum (flat l) : Nat)) ∧ Below w.heap.size w w' := by
  have HC := Lib.hid hc
  have HS := Lib.hid hs
  clear hc hs
  go_enter Try.func25, Try.ntmps25
  go_wp2_with (first
    | (go_at_call 43; refine (table_any _).mono ?_; rintro e w1 ⟨rfl, hb1⟩)
    | (refine wpList_store_row rfl 69 (.tmp 3) (.tmp 8) rfl w1.heap.size (tab 16) rfl rfl 69 (tab 0) (hb_new w1 _) (size69 16) (by rw [tab_size, tab_size]) (tab_one 16) ?_))
  go_loopw [4, 11] (fun s i wr => ∃ k : Nat, k ≤ l.length ∧ i = .int .i64 k ∧ s = .int .u32 (Cx.run 4294967295 (flat (l.take k)) : Nat) ∧ wr.heap[w1.heap.size]? = some (.cells (tab 16) 69 (0, 0)) ∧ Below w.heap.size w wr) (fun _ i _ => l.length - (intOf i).toNat)
  case atStart => exact ⟨0, Nat.zero_le _, rfl, rfl, setRow_heap _ w1.heap.size (tab 0) (tab 16) 69 (0, 0) (hb_new w1 (.cells (tab 0) 69)), below_setRow (hb1.alloc hb1.size (.cells (tab 0) 69)) (g := w1.heap.size) hb1.size (tab 16)⟩
  case round =>
    obtain ⟨k, hk, rfl, rfl, hT, hB⟩ := hrel
    have HT := Lib.hid hT
    have hx := Cx.run_lt 4294967295 (flat (l.take k)) (by omega)
    clear hT
    by_cases hlt : k < l.length
    · have hcell : wr.cell? (a.add k) = some (.string l[k]) := by
        have h1 := HC.out k (.string l[k]) (by simp [strs, hlt])
        rw [hB.cell (block_lt_of_cell h1), h1]
      have hsz : l[k].size ≤ 1000000 := HS.out _ (List.getElem_mem hlt)
      have HF := Lib.hid (flat_snoc l k hlt)
      have hd : decide ((k : Int) < l.length) = true := by simp; omega
      generalize l[k] = s at *
      generalize hX : Cx.run 4294967295 (flat (l.take k)) = X at *
      have HX := Lib.hid hX
      clear hX
      go_wp2
      go_loop [4, 17] (fun v i => ∃ j : Nat, j ≤ s.size ∧ i = .int .i64 j ∧ v = .int .u32 (Cx.run X (s.data.toList.take j) : Nat)) (fun _ i => s.size - (intOf i).toNat)
      case atStart => exact ⟨0, Nat.zero_le _, rfl, rfl⟩
      case round =>
        obtain ⟨j, hj, rfl, rfl⟩ := hrel
        have hy := Cx.run_lt X (s.data.toList.take j) hx
        by_cases hlt2 : j < s.size
        · have HY : RowKit.Hid (Cx.run X (s.data.toList.take (j + 1)) = Cx.halves 8 (Cx.run X (s.data.toList.take j) ^^^ s[j].toNat)) := by
            rw [take_snoc s j hlt2, Cx.run_append]; exact Lib.hid rfl
          have hc256 := s[j].toNat_lt
          have hz : Cx.run X (s.data.toList.take j) ^^^ s[j].toNat < 4294967296 := Nat.xor_lt_two_pow (n := 32) hy (by omega)
          have hex := byte_xor _ s[j].toNat hy hc256
          generalize Cx.run X (s.data.toList.take j) = Y at *
          generalize Y ^^^ s[j].toNat = Z at *
          have hd2 : decide ((j : Int) < s.size) = true := by simp; omega
          go_wp2
          go_loop [4, 26] (fun v i => ∃ m : Nat, m ≤ 2 ∧ i = .int .i64 m ∧ v = .int .u32 (Cx.halves (4 * m) Z : Nat)) (fun _ i => 2 - (intOf i).toNat)
          case atStart => exact ⟨0, Nat.zero_le _, rfl, rfl⟩
          case round =>
            obtain ⟨m, hm, rfl, rfl⟩ := hrel
            have hv := Cx.halves_lt (4 * m) Z hz
            by_cases hlt3 : m < 2
            · have HV := Lib.hid (Cx.halves_add (4 * m) 4 Z)
              have ea := nib_and _ hv
              have ex := nib_xor _ hv
              generalize Cx.halves (4 * m) Z = V at *
              have hcell3 := hb_at HT.out (V % 16) (tab_at 16 (V % 16) (by omega))
              rw [if_pos (by omega)] at hcell3
              go_wp2
              go_round
              case rel => exact ⟨m + 1, by omega, by go_num, by rw [show 4 * (m + 1) = 4 * m + 4 by omega, HV.out]⟩
              case measure => simp [intOf]; omega
            · obtain rfl : m = 2 := by omega
              go_wp2
              go_round
              case rel => exact ⟨j + 1, by omega, by go_num, by rw [HY.out]⟩
              case measure => simp [intOf]; omega
        · obtain rfl : j = s.size := by omega
          have HE : RowKit.Hid (Cx.run 4294967295 (flat (l.take (k + 1))) = Cx.run X (s.data.toList.take s.size)) := by
            rw [HF.out, Cx.run_append, HX.out, List.take_of_length_le (by simp)]; exact Lib.hid rfl
          go_wp2
          go_roundw
          case rel => exact ⟨k + 1, by omega, by go_num, by rw [HE.out], HT.out, hB⟩
          case measure => simp [intOf]; omega
    · obtain rfl : k = l.length := by omega
      have HE : RowKit.Hid (bits .xor .u32 4294967295 (Cx.run 4294967295 (flat (l.take l.length)) : Nat) = (Cx.sum (flat l) : Nat)) := by
        rw [sum_turn _ hx, List.take_length]; exact Lib.hid rfl
      go_wp2
      go_ret
      have h9 := HE.out
      rw [List.take_length] at h9
      exact ⟨ret_int h9, hB⟩

set_option maxHeartbeats 1000000 in
theorem sum_none (w : World) : Calls Try.prog 25 #[.slice none 0 0] w fun e w' => e = .returned (.int .u32 (Cx.sum (flat []) : Nat)) ∧ Below w.heap.size w w' := by
  go_enter Try.func25, Try.ntmps25
  go_wp2_with (first
    | (go_at_call 43; refine (table_any _).mono ?_; rintro e w1 ⟨rfl, hb1⟩)
    | (refine wpList_store_row rfl 69 (.tmp 3) (.tmp 8) rfl w1.heap.size (tab 16) rfl rfl 69 (tab 0) (hb_new w1 _) (size69 16) (by rw [tab_size, tab_size]) (tab_one 16) ?_))
  go_loopw [4, 11] (fun s i wr => i = .int .i64 0 ∧ s = .int .u32 4294967295 ∧ Below w.heap.size w wr) (fun _ i _ => 0)
  case atStart => exact ⟨rfl, rfl, below_setRow (hb1.alloc hb1.size (.cells (tab 0) 69)) (g := w1.heap.size) hb1.size (tab 16)⟩
  case round =>
    obtain ⟨rfl, rfl, hB⟩ := hrel
    go_wp2
    go_ret
    exact ⟨ret_int (by decide), hB⟩

theorem sum_any (v : Value) (l : List ByteArray) (hl : l.length ≤ 1000000) (hs : ∀ s ∈ l, s.size ≤ 1000000) (w : World) (hr : Reads w v (strs l)) :
    Calls Try.prog 25 #[v] w fun e w' => e = .returned (.int .u32 (Cx.sum (flat l) : Nat)) ∧ Below w.heap.size w w' := by
  rcases hr with ⟨rfl, h⟩ | ⟨a, c, rfl, h⟩
  · obtain rfl : l = [] := by simpa [strs] using h
    exact sum_none w
  · have := sum_some a c l hl hs w h
    simpa [strs] using this

set_option maxHeartbeats 1000000 in
theorem refSum_any (s : ByteArray) (hs : s.size ≤ 1000000) (w : World) :
    Calls Try.prog 26 #[.string s] w fun e w' => e = .returned (.int .u32 (Cx.sum s.data.toList : Nat)) ∧ w = w' := by
  go_enter Try.func26, Try.ntmps26
  go_wp2
  go_loop [3, 4] (fun v i => ∃ j : Nat, j ≤ s.size ∧ i = .int .i64 j ∧ v = .int .u32 (Cx.run 4294967295 (s.data.toList.take j) : Nat)) (fun _ i => s.size - (intOf i).toNat)
  case atStart => exact ⟨0, Nat.zero_le _, rfl, rfl⟩
  case round =>
    obtain ⟨j, hj, rfl, rfl⟩ := hrel
    have hy := Cx.run_lt 4294967295 (s.data.toList.take j) (by omega)
    by_cases hlt2 : j < s.size
    · have HY : RowKit.Hid (Cx.run 4294967295 (s.data.toList.take (j + 1)) = Cx.halves 8 (Cx.run 4294967295 (s.data.toList.take j) ^^^ s[j].toNat)) := by
        rw [take_snoc s j hlt2, Cx.run_append]; exact Lib.hid rfl
      have hc256 := s[j].toNat_lt
      have hz : Cx.run 4294967295 (s.data.toList.take j) ^^^ s[j].toNat < 4294967296 := Nat.xor_lt_two_pow (n := 32) hy (by omega)
      have hex := byte_xor _ s[j].toNat hy hc256
      generalize Cx.run 4294967295 (s.data.toList.take j) = Y at *
      generalize Y ^^^ s[j].toNat = Z at *
      have hd2 : decide ((j : Int) < s.size) = true := by simp; omega
      go_wp2
      go_loop [3, 5] (fun v i => ∃ m : Nat, m ≤ 8 ∧ i = .int .i64 m ∧ v = .int .u32 (Cx.halves m Z : Nat)) (fun _ i => 8 - (intOf i).toNat)
      case atStart => exact ⟨0, Nat.zero_le _, rfl, rfl⟩
      case round =>
        obtain ⟨m, hm, rfl, rfl⟩ := hrel
        have hv := Cx.halves_lt m Z hz
        by_cases hlt3 : m < 8
        · have HV := Lib.hid (Cx.halves_add m 1 Z)
          generalize Cx.halves m Z = V at *
          by_cases hodd : V % 2 = 1
          · have ho := half_odd V hv hodd
            have ht : ((V : Int) % 2 == 1) = true := by simp; omega
            go_wp2
            go_round
            case rel => exact ⟨m + 1, by omega, by go_num, by rw [HV.out]; rfl⟩
            case measure => simp [intOf]; omega
          · have ho := half_even V hodd
            have ht : ((V : Int) % 2 == 1) = false := by simp; omega
            go_wp2
            go_round
            case rel => exact ⟨m + 1, by omega, by go_num, by rw [HV.out]; rfl⟩
            case measure => simp [intOf]; omega
        · obtain rfl : m = 8 := by omega
          go_wp2
          go_round
          case rel => exact ⟨j + 1, by omega, by go_num, by rw [HY.out]⟩
          case measure => simp [intOf]; omega
    · obtain rfl : j = s.size := by omega
      have HE : RowKit.Hid (bits .xor .u32 (Cx.run 4294967295 (s.data.toList.take s.size) : Nat) 4294967295 = (Cx.sum s.data.toList : Nat)) := by
        have h := u32_xor_nat _ 4294967295 hy (by omega)
        rw [Cx.turn_all _ hy] at h
        rw [List.take_of_length_le (by simp)] at h ⊢
        exact Lib.hid h
      go_wp2
      go_ret
      exact ⟨ret_int HE.out, rfl⟩
end Go.Proofs.Ytnailnlpjakcbaa
