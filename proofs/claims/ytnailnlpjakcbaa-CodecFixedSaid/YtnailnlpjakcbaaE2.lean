/- Fixed, GetFixed, and the document's own. -/
import Derived.Test.YtnailnlpjakcbaaC5
namespace Go.Proofs.Ytnailnlpjakcbaa
open Go.RowKit

namespace Cx
def fx (x : Nat) : List UInt8 := [UInt8.ofNat x, UInt8.ofNat (x / 256), UInt8.ofNat (x / 256 ^ 2), UInt8.ofNat (x / 256 ^ 3)]
def un : List UInt8 → Nat
  | [] => 0
  | c :: l => c.toNat + 256 * un l
theorem un_append (l m : List UInt8) : un (l ++ m) = un l + 256 ^ l.length * un m := by
  induction l with
  | nil => simp [un]
  | cons c l ih =>
    rw [List.cons_append, un, un, ih, List.length_cons, Nat.pow_succ, Nat.mul_add, Nat.mul_comm (256 ^ l.length) 256, Nat.mul_assoc, Nat.add_assoc]
theorem un_lt (l : List UInt8) : un l < 256 ^ l.length := by
  induction l with
  | nil => simp [un]
  | cons c l ih =>
    have := c.toNat_lt
    rw [un, List.length_cons, Nat.pow_succ]
    omega
theorem un_fx (x : Nat) (h : x < 4294967296) : un (fx x) = x := by
  simp only [fx, un, UInt8.toNat_ofNat']
  omega
theorem fx_un (a b c d : UInt8) : fx (un [a, b, c, d]) = [a, b, c, d] := by
  have ha := a.toNat_lt
  have hb := b.toNat_lt
  have hc := c.toNat_lt
  have hd := d.toNat_lt
  simp only [un, fx]
  have e : ∀ (u : UInt8) (n : Nat), n % 256 = u.toNat → UInt8.ofNat n = u := fun u n h => UInt8.toNat_inj.mp (by rw [UInt8.toNat_ofNat']; exact h)
  rw [e a _ (by omega), e b _ (by omega), e c _ (by omega), e d _ (by omega)]
theorem fx_len (x : Nat) : (fx x).length = 4 := rfl
theorem fx_at (x k : Nat) (h : k < 4) : (fx x)[k]'(by rw [fx_len]; exact h) = UInt8.ofNat (x / 256 ^ k) := by
  match k, h with
  | 0, _ => simp [fx]
  | 1, _ => simp [fx]
  | 2, _ => simp [fx]
  | 3, _ => simp [fx]
end Cx

theorem p256 (k : Nat) : 256 ^ k = 2 ^ (8 * k) := by rw [Nat.pow_mul]
theorem un_snoc (l : List UInt8) (k : Nat) (h : k < l.length) : Cx.un (l.take (k + 1)) = Cx.un (l.take k) + 256 ^ k * l[k].toNat := by
  rw [List.take_succ_eq_append_getElem h, Cx.un_append, List.length_take, Nat.min_eq_left (by omega)]
  simp [Cx.un]
theorem or_fix (v k c : Nat) (hv : v < 256 ^ k) (hk : k < 4) (hc : c < 256) :
    bits .or .u32 (v : Int) ((c : Int) * 2 ^ (8 * k) % 4294967296) = ((v + 256 ^ k * c : Nat) : Int) := by
  have e3 : ((c : Nat) : Int) * 2 ^ (8 * k) = ((256 ^ k * c : Nat) : Int) := by rw [p256]; push_cast; rw [Int.mul_comm]
  have a : 256 ^ k ≤ 256 ^ 3 := Nat.pow_le_pow_right (by decide) (by omega)
  have b : (256 : Nat) ^ 3 = 16777216 := by decide
  have hb : 256 ^ k * c < 4294967296 := by
    have d : 256 ^ k * c ≤ 256 ^ 3 * 255 := Nat.mul_le_mul a (by omega)
    omega
  have e4 : ((256 ^ k * c : Nat) : Int) % 4294967296 = ((256 ^ k * c : Nat) : Int) := by
    generalize 256 ^ k * c = q at *
    omega
  rw [e3, e4, u32_or_nat v _ (by omega) hb, Nat.or_comm, nat_join (8 * k) _ _ (by rw [← p256]; exact Nat.mul_mod_right _ _) (by rw [← p256]; exact hv), Nat.add_comm]

def getFx (l : List UInt8) : Nat := if l.length < 4 then 0 else Cx.un (l.take 4)
def hasFx (l : List UInt8) : Bool := decide (4 ≤ l.length)

set_option maxRecDepth 100000 in
set_option maxHeartbeats 1000000 in
theorem getFixed_any (s : ByteArray) (hs : s.size ≤ maxLen) (w : World) : Calls Try.prog 20 #[.string s] w fun e w' => e = .returned (.tuple #[.int .u32 (getFx s.data.toList : Nat), .bool (hasFx s.data.toList)]) ∧ w = w' := by
  unfold maxLen at hs
  have hsz : s.data.toList.length = s.size := by simp
  by_cases h4 : s.size < 4
  · have hd : decide ((s.size : Int) < 4) = true := by simp; omega
    have H1 : RowKit.Hid (getFx s.data.toList = 0) := by unfold getFx; rw [hsz, if_pos h4]; exact Lib.hid rfl
    have H2 : RowKit.Hid (hasFx s.data.toList = false) := by unfold hasFx; rw [hsz]; apply Lib.hid; simp; omega
    clear hsz
    go_enter Try.func20, Try.ntmps20
    go_wp2
    go_ret2
    refine ⟨?_, rfl⟩
    rw [H1.out, H2.out]
    rfl
  · have hd : decide ((s.size : Int) < 4) = false := by simp; omega
    have H1 : RowKit.Hid (getFx s.data.toList = Cx.un (s.data.toList.take 4)) := by unfold getFx; rw [hsz, if_neg h4]; exact Lib.hid rfl
    have H2 : RowKit.Hid (hasFx s.data.toList = true) := by unfold hasFx; rw [hsz]; apply Lib.hid; simp; omega
    have HSZ := Lib.hid hsz
    clear hsz
    go_enter Try.func20, Try.ntmps20
    go_wp2
    go_loop [4, 9] (fun x i => ∃ k : Nat, k ≤ 4 ∧ i = .int .i64 k ∧ x = .int .u32 (Cx.un (s.data.toList.take k) : Nat)) (fun _ i => 4 - (intOf i).toNat)
    case atStart => exact ⟨0, Nat.zero_le _, rfl, rfl⟩
    case round =>
      obtain ⟨k, hk, rfl, rfl⟩ := hrel
      have hul := Cx.un_lt (s.data.toList.take k)
      rw [List.length_take, HSZ.out, Nat.min_eq_left (by omega)] at hul
      by_cases hlt : k < 4
      · have hc := s[k].toNat_lt
        have HO := Lib.hid (or_fix _ k s[k].toNat hul hlt hc)
        have HS := Lib.hid (un_snoc s.data.toList k (by rw [HSZ.out]; omega))
        clear hul
        go_wp2
        go_round
        case rel => exact ⟨k + 1, by omega, by go_num, by rw [HO.out, HS.out]; rfl⟩
        case measure => simp [intOf]; omega
      · obtain rfl : k = 4 := by omega
        go_wp2
        go_ret2
        refine ⟨?_, rfl⟩
        rw [H1.out, H2.out]
        rfl

set_option maxRecDepth 100000 in
set_option maxHeartbeats 1000000 in
theorem refGetFixed_any (s : ByteArray) (hs : s.size ≤ maxLen) (w : World) : Calls Try.prog 21 #[.string s] w fun e w' => e = .returned (.tuple #[.int .u32 (getFx s.data.toList : Nat), .bool (hasFx s.data.toList)]) ∧ w = w' := by
  unfold maxLen at hs
  have hsz : s.data.toList.length = s.size := by simp
  by_cases h4 : s.size < 4
  · have hd : decide ((s.size : Int) < 4) = true := by simp; omega
    have H1 : RowKit.Hid (getFx s.data.toList = 0) := by unfold getFx; rw [hsz, if_pos h4]; exact Lib.hid rfl
    have H2 : RowKit.Hid (hasFx s.data.toList = false) := by unfold hasFx; rw [hsz]; apply Lib.hid; simp; omega
    clear hsz
    go_enter Try.func21, Try.ntmps21
    go_wp2
    go_ret2
    refine ⟨?_, rfl⟩
    rw [H1.out, H2.out]
    rfl
  · have hd : decide ((s.size : Int) < 4) = false := by simp; omega
    have H1 : RowKit.Hid (getFx s.data.toList = Cx.un ((s.data.toList.take 4).drop 0)) := by unfold getFx; rw [hsz, if_neg h4]; exact Lib.hid rfl
    have H2 : RowKit.Hid (hasFx s.data.toList = true) := by unfold hasFx; rw [hsz]; apply Lib.hid; simp; omega
    have HSZ := Lib.hid hsz
    clear hsz
    go_enter Try.func21, Try.ntmps21
    go_wp2
    go_loop [4, 5] (fun x i => ∃ m : Nat, m ≤ 4 ∧ i = .int .i64 ((m : Int) - 1) ∧ x = .int .u32 (Cx.un ((s.data.toList.take 4).drop m) : Nat)) (fun _ i => (intOf i + 1).toNat)
    case atStart => exact ⟨4, Nat.le_refl _, by simp, by rw [List.drop_of_length_le (by rw [List.length_take]; omega)]; rfl⟩
    case round =>
      obtain ⟨m, hm, rfl, rfl⟩ := hrel
      by_cases hm0 : 0 < m
      · obtain ⟨m, rfl⟩ : ∃ q, m = q + 1 := ⟨m - 1, by omega⟩
        have HD : RowKit.Hid (Cx.un ((s.data.toList.take 4).drop m) = s[m].toNat + 256 * Cx.un ((s.data.toList.take 4).drop (m + 1))) := by
          rw [List.drop_eq_getElem_cons (by rw [List.length_take, HSZ.out]; omega), Cx.un, List.getElem_take]
          exact Lib.hid rfl
        have hc := s[m].toNat_lt
        have hul := Cx.un_lt ((s.data.toList.take 4).drop (m + 1))
        have hlt3 : Cx.un ((s.data.toList.take 4).drop (m + 1)) < 16777216 := by
          have a : 256 ^ ((s.data.toList.take 4).drop (m + 1)).length ≤ 256 ^ 3 := Nat.pow_le_pow_right (by decide) (by rw [List.length_drop, List.length_take]; omega)
          have b : (256 : Nat) ^ 3 = 16777216 := by decide
          omega
        clear hul
        generalize Cx.un ((s.data.toList.take 4).drop (m + 1)) = V at *
        go_wp2
        go_round
        case rel => exact ⟨m, by omega, by go_num, by rw [HD.out]; go_num⟩
        case measure => simp [intOf]
      · obtain rfl : m = 0 := by omega
        have HX : RowKit.Hid (Cx.un ((s.data.toList.take 4).drop 0) = getFx s.data.toList) := Lib.hid H1.out.symm
        generalize Cx.un ((s.data.toList.take 4).drop 0) = X at *
        go_wp2
        go_ret2
        refine ⟨?_, rfl⟩
        rw [← HX.out, H2.out]
        rfl

def fa (x k : Nat) : Array Value := #[.int .u8 (if 0 < k then (UInt8.ofNat x).toNat else (0 : Nat) : Nat), .int .u8 (if 1 < k then (UInt8.ofNat (x / 256)).toNat else (0 : Nat) : Nat), .int .u8 (if 2 < k then (UInt8.ofNat (x / 256 ^ 2)).toNat else (0 : Nat) : Nat), .int .u8 (if 3 < k then (UInt8.ofNat (x / 256 ^ 3)).toNat else (0 : Nat) : Nat)]
theorem fa_step (x k : Nat) (hk : k < 4) : (fa x k).setIfInBounds k (.int .u8 ((UInt8.ofNat (x / 256 ^ k)).toNat : Nat)) = fa x (k + 1) := by
  match k, hk with
  | 0, _ => simp [fa]
  | 1, _ => simp [fa]
  | 2, _ => simp [fa]
  | 3, _ => simp [fa]
theorem fa_at (x k : Nat) (hk : k < 4) : ∃ v, (fa x k)[k]? = some v := by
  match k, hk with
  | 0, _ => exact ⟨_, rfl⟩
  | 1, _ => exact ⟨_, rfl⟩
  | 2, _ => exact ⟨_, rfl⟩
  | 3, _ => exact ⟨_, rfl⟩
theorem fa_all (x : Nat) : (fa x 4).toList = bytesV (Cx.fx x) := rfl
theorem fix_val (x k : Nat) : (x : Int) / 2 ^ (8 * k) % 256 = ((UInt8.ofNat (x / 256 ^ k)).toNat : Nat) := by
  have e : (x : Int) / 2 ^ (8 * k) = ((x / 256 ^ k : Nat) : Int) := by
    rw [p256]
    simp
  rw [e, UInt8.toNat_ofNat']
  omega

set_option maxRecDepth 100000 in
set_option maxHeartbeats 1000000 in
theorem fixed_any (x : Nat) (hx : x < 4294967296) (w : World) : Calls Try.prog 22 #[.int .u32 x] w fun e w' => e = .returned (.string (str (Cx.fx x))) ∧ Below w.heap.size w w' := by
  go_enter Try.func22, Try.ntmps22
  go_wp2
  go_loopw [5] (fun i wr => ∃ k : Nat, k ≤ 4 ∧ i = .int .i64 k ∧ wr.heap[w.heap.size]? = some (.cells (fa x k) 68 (0, 0)) ∧ Below w.heap.size w wr) (fun i _ => 4 - (intOf i).toNat)
  case atStart => exact ⟨0, Nat.zero_le _, rfl, hb_new w _, below_alloc w _⟩
  case round =>
    obtain ⟨k, hk, rfl, hH, hB⟩ := hrel
    have HH := Lib.hid hH
    clear hH
    by_cases hlt : k < 4
    · have hv := fix_val x k
      obtain ⟨v0, hv0⟩ := fa_at x k hlt
      have hcell := hb_at HH.out k hv0
      have hfz := hb_free HH.out k
      have HS := Lib.hid (fa_step x k hlt)
      have HV0 := Lib.hid hv0
      clear hv0
      generalize UInt8.ofNat (x / 256 ^ k) = c at *
      go_wp2
      go_roundw
      case rel => exact ⟨k + 1, by omega, by go_num, by rw [← HS.out]; exact hb_set_same HH.out k _, hB.setCell (by simp) _⟩
      case measure => simp [intOf]; omega
    · obtain rfl : k = 4 := by omega
      have hcv := conv_cells wr ⟨w.heap.size, 0, none⟩ 4 (Cx.fx x) (fun j v hv => by
        rw [hb_cell_add HH.out, ← Array.getElem?_toList, fa_all]
        exact hv)
      rw [Cx.fx_len] at hcv
      go_wp2
      go_ret
      exact ⟨rfl, hB⟩

set_option maxRecDepth 100000 in
set_option maxHeartbeats 1000000 in
theorem refFixed_any (x : Nat) (hx : x < 4294967296) (w : World) : Calls Try.prog 23 #[.int .u32 x] w fun e w' => e = .returned (.string (str (Cx.fx x))) ∧ Below w.heap.size w w' := by
  go_enter Try.func23, Try.ntmps23
  go_wp2
  go_loopw [0, 3, 4] (fun u s i wr => ∃ k : Nat, k ≤ 4 ∧ i = .int .i64 k ∧ u = .int .u32 (x / 256 ^ k : Nat) ∧ s = .string (str ((Cx.fx x).take k)) ∧ Below w.heap.size w wr) (fun _ _ i _ => 4 - (intOf i).toNat)
  case atStart => exact ⟨0, Nat.zero_le _, rfl, by simp, rfl, Below.refl _ _⟩
  case round =>
    obtain ⟨k, hk, rfl, rfl, rfl, hB⟩ := hrel
    have hs1 : (str ((Cx.fx x).take k)).size ≤ 10 := by rw [str_size, List.length_take]; omega
    by_cases hlt : k < 4
    · have hq : x / 256 ^ k < 4294967296 := Nat.lt_of_le_of_lt (Nat.div_le_self _ _) hx
      have HQ := Lib.hid (Nat.div_div_eq_div_mul x (256 ^ k) 256)
      have HT : RowKit.Hid ((Cx.fx x).take (k + 1) = (Cx.fx x).take k ++ [UInt8.ofNat (x / 256 ^ k)]) := by
        rw [List.take_succ_eq_append_getElem (by rw [Cx.fx_len]; exact hlt), Cx.fx_at x k hlt]; exact Lib.hid rfl
      generalize x / 256 ^ k = q at *
      have hcv := conv_new wr (UInt8.ofNat q) ((q : Int) % 256) (by rw [UInt8.toNat_ofNat']; omega)
      generalize UInt8.ofNat q = c at *
      have hs2 : (str [c]).size ≤ 1 := by rw [str_size]; simp
      have HA : RowKit.Hid (str ((Cx.fx x).take k) ++ str [c] = str ((Cx.fx x).take (k + 1))) := by rw [HT.out, ← str_append]; exact Lib.hid rfl
      generalize str [c] = T at *
      generalize str ((Cx.fx x).take k) = S at *
      go_wp2
      go_roundw
      case rel => exact ⟨k + 1, by omega, by go_num, by rw [Nat.pow_succ, ← HQ.out]; go_num, by rw [HA.out], hB.alloc hB.size _⟩
      case measure => simp [intOf]; omega
    · obtain rfl : k = 4 := by omega
      have HX : RowKit.Hid (str ((Cx.fx x).take 4) = str (Cx.fx x)) := Lib.hid rfl
      generalize str ((Cx.fx x).take 4) = S at *
      go_wp2
      go_ret
      exact ⟨by show Ending.returned (.string S) = _; rw [HX.out], hB⟩
end Go.Proofs.Ytnailnlpjakcbaa
