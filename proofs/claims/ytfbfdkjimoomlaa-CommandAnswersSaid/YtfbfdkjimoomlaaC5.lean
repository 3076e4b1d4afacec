
/- Uvarint, and the document's own. -/
import Derived.Test.YtfbfdkjimoomlaaC4
import Derived.Laws.BytesArg
namespace Go.Proofs.Ytfbfdkjimoomlaa
open Go.RowKit

def str (l : List UInt8) : ByteArray := ⟨l.toArray⟩
theorem str_size (l : List UInt8) : (str l).size = l.length := by simp [str, ByteArray.size]
theorem str_list (l : List UInt8) : (str l).data.toList = l := by simp [str]
theorem str_of (s : ByteArray) : str s.data.toList = s := by simp [str]
theorem str_append (l m : List UInt8) : str l ++ str m = str (l ++ m) := by
  apply ByteArray.ext
  simp [str]
theorem fold_push (l : List UInt8) (r : ByteArray) : (l.map fun c => ((c.toNat : Nat) : Int)).foldl (fun r n => r.push (UInt8.ofNat n.toNat)) r = r ++ str l := by
  induction l generalizing r with
  | nil => apply ByteArray.ext; simp [str]
  | cons c l ih =>
    rw [List.map_cons, List.foldl_cons, ih]
    apply ByteArray.ext
    simp [str, ByteArray.data_push]
theorem conv_cells (w : World) (a : Addr) (c : Nat) (l : List UInt8) (h : ∀ j v, (bytesV l)[j]? = some v → w.cell? (a.add j) = some v) :
    (convert 93 9 (.slice (some a) l.length c)).run Try.prog w = .ok (.string (str l)) w := by
  rw [run_convert_bytes_string w 93 9 5 _ _ _ Try.underlying93 Try.underlying5 Try.underlying9]
  have hl : (loadCells a l.length).run Try.prog w = .ok ((l.map fun c => ((c.toNat : Nat) : Int)).map (Value.int .u8)).toArray w := by
    have h2 := run_loadCells_list (P := Try.prog) (w := w) a (bytesV l) h
    rw [bytesV_len] at h2
    rw [h2]
    simp [bytesV]
  rw [run_bytesToString w a l.length c _ hl, fold_push]
  simp
theorem conv_own {w : World} {base n : Nat} {v : Value} {l : List UInt8} (h : w.ownsRow base 5 1 v n (bytesV l)) :
    (convert 93 9 v).run Try.prog w = .ok (.string (str l)) w := by
  have hl := h.1
  rw [bytesV_len] at hl
  rcases h.2 with ⟨rfl, h0⟩ | ⟨g, cap, cur, rfl, hb, hg, r⟩
  · obtain rfl : l = [] := List.eq_nil_of_length_eq_zero (by omega)
    rw [run_convert_bytes_nil (w := w) 93 5 Try.underlying93 Try.underlying5 _ _ _ Try.underlying9]
    rfl
  · have e : n = l.length := by omega
    subst e
    exact conv_cells w _ _ _ (h.cells rfl)

theorem conv_new (w : World) (c : UInt8) (z : Int) (h : z = (c.toNat : Nat)) :
    (convert 93 9 (.slice (some ⟨w.heap.size, 0, none⟩) 1 1)).run Try.prog (w.alloc (.cells #[.int .u8 z] 5)) = .ok (.string (str [c])) (w.alloc (.cells #[.int .u8 z] 5)) := by
  subst h
  exact conv_cells _ _ 1 [c] (new_cells w _ 5 _ rfl)

set_option maxHeartbeats 1000000 in
set_option maxRecDepth 100000 in
theorem refUvarint_any (x : Nat) (hx : x < 18446744073709551616) (w : World) : Calls Try.prog 52 #[.int .u64 x] w fun e w' => e = .returned (.string (str (Cx.uv x))) ∧ Below w.heap.size w w' := by
  go_enter Try.func52, Try.ntmps52
  go_wp2
  go_loopw [0, 3] (fun u s wr => ∃ k : Nat, k ≤ Cx.top x ∧ u = .int .u64 ((x / 128 ^ k : Nat) : Int) ∧ s = .string (str (Cx.pre k x)) ∧ Below w.heap.size w wr) (fun u _ _ => (intOf u).toNat)
  case atStart => exact ⟨0, Nat.zero_le _, by simp, rfl, Below.refl _ _⟩
  case round =>
    obtain ⟨k, hk, rfl, rfl, hB⟩ := hrel
    have hq : x / 128 ^ k < 18446744073709551616 := Nat.lt_of_le_of_lt (Nat.div_le_self _ _) hx
    have HQ := Lib.hid (Nat.div_div_eq_div_mul x (128 ^ k) 128)
    have HP := Lib.hid (Cx.pre_succ k x)
    have HL := Lib.hid (Cx.uvn_pre k x)
    have h9 := Cx.top_le9 x hx
    have hs1 : (str (Cx.pre k x)).size ≤ 10 := by rw [str_size, Cx.pre_len]; omega
    have HX : RowKit.Hid (x < 128 ^ (k + 1) ↔ x / 128 ^ k < 128) := by
      rw [Nat.pow_succ, Nat.mul_comm, ← Nat.div_lt_iff_lt_mul (Nat.pow_pos (by decide))]; exact Lib.hid Iff.rfl
    generalize hS : str (Cx.pre k x) = S at *
    have HS := Lib.hid hS
    clear hS
    by_cases hlt : 127 < x / 128 ^ k
    · have hkt : k < Cx.top x := by
        rcases Nat.lt_or_ge k (Cx.top x) with h | h
        · exact h
        · have a := HX.out.mp (Nat.lt_of_lt_of_le (Cx.top_lt x) (Nat.pow_le_pow_right (by decide) (by omega)))
          omega
      generalize x / 128 ^ k = q at *
      have hcv := conv_new wr (UInt8.ofNat (128 + q % 128)) (128 + (q : Int) % 128) (by rw [UInt8.toNat_ofNat']; omega)
      generalize UInt8.ofNat (128 + q % 128) = c at *
      have hs2 : (str [c]).size ≤ 1 := by rw [str_size]; simp
      have HA : RowKit.Hid (S ++ str [c] = str (Cx.pre (k + 1) x)) := by rw [HP.out, ← str_append, HS.out]; exact Lib.hid rfl
      generalize str [c] = T at *
      have hd : decide (127 < (q : Int)) = true := by simp; omega
      go_wp2
      go_roundw
      case rel => exact ⟨k + 1, by omega, by rw [Nat.pow_succ, ← HQ.out]; go_num, by rw [HA.out], hB.alloc hB.size _⟩
      case measure => simp [intOf]; omega
    · have hkt : k = Cx.top x := by
        rcases Nat.lt_or_ge k (Cx.top x) with h | h
        · have a := HX.out.mpr (by omega)
          have b := Cx.top_le x (by omega)
          have c : 128 ^ (k + 1) ≤ 128 ^ Cx.top x := Nat.pow_le_pow_right (by decide) (by omega)
          omega
        · omega
      have HK := Lib.hid hkt
      clear hkt
      generalize x / 128 ^ k = q at *
      have hcv := conv_new wr (UInt8.ofNat q) q (by rw [UInt8.toNat_ofNat']; omega)
      generalize UInt8.ofNat q = c at *
      have hs2 : (str [c]).size ≤ 1 := by rw [str_size]; simp
      have HA : RowKit.Hid (S ++ str [c] = str (Cx.uv x)) := by rw [Cx.uv, ← HK.out, HL.out, ← str_append, HS.out]; exact Lib.hid rfl
      generalize str [c] = T at *
      go_wp2
      go_ret
      exact ⟨by show Ending.returned (.string (S ++ T)) = _; rw [HA.out], hB.alloc hB.size _⟩
end Go.Proofs.Ytfbfdkjimoomlaa
