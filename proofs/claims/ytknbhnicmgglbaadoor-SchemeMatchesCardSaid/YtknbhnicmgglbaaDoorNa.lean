/- Names of variables, all that are wanted. -/
import Derived.Test.YtknbhnicmgglbaaDoorYa
namespace Go.Proofs.YtknbhnicmgglbaaDoor
open Go.RowKit
/-- A number's digits. -/
def digB (x : Nat) : ByteArray := if x < 10 then ⟨#[UInt8.ofNat (48 + x)]⟩ else ⟨#[UInt8.ofNat (48 + x / 10), UInt8.ofNat (48 + x % 10)]⟩
/-- The name of the i-th variable. -/
def nmB (i : Nat) : ByteArray := if i < 26 then Utf8.encode (97 + (i : Int) % 26) else Utf8.encode (97 + (i : Int) % 26) ++ digB (i / 26)
set_option maxRecDepth 100000 in
theorem low_is : ∀ x, x < 10 → (ByteArray.mk #[48, 49, 50, 51, 52, 53, 54, 55, 56, 57, 97, 98, 99, 100, 101, 102, 103, 104, 105, 106, 107, 108, 109, 110, 111, 112, 113, 114, 115, 116, 117, 118, 119, 120, 121, 122]).extract x (x + 1) = digB x := by decide +kernel
set_option maxRecDepth 100000 in
theorem two_is : ∀ x, x < 100 → 10 ≤ x → (ByteArray.mk #[48, 48, 48, 49, 48, 50, 48, 51, 48, 52, 48, 53, 48, 54, 48, 55, 48, 56, 48, 57, 49, 48, 49, 49, 49, 50, 49, 51, 49, 52, 49, 53, 49, 54, 49, 55, 49, 56, 49, 57, 50, 48, 50, 49, 50, 50, 50, 51, 50, 52, 50, 53, 50, 54, 50, 55, 50, 56, 50, 57, 51, 48, 51, 49, 51, 50, 51, 51, 51, 52, 51, 53, 51, 54, 51, 55, 51, 56, 51, 57, 52, 48, 52, 49, 52, 50, 52, 51, 52, 52, 52, 53, 52, 54, 52, 55, 52, 56, 52, 57, 53, 48, 53, 49, 53, 50, 53, 51, 53, 52, 53, 53, 53, 54, 53, 55, 53, 56, 53, 57, 54, 48, 54, 49, 54, 50, 54, 51, 54, 52, 54, 53, 54, 54, 54, 55, 54, 56, 54, 57, 55, 48, 55, 49, 55, 50, 55, 51, 55, 52, 55, 53, 55, 54, 55, 55, 55, 56, 55, 57, 56, 48, 56, 49, 56, 50, 56, 51, 56, 52, 56, 53, 56, 54, 56, 55, 56, 56, 56, 57, 57, 48, 57, 49, 57, 50, 57, 51, 57, 52, 57, 53, 57, 54, 57, 55, 57, 56, 57, 57]).extract (x * 2) (x * 2 + 2) = digB x := by decide +kernel
set_option maxRecDepth 100000 in
theorem small_any (x : Nat) (hx : x < 100) (w : World) : Calls Tryd.prog 37 #[.int .i64 (x : Int)] w fun e w' => e = .returned (.string (digB x)) ∧ w = w' := by
  by_cases h : (x : Int) < 10
  · go_enter Tryd.func37, Tryd.ntmps37
    go_wp2
    go_ret
    exact ⟨congrArg (fun s => Ending.returned (.string s)) (low_is x (by omega)), rfl⟩
  · go_enter Tryd.func37, Tryd.ntmps37
    go_wp2
    go_ret
    exact ⟨congrArg (fun s => Ending.returned (.string s)) (two_is x hx (by omega)), rfl⟩
theorem format_any (x : Nat) (hx : x < 100) (w : World) : Calls Tryd.prog 36 #[.int .i64 (x : Int), .int .i64 10] w fun e w' => e = .returned (.string (digB x)) ∧ w = w' := by
  have h0 : (0 : Int) ≤ (x : Int) := by omega
  have h1 : (x : Int) < 100 := by omega
  go_enter Tryd.func36, Tryd.ntmps36
  go_wp2_with (go_at_call 37; refine (small_any x hx _).mono ?_; rintro e w1 ⟨rfl, rfl⟩)
  go_ret
  exact ⟨rfl, rfl⟩
theorem itoa_any' (x : Nat) (hx : x < 100) (w : World) : Calls Tryd.prog 34 #[.int .i64 (x : Int)] w fun e w' => e = .returned (.string (digB x)) ∧ w = w' := by
  go_enter Tryd.func34, Tryd.ntmps34
  go_wp2_with (go_at_call 36; refine (format_any x hx _).mono ?_; rintro e w1 ⟨rfl, rfl⟩)
  go_ret
  exact ⟨rfl, rfl⟩
theorem itoa_any (x : Nat) (hx : x < 100) (w : World) : Calls Tryd.prog 27 #[.int .i64 (x : Int)] w fun e w' => e = .returned (.string (digB x)) ∧ w = w' := by
  go_enter Tryd.func27, Tryd.ntmps27
  go_wp2_with (go_at_call 34; refine (itoa_any' x hx _).mono ?_; rintro e w1 ⟨rfl, rfl⟩)
  go_ret
  exact ⟨rfl, rfl⟩
set_option maxRecDepth 100000 in
theorem nm_size' : ∀ i, i < 2600 → (nmB i).size ≤ 3 := by decide +kernel
set_option maxRecDepth 100000 in
theorem name_any (i : Nat) (hi : i < 2600) (w : World) : Calls Tryd.prog 20 #[.int .i64 (i : Int)] w fun e w' => e = .returned (.string (nmB i)) ∧ w = w' := by
  have e : nmB i = if i < 26 then Utf8.encode (97 + (i : Int) % 26) else Utf8.encode (97 + (i : Int) % 26) ++ digB (i / 26) := rfl
  by_cases h : i < 26
  · rw [if_pos h] at e
    rw [e]
    clear e
    go_enter Tryd.func20, Tryd.ntmps20
    go_wp2
    go_ret
    exact ⟨rfl, rfl⟩
  · rw [if_neg h] at e
    have hsz : RowKit.Hid ((Utf8.encode (97 + (i : Int) % 26)).size + (digB (i / 26)).size ≤ 3) := Lib.hid (by
      have h3 := nm_size' i hi
      rw [e, ByteArray.size_append] at h3
      exact h3)
    rw [e]
    clear e
    have h2 : (26 : Int) ≤ (i : Int) := by omega
    have hq : RowKit.wrap64 ((i : Int) / 26) = ((i / 26 : Nat) : Int) := by unfold RowKit.wrap64; omega
    have HI : RowKit.Hid (Calls Tryd.prog 27 #[.int .i64 (RowKit.wrap64 ((i : Int) / 26))] w fun e w' => e = .returned (.string (digB (i / 26))) ∧ w = w') := Lib.hid (by
      rw [hq]; exact itoa_any (i / 26) (by omega) w)
    clear hq
    generalize digB (i / 26) = D at *
    clear hi
    go_enter Tryd.func20, Tryd.ntmps20
    go_upto_region 4 with fail
    go_wp2_with (go_at_call 27; refine HI.out.mono ?_; rintro e w1 ⟨rfl, rfl⟩)
    all_goals first | (go_ret; exact ⟨rfl, rfl⟩) | (rename_i hx; exfalso; have h9 := hsz.out; omega)
def decB (b : ByteArray) : Nat := match b.toList with
  | [a] => a.toNat - 97
  | [a, x] => a.toNat - 97 + 26 * (x.toNat - 48)
  | [a, x, y] => a.toNat - 97 + 26 * (10 * (x.toNat - 48) + (y.toNat - 48))
  | _ => 0
set_option maxRecDepth 100000 in
theorem dec_nm : ∀ i, i < 2600 → decB (nmB i) = i := by decide +kernel
theorem nm_inj {i j : Nat} (hi : i < 2600) (hj : j < 2600) (h : nmB i = nmB j) : i = j := by
  rw [← dec_nm i hi, h, dec_nm j hj]
theorem nm_size {i : Nat} (hi : i < 2600) : (nmB i).size ≤ maxLen := Nat.le_trans (nm_size' i hi) (by decide)
end Go.Proofs.YtknbhnicmgglbaaDoor
