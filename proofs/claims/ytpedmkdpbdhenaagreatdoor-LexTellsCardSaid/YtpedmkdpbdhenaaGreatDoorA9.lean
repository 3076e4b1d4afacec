
/- Contracts: strings.Cut at a point. -/
import Derived.Test.YtpedmkdpbdhenaaGreatDoorA8
import Derived.Test.YtpedmkdpbdhenaaGreatDoorS1
import Derived.Outline
namespace Go.Proofs.YtpedmkdpbdhenaaGreatDoor
open Go.RowKit

theorem cut_none (s : ByteArray) (c : UInt8) (h : Lib.indexByte s.data.toList c = -1) (w : World) : Calls Tryz.prog 89 #[.string s, .string ⟨#[c]⟩] w fun e w' => e = .returned (.tuple #[.string s, .string ⟨#[]⟩, .bool false]) ∧ w = w' := by
  have H := Lib.hid h
  clear h
  go_enter Tryz.func89, Tryz.ntmps89
  go_wp2_with (go_at_call 95; refine (Tryz.stringslite_Index_one _ _ _).mono ?_; rintro e w' ⟨rfl, rfl⟩; rw [H.out])
  go_ret3
  exact ⟨rfl, rfl⟩
def Drew (w w' : World) : Prop := ∃ n, w' = w.drewN n
theorem cut_some (s : ByteArray) (c : UInt8) (i : Nat) (hi : i < s.size) (hm : s.size ≤ 4194304) (h : Lib.indexByte s.data.toList c = i) (w : World) : Calls Tryz.prog 89 #[.string s, .string ⟨#[c]⟩] w fun e w' => e = .returned (.tuple #[.string (s.extract 0 i), .string (s.extract (i + 1) s.size), .bool true]) ∧ Drew w w' := by
  have H := Lib.hid h
  clear h
  have hz : (⟨#[c]⟩ : ByteArray).size = 1 := rfl
  have HZ := Lib.hid hz
  clear hz
  go_enter Tryz.func89, Tryz.ntmps89
  go_wp2_with (go_at_call 95; refine (Tryz.stringslite_Index_one _ _ _).mono ?_; rintro e w' ⟨rfl, rfl⟩; rw [H.out])
  have e1 : IntKind.i64.wrap ((i : Int) + 1) = (i : Int) + 1 := IntWalk.i64_in _ (by omega)
  have e2 : (0 : Int) ≤ (i : Int) + 1 := by omega
  have e3 : ((i : Int) + 1).toNat = i + 1 := by omega
  have e4 : (⟨#[c]⟩ : ByteArray).size = 1 := rfl
  go_quiet (fail)
  go_wp2
  go_ret3
  exact ⟨rfl, _, rfl⟩
end Go.Proofs.YtpedmkdpbdhenaaGreatDoor
