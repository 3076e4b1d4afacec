
/- Contracts: numbersOf, version, Right both, in. -/
import Derived.Test.YtpedmkdpbdhenaaGreatDoorA3
namespace Go.Proofs.YtpedmkdpbdhenaaGreatDoor
open Go.RowKit
namespace Sv
def inR (n : Int) : Bool := decide (0 ≤ n ∧ n ≤ 999999)
def right (v : V) : Bool := inR v.a && inR v.b && inR v.c
theorem inR_yes {n : Int} (h : inR n = true) : 0 ≤ n ∧ n ≤ 999999 := by unfold inR at h; exact of_decide_eq_true h
theorem inR_no {n : Int} (h : inR n = false) : n < 0 ∨ (0 ≤ n ∧ 999999 < n) := by
  unfold inR at h
  have := of_decide_eq_false h
  omega
end Sv
theorem version_any (x : Sv.V) (w : World) : Calls Tryz.prog 78 #[vv x] w fun e w' => e = .returned (vv x) ∧ Below w.heap.size w w' := by
  go_enter Tryz.func78, Tryz.ntmps78
  go_wp2
  exact bodyPost_ret (v := .agg #[.int .i64 x.a, .int .i64 x.b, .int .i64 x.c]) (by simp [results, Tryz.results78, go_sem]) rfl ⟨rfl, below2 w _ _⟩
theorem ix0 (x : Sv.V) : ∀ w, (Instr.index 92 (vv x) (.int .i64 0)).run Tryz.prog w = .ok (.int .i64 x.a) w := fun _ => by kernel_rfl
theorem ix1 (x : Sv.V) : ∀ w, (Instr.index 92 (vv x) (.int .i64 1)).run Tryz.prog w = .ok (.int .i64 x.b) w := fun _ => by kernel_rfl
theorem ix2 (x : Sv.V) : ∀ w, (Instr.index 92 (vv x) (.int .i64 2)).run Tryz.prog w = .ok (.int .i64 x.c) w := fun _ => by kernel_rfl
end Go.Proofs.YtpedmkdpbdhenaaGreatDoor
