/- Pins and commands as values; when two pins are the same. -/
import Derived.Test.YtfbfdkjimoomlaaQ1
import Derived.Deep.DeepCutAuto
namespace Go.Proofs.Ytfbfdkjimoomlaa
open Go.RowKit
abbrev pinv (x : Cm.Pn) : Value := .agg #[.string x.p, .int .i64 x.v.a, .int .i64 x.v.b, .int .i64 x.v.c]
abbrev cmdv (c : Cm.Cmd) : Value := .agg #[.int .i64 c.k, .string c.a.p, .int .i64 c.a.v.a, .int .i64 c.a.v.b, .int .i64 c.a.v.c, .string c.b.p, .int .i64 c.b.v.a, .int .i64 c.b.v.b, .int .i64 c.b.v.c, .string c.s]
theorem tol_eq {s t : ByteArray} : s.toList = t.toList ↔ s = t := by
  constructor
  · intro h
    rw [ByteArray.toList_eq, ByteArray.toList_eq] at h
    exact ByteArray.ext (Array.toList_inj.1 h)
  · intro h; rw [h]
theorem nil_of {s : ByteArray} (h : s.toList = []) : s = ⟨#[]⟩ := tol_eq.1 (h.trans (by rw [ByteArray.toList_eq]))
theorem v_eq {x y : Sv.V} : x = y ↔ x.a = y.a ∧ x.b = y.b ∧ x.c = y.c := by
  cases x; cases y; simp
theorem p_eq {x y : Cm.Pn} : x = y ↔ x.p = y.p ∧ x.v = y.v := by
  cases x; cases y; simp
theorem eqV (x y : Sv.V) (b : Bool) (h : decide (x = y) = b) (w : World) : (binOp .eql 23 (.agg #[.int .i64 x.a, .int .i64 x.b, .int .i64 x.c]) (.agg #[.int .i64 y.a, .int .i64 y.b, .int .i64 y.c])).run Try.prog w = .ok (.bool b) w := by
  subst h
  go_simp
  split
  · split
    · split <;> rw [show decide (x = y) = _ from by simp_all [v_eq]; rfl]
    · rw [show decide (x = y) = false from by simp_all [v_eq]]
  · rw [show decide (x = y) = false from by simp_all [v_eq]]
theorem neV (x y : Sv.V) (b : Bool) (h : decide (x = y) = !b) (w : World) : (binOp .neq 23 (.agg #[.int .i64 x.a, .int .i64 x.b, .int .i64 x.c]) (.agg #[.int .i64 y.a, .int .i64 y.b, .int .i64 y.c])).run Try.prog w = .ok (.bool b) w := by
  obtain rfl : b = !decide (x = y) := by rw [h]; simp
  clear h
  go_simp
  split
  · split
    · split <;> rw [show decide (x = y) = _ from by simp_all [v_eq]; rfl] <;> rfl
    · rw [show decide (x = y) = false from by simp_all [v_eq]]; rfl
  · rw [show decide (x = y) = false from by simp_all [v_eq]]; rfl
theorem neP (x y : Cm.Pn) (b : Bool) (h : decide (x = y) = !b) (w : World) : (binOp .neq 25 (.agg #[.string x.p, .int .i64 x.v.a, .int .i64 x.v.b, .int .i64 x.v.c]) (.agg #[.string y.p, .int .i64 y.v.a, .int .i64 y.v.b, .int .i64 y.v.c])).run Try.prog w = .ok (.bool b) w := by
  obtain rfl : b = !decide (x = y) := by rw [h]; simp
  clear h
  go_simp
  split
  · split
    · split
      · split <;> rw [show decide (x = y) = _ from by simp_all [p_eq, v_eq, tol_eq]; rfl] <;> rfl
      · rw [show decide (x = y) = false from by simp_all [p_eq, v_eq, tol_eq]]; rfl
    · rw [show decide (x = y) = false from by simp_all [p_eq, v_eq, tol_eq]]; rfl
  · rw [show decide (x = y) = false from by simp_all [p_eq, v_eq, tol_eq]]; rfl
theorem partsOf_five (w : World) : Calls Try.prog 23 #[.int .i64 5] w fun e w' => e = .returned (.agg #[.bool true, .bool false, .bool false]) ∧ Below w.heap.size w w' := partsOf_any 5 w
end Go.Proofs.Ytfbfdkjimoomlaa
