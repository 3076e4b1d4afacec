/- A command as an argument. -/
import Derived.Test.YtfbfdkjimoomlaaT1
import Derived.ProofKit
import Derived.OpenShut
import Derived.ShutString
import Derived.ChangeOld
import Derived.ChangeSlices
import Derived.Lib.SmallJoins
namespace Go.Proofs.Ytfbfdkjimoomlaa
open Go.ChangeShapes Go.WideShapes Go.ChangeAt Go.RowKit Go.Joins Go.Deep
theorem ownKn : ownKnob Try.prog.godebug = none := by kernel_rfl
theorem laidTry : laidOutB Try.prog = true := by kernel_rfl
theorem k3 : Try.prog.cellsOf 3 = 1 := by kernel_rfl
theorem k9 : Try.prog.cellsOf 9 = 1 := by kernel_rfl
theorem k23 : Try.prog.cellsOf 23 = 3 := by kernel_rfl
theorem k25 : Try.prog.cellsOf 25 = 4 := by kernel_rfl
theorem k27 : Try.prog.cellsOf 27 = 10 := by kernel_rfl
theorem list3 {α : Type} {cs : List α} (h : cs.length = 3) : ∃ c0 c1 c2, cs = [c0, c1, c2] := by
  match cs, h with
  | [c0, c1, c2], _ => exact ⟨c0, c1, c2, rfl⟩
theorem list4 {α : Type} {cs : List α} (h : cs.length = 4) : ∃ c0 c1 c2 c3, cs = [c0, c1, c2, c3] := by
  match cs, h with
  | [c0, c1, c2, c3], _ => exact ⟨c0, c1, c2, c3, rfl⟩
theorem array10 {α : Type} {cs : Array α} (h : cs.size = 10) : ∃ c0 c1 c2 c3 c4 c5 c6 c7 c8 c9, cs = #[c0, c1, c2, c3, c4, c5, c6, c7, c8, c9] := by
  obtain ⟨l⟩ := cs
  match l, h with
  | [c0, c1, c2, c3, c4, c5, c6, c7, c8, c9], _ => exact ⟨c0, c1, c2, c3, c4, c5, c6, c7, c8, c9, rfl⟩
section
variable {H : Type} {enc : TypeId × Value → H} {W : World} {base : Nat} {v : Value} {d : DataW H} {p : List MemPlace}
theorem rd_int {n : Nat} {a : Value} {y : DataW H × List MemPlace} (h : DataW.trod enc Try.prog W 0 (fun _ => true) true n 3 [a] = some y) : ∃ z : Int, a = .int .i64 z ∧ (-9223372036854775808 ≤ z ∧ z ≤ 9223372036854775807) := by
  obtain ⟨z, e, _, w⟩ := DataW.trod_int Try.underlying3 h
  simp at e
  exact ⟨z, e, bounds_i64 w⟩
theorem rd_str {n : Nat} {a : Value} {y : DataW H × List MemPlace} (h : DataW.trod enc Try.prog W 0 (fun _ => true) true n 9 [a] = some y) : ∃ s : ByteArray, a = .string s ∧ s.size ≤ maxLen ∧ s.size ∈ DataW.weights Try.prog 9 y.1 := by
  obtain ⟨s, e, hy, w⟩ := DataW.trod_string Try.underlying9 h
  simp at e
  exact ⟨s, e, w, by rw [hy]; simp [DataW.weights]⟩
theorem rd_ver {n : Nat} {a b c : Value} {y : DataW H × List MemPlace} (h : DataW.trod enc Try.prog W 0 (fun _ => true) true n 23 [a, b, c] = some y) : ∃ x : Sv.V, a = .int .i64 x.a ∧ b = .int .i64 x.b ∧ c = .int .i64 x.c ∧ ((-9223372036854775808 ≤ x.a ∧ x.a ≤ 9223372036854775807) ∧ (-9223372036854775808 ≤ x.b ∧ x.b ≤ 9223372036854775807) ∧ (-9223372036854775808 ≤ x.c ∧ x.c ≤ 9223372036854775807)) := by
  obtain ⟨y0, y1, y2, m, _, _, h0, h1, h2⟩ := trod_struct3 Try.underlying23 h
  simp only [k3] at h0 h1 h2
  obtain ⟨z0, e0, b0⟩ := rd_int h0
  obtain ⟨z1, e1, b1⟩ := rd_int h1
  obtain ⟨z2, e2, b2⟩ := rd_int h2
  exact ⟨⟨z0, z1, z2⟩, e0, e1, e2, b0, b1, b2⟩
theorem rd_pin {n : Nat} {s a b c : Value} {y : DataW H × List MemPlace} (h : DataW.trod enc Try.prog W 0 (fun _ => true) true n 25 [s, a, b, c] = some y) : ∃ x : Cm.Pn, s = .string x.p ∧ a = .int .i64 x.v.a ∧ b = .int .i64 x.v.b ∧ c = .int .i64 x.v.c ∧ x.p.size ∈ DataW.weights Try.prog 25 y.1 ∧ ((-9223372036854775808 ≤ x.v.a ∧ x.v.a ≤ 9223372036854775807) ∧ (-9223372036854775808 ≤ x.v.b ∧ x.v.b ≤ 9223372036854775807) ∧ (-9223372036854775808 ≤ x.v.c ∧ x.v.c ≤ 9223372036854775807)) := by
  obtain ⟨y0, y1, m, hy, _, h0, h1⟩ := trod_struct2 Try.underlying25 h
  simp only [k9, k23] at h0 h1
  obtain ⟨z0, e0, _, w0⟩ := rd_str h0
  obtain ⟨z1, e1, e2, e3, b1⟩ := rd_ver h1
  refine ⟨⟨z0, z1⟩, e0, e1, e2, e3, ?_, b1⟩
  rw [hy]
  simp [DataW.weights, DataW.weightsEach, Try.underlying25, w0]
set_option maxRecDepth 100000 in
theorem arg_cmd (hval : Value.okWide Try.prog W .any base 27 v) (h : DataW.Trod enc Try.prog W 0 (fun _ => true) true 27 v d p) : ∃ c : Cm.Cmd, v = cmdv c ∧ c.a.p.size ∈ DataW.weights Try.prog 27 d ∧ c.b.p.size ∈ DataW.weights Try.prog 27 d ∧ c.s.size ∈ DataW.weights Try.prog 27 d := by
  obtain ⟨cs, rfl, hsz⟩ := okWide_struct Try.underlying27 hval
  obtain ⟨c0, c1, c2, c3, c4, c5, c6, c7, c8, c9, rfl⟩ := array10 (hsz.trans k27)
  obtain ⟨fuel, hf⟩ := h
  obtain ⟨y0, y1, y2, y3, m, hy, _, h0, h1, h2, h3⟩ := trod_struct4 Try.underlying27 hf
  simp only [k3, k25, k9] at h0 h1 h2 h3
  obtain ⟨z0, e0, _⟩ := rd_int h0
  obtain ⟨z1, e1, e2, e3, e4, w1, _⟩ := rd_pin h1
  obtain ⟨z2, e5, e6, e7, e8, w2, _⟩ := rd_pin h2
  obtain ⟨z3, e9, _, w3⟩ := rd_str h3
  obtain rfl := (Prod.mk.inj hy).1
  refine ⟨⟨z0, z1, z2, z3⟩, by rw [e0, e1, e2, e3, e4, e5, e6, e7, e8, e9], ?_, ?_, ?_⟩ <;> simp [DataW.weights, DataW.weightsEach, Try.underlying27, w1, w2, w3]
theorem reach_of {ts : List TypeId} {ds : List (DataW H)} (hsz : (DataW.weightsEach Try.prog ts ds).all (· ≤ reachBytes) = true) {j : Nat} {t : TypeId} {d : DataW H} (ht : ts[j]? = some t) (hd : ds[j]? = some d) {n : Nat} (hn : n ∈ DataW.weights Try.prog t d) : n ≤ 140737488351232 := by
  have := List.all_eq_true.1 hsz _ (DataW.weights_mem_each ht hd n hn)
  exact of_decide_eq_true this
end
end Go.Proofs.Ytfbfdkjimoomlaa
