/- For every input CodecNumbers returns true and leaves its arguments as they were: a number's bytes, and the number at the beginning of any bytes, are as the document says; with anything behind its bytes a number is read. No condition. -/
import Derived.Test.YtnailnlpjakcbaaC6
import Derived.Test.YtnailnlpjakcbaaC7
import Derived.Test.YtnailnlpjakcbaaE1
namespace Go.Proofs.Ytnailnlpjakcbaa
open Go.ChangeShapes Go.WideShapes Go.ChangeAt Go.RowKit
open Go.ChangeMaps (open_string shut_string)
set_option linter.unusedVariables false

theorem get_back (x : Nat) (hx : x < 18446744073709551616) (s : ByteArray) (hs : (str (Cx.uv x) ++ s).size ≤ maxLen) (w : World) :
    Calls Try.prog 13 #[.string (str (Cx.uv x) ++ s)] w fun e w' => e = .returned (.tuple #[.int .u64 x, .int .i64 ((Cx.uv x).length : Nat)]) ∧ w = w' := by
  have h := getUvarint_any (str (Cx.uv x) ++ s) hs w
  have e : (str (Cx.uv x) ++ s).data.toList = Cx.uv x ++ s.data.toList := by simp [str]
  rw [e, Cx.get_uv x hx] at h
  exact h

theorem numbers_walk (x : Nat) (s : ByteArray) (w : World) (hx : x < 18446744073709551616) (hs : s.size ≤ maxLen) :
    Calls Try.prog 3 #[.int .u64 x, .string s] w fun e w' => e = .returned (.bool true) ∧ Below w.heap.size w w' := by
  have hs2 := hs
  unfold maxLen at hs2
  by_cases hl : 1000 < s.size
  · have hd : decide (1000 < (s.size : Int)) = true := by simp; omega
    go_enter Try.func3, Try.ntmps3
    go_wp2_with (go_at_call 11; refine (alive_ok _).mono ?_; rintro e w9 ⟨rfl, hb⟩)
    go_ret
    exact ⟨rfl, hb⟩
  · have hd : decide (1000 < (s.size : Int)) = false := by simp; omega
    have hul : (Cx.uv x).length ≤ 10 := by have := Cx.top_le9 x hx; rw [Cx.uv_len]; omega
    have hus : (str (Cx.uv x)).size ≤ 10 := by rw [str_size]; exact hul
    have HUS : RowKit.Hid (((str (Cx.uv x)).size : Int) = ((Cx.uv x).length : Nat)) := by rw [str_size]; exact Lib.hid rfl
    go_enter Try.func3, Try.ntmps3
    go_wp2_with (first
      | (go_at_call 12; refine (uvarint_any x hx _).mono ?_; rintro e w1 ⟨rfl, hb1⟩)
      | (go_at_call 13; ((with_reducible refine (get_back x hx s (by unfold maxLen; rw [ByteArray.size_append]; omega) _).mono ?_); rintro e w4 ⟨rfl, rfl⟩))
      | (go_at_call 13; ((with_reducible refine (getUvarint_any s hs _).mono ?_); rintro e w2 ⟨rfl, rfl⟩))
      | (go_at_call 14; refine (refGet_any s hs _).mono ?_; rintro e w3 ⟨rfl, hb3⟩)
      | (go_at_call 15; refine (refUvarint_any x hx _).mono ?_; rintro e w5 ⟨rfl, hb5⟩)
      | (go_at_call 11; refine (alive_ok _).mono ?_; rintro e w9 ⟨rfl, hb⟩))
    go_ret
    have z1 := hb1.size
    have z3 := hb3.size
    have z5 := hb5.size
    exact ⟨rfl, ((hb1.trans (hb3.mono z1)).trans (hb5.mono (by omega))).trans (hb.mono (by omega))⟩

set_option maxRecDepth 100000 in
theorem codecNumbers_lifted (os : Os) (started : os.Started) (H : Type) (enc : TypeId × Value → H) :
    ReturnsInHanded {} Try.checked os 3 .any (Rows.codecNumbersSpec.pre6 enc Try.prog Try.f3 Rows.codecNumbersRow.domain false) (Rows.codecNumbersSpec.post enc Try.prog Try.f3 false true false false) := by
  refine returnsInHanded_of_change (C := Try.checked) ownKn started (by kernel_rfl) Try.func3
    (ChangeSpec.witness6 (enc := enc) (C := Try.checked) false ⟨#[], #[.int .u64 0, .string ⟨#[]⟩], []⟩ 8 (by kernel_rfl) (by kernel_rfl) (by kernel_rfl) (by kernel_rfl)) ?_
  intro W base args ds gs before hval0 hW hcnd _
  have hval : ∀ (j : Nat) t v, Try.f3.params[j]? = some t → args[j]? = some v → Value.okWide Try.prog W .any base t v := hval0
  have hW' := hW
  obtain ⟨p, q, hA0, hV, rfl, hfz, hnd⟩ := hW
  have hA : DataW.TrodAll enc Try.prog W 0 (fun _ => true) true Try.f3.params.toList args.toList ds p := hA0
  rw [Try.params3] at hA hval
  obtain ⟨v0, vs0, d0, ds0, p0, q0, hargs, rfl, rfl, h0, r0⟩ := trodAll_cons hA
  obtain ⟨v1, vs1, d1, ds1, p1, q1, rfl, rfl, rfl, h1, r1⟩ := trodAll_cons r0
  obtain ⟨rfl, rfl, rfl⟩ := trodAll_nil r1
  obtain rfl : args = #[v0, v1] := by cases args; simp_all
  obtain ⟨rfl, rfl⟩ := trodVars_none hV
  have lt0 : ∀ x ∈ p0, x.block < W.heap.size := by obtain ⟨m, hm⟩ := h0; exact DataW.trod_lt m _ _ _ hm
  have lt1 : ∀ x ∈ p1, x.block < W.heap.size := by obtain ⟨m, hm⟩ := h1; exact DataW.trod_lt m _ _ _ hm
  have k0 := h0
  obtain ⟨z0, rfl, rfl, rfl, w0⟩ := open_int Try.underlying22 (hval 0 22 v0 rfl rfl) h0
  have b0 := bounds_u64 w0
  obtain ⟨a0, rfl⟩ := Int.eq_ofNat_of_zero_le b0.1
  have k1 := h1
  obtain ⟨a1, rfl, rfl, rfl, b1⟩ := open_string Try.underlying9 (hval 1 9 v1 rfl rfl) h1
  clear hA0 hval0
  refine (numbers_walk a0 a1 W (by omega) b1).mono fun e W' ⟨he, bel⟩ => ?_
  subst he
  exact ⟨_, rfl, _, _, _, [], _, [], hW', trodAll_mk1 (shut_bool Try.underlying4 _),
    (trodAll_cons_mk (Below.trod laidTry (by kernel_rfl) (of_decide_eq_true (by kernel_rfl)) k0 bel lt0) (trodAll_cons_mk (Below.trod laidTry (by kernel_rfl) (of_decide_eq_true (by kernel_rfl)) k1 bel lt1) trodAll_mk0)), rfl, bel.frame _, fun h => by cases h⟩

theorem codecNumbers_over : Rows.codecNumbersRow.holds Try.pinned (OpenSpec.ofChange Rows.codecNumbersSpec) :=
  OpenClaim.holds_of_wide 3 Try.f3 rfl rfl rfl rfl rfl rfl rfl ⟨rfl, rfl, rfl, rfl, rfl⟩ rfl rfl rfl rfl rfl (by kernel_rfl) Try.func3 (by kernel_rfl)
    (of_decide_eq_true (by kernel_rfl)) (by unfold Func.isWrapper; first | (rw [if_pos (by decide +kernel)]; kernel_rfl) | (rw [if_neg (by decide +kernel)]; exact ⟨rfl, rfl⟩))
    (fun os started H enc _ => codecNumbers_lifted os started H enc)

theorem codecNumbers_holds : Rows.CodecNumbersSaid := codecNumbers_over
#print axioms codecNumbers_holds
end Go.Proofs.Ytnailnlpjakcbaa
