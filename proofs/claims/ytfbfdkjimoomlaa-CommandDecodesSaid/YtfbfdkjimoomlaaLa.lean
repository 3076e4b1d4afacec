/- For every text CommandDecodes returns true and leaves its argument as it was: which command any bytes are, or that they are none, is as the document says; what is read has just these bytes (texts of more than 4,000 bytes: the chapter's examples alone). No condition. -/
import Derived.Test.YtfbfdkjimoomlaaT2
namespace Go.Proofs.Ytfbfdkjimoomlaa
open Go.ChangeShapes Go.WideShapes Go.ChangeAt Go.RowKit
open Go.ChangeMaps (open_string shut_string)
set_option linter.unusedVariables false
theorem cmd_at {W : World} {b : Nat} {c : Cm.Cmd} (h : W.heap[b]? = some (.cells (cmdCells c) 27 (0, 0))) :
    W.cell? ⟨b, 0, none⟩ = some (.int .i64 c.k) ∧ W.cell? ⟨b, 1, none⟩ = some (.string c.a.p) ∧ W.cell? ⟨b, 2, none⟩ = some (.int .i64 c.a.v.a) ∧ W.cell? ⟨b, 3, none⟩ = some (.int .i64 c.a.v.b) ∧ W.cell? ⟨b, 4, none⟩ = some (.int .i64 c.a.v.c) ∧
    W.cell? ⟨b, 5, none⟩ = some (.string c.b.p) ∧ W.cell? ⟨b, 6, none⟩ = some (.int .i64 c.b.v.a) ∧ W.cell? ⟨b, 7, none⟩ = some (.int .i64 c.b.v.b) ∧ W.cell? ⟨b, 8, none⟩ = some (.int .i64 c.b.v.c) ∧ W.cell? ⟨b, 9, none⟩ = some (.string c.s) := cmd_cells h
set_option maxRecDepth 100000 in
set_option maxHeartbeats 4000000 in
theorem decodes_walk (s : ByteArray) (w : World) : Calls Try.prog 4 #[.string s] w fun e w' => e = .returned (.bool true) ∧ Below w.heap.size w w' := by
  by_cases h4 : 4000 < s.size
  · have d1 : decide (4000 < (s.size : Int)) = true := by simp; omega
    go_enter Try.func4, Try.ntmps4
    go_wp2_with (go_at_call 7; ((with_reducible refine (alive_ok _).mono ?_); rintro e w1 ⟨rfl, hb1⟩))
    go_ret
    exact ⟨rfl, hb1⟩
  · have d1 : decide (4000 < (s.size : Int)) = false := by simp; omega
    have hlen : s.data.toList.length ≤ 1000000 := by simp; omega
    have hA := decode_any s.data.toList hlen
    have hB := refDecode_any s.data.toList hlen
    rw [str_of, Cm.dec_both Cm.fine_wr Cm.fine_sm] at hA
    rw [str_of] at hB
    have hcs := Cm.dec_cases Cm.fine_sm s.data.toList
    clear hlen
    rcases hcs with ⟨c, hc, hl, e⟩ | ⟨_, e⟩
    · rw [e] at hA hB
      have hE := cmdEncode_any c
      rw [Cm.encS_yes (Cm.right_yes hc), ← hl, str_of] at hE
      have HA := Lib.hid hA
      have HB := Lib.hid hB
      have HE := Lib.hid hE
      have qn := neC c
      clear hA hB hE hc hl e h4
      go_enter Try.func4, Try.ntmps4
      go_upto_region 4 with (go_at_call 15; ((with_reducible refine (HA.out _).mono ?_); rintro e w1 ⟨rfl, hb1⟩; have HB1 := Lib.hid hb1; clear hb1))
      have HC1 := Lib.hid (hb_new w1 (.cells (cmdCells c) 27))
      have HBW1 : RowKit.Hid (Below w.heap.size w (w1.alloc (.cells (cmdCells c) 27))) := Lib.hid (HB1.out.alloc HB1.out.size _)
      go_upto_region 5 with (go_at_call 16; ((with_reducible refine (HB.out _).mono ?_); rintro e w2 ⟨rfl, hb2⟩; have HB2 := Lib.hid hb2; clear hb2))
      have hz : w1.heap.size < w2.heap.size := Nat.lt_of_lt_of_le (by simp) HB2.out.size
      have HC2 := Lib.hid (hb_alloc (hb_below HC1.out HB2.out (by simp)) (.cells (cmdCells c) 27))
      have HD2 := Lib.hid (hb_new w2 (.cells (cmdCells c) 27))
      have HBW2 : RowKit.Hid (Below w.heap.size w (w2.alloc (.cells (cmdCells c) 27))) := Lib.hid ((HBW1.out.trans (HB2.out.mono HBW1.out.size)).alloc (Nat.le_trans HB1.out.size (Nat.le_of_lt hz)) _)
      obtain ⟨k0, k1, k2, k3, k4, k5, k6, k7, k8, k9⟩ := cmd_at HC2.out
      obtain ⟨j0, j1, j2, j3, j4, j5, j6, j7, j8, j9⟩ := cmd_at HD2.out
      go_wp2_with (first
        | (go_at_call 10; ((with_reducible refine (no_any _ _).mono ?_); rintro e w' ⟨rfl, rfl⟩))
        | (go_at_call 8; ((with_reducible refine (HE.out _).mono ?_); rintro e w3 ⟨rfl, hb3⟩; have HB3 := Lib.hid hb3; clear hb3))
        | (go_at_call 7; ((with_reducible refine (alive_ok _).mono ?_); rintro e w4 ⟨rfl, hb4⟩)))
      go_ret
      exact ⟨rfl, (HBW2.out.trans (HB3.out.mono HBW2.out.size)).trans (hb4.mono (Nat.le_trans HBW2.out.size HB3.out.size))⟩
    · rw [e] at hA hB
      have HA := Lib.hid hA
      have HB := Lib.hid hB
      have qn := neC Cm.noCmd
      clear hA hB e h4
      go_enter Try.func4, Try.ntmps4
      go_upto_region 4 with (go_at_call 15; ((with_reducible refine (HA.out _).mono ?_); rintro e w1 ⟨rfl, hb1⟩; have HB1 := Lib.hid hb1; clear hb1))
      have HC1 := Lib.hid (hb_new w1 (.cells (cmdCells Cm.noCmd) 27))
      have HBW1 : RowKit.Hid (Below w.heap.size w (w1.alloc (.cells (cmdCells Cm.noCmd) 27))) := Lib.hid (HB1.out.alloc HB1.out.size _)
      go_upto_region 5 with (go_at_call 16; ((with_reducible refine (HB.out _).mono ?_); rintro e w2 ⟨rfl, hb2⟩; have HB2 := Lib.hid hb2; clear hb2))
      have hz : w1.heap.size < w2.heap.size := Nat.lt_of_lt_of_le (by simp) HB2.out.size
      have HC2 := Lib.hid (hb_alloc (hb_below HC1.out HB2.out (by simp)) (.cells (cmdCells Cm.noCmd) 27))
      have HD2 := Lib.hid (hb_new w2 (.cells (cmdCells Cm.noCmd) 27))
      have HBW2 : RowKit.Hid (Below w.heap.size w (w2.alloc (.cells (cmdCells Cm.noCmd) 27))) := Lib.hid ((HBW1.out.trans (HB2.out.mono HBW1.out.size)).alloc (Nat.le_trans HB1.out.size (Nat.le_of_lt hz)) _)
      obtain ⟨k0, k1, k2, k3, k4, k5, k6, k7, k8, k9⟩ := cmd_at HC2.out
      obtain ⟨j0, j1, j2, j3, j4, j5, j6, j7, j8, j9⟩ := cmd_at HD2.out
      go_wp2_with (first
        | (go_at_call 10; ((with_reducible refine (no_any _ _).mono ?_); rintro e w' ⟨rfl, rfl⟩))
        | (go_at_call 7; ((with_reducible refine (alive_ok _).mono ?_); rintro e w4 ⟨rfl, hb4⟩)))
      go_ret
      exact ⟨rfl, HBW2.out.trans (hb4.mono HBW2.out.size)⟩
set_option maxRecDepth 100000 in
theorem commandDecodes_lifted (os : Os) (started : os.Started) (H : Type) (enc : TypeId × Value → H) :
    ReturnsInHanded {} Try.checked os 4 .any (Rows.commandDecodesSpec.pre6 enc Try.prog Try.f4 Rows.commandDecodesRow.domain false) (Rows.commandDecodesSpec.post enc Try.prog Try.f4 false true false false) := by
  refine returnsInHanded_of_change (C := Try.checked) ownKn started (by kernel_rfl) Try.func4
    (ChangeSpec.witness6 (enc := enc) (C := Try.checked) false ⟨#[], #[.string ⟨#[]⟩], []⟩ 8 (by kernel_rfl) (by kernel_rfl) (by kernel_rfl) (by kernel_rfl)) ?_
  intro W base args ds gs before hval0 hW hcnd _
  have hval : ∀ (j : Nat) t v, Try.f4.params[j]? = some t → args[j]? = some v → Value.okWide Try.prog W .any base t v := hval0
  have hW' := hW
  obtain ⟨p, q, hA0, hV, rfl, hfz, hnd⟩ := hW
  have hA : DataW.TrodAll enc Try.prog W 0 (fun _ => true) true Try.f4.params.toList args.toList ds p := hA0
  rw [Try.params4] at hA hval
  obtain ⟨v0, vs0, d0, ds0, p0, q0, hargs, rfl, rfl, h0, r0⟩ := trodAll_cons hA
  obtain ⟨rfl, rfl, rfl⟩ := trodAll_nil r0
  obtain rfl : args = #[v0] := by cases args; simp_all
  obtain ⟨rfl, rfl⟩ := trodVars_none hV
  have lt0 : ∀ x ∈ p0, x.block < W.heap.size := by obtain ⟨m, hm⟩ := h0; exact DataW.trod_lt m _ _ _ hm
  have k0 := h0
  obtain ⟨a0, rfl, rfl, rfl, b0⟩ := open_string Try.underlying9 (hval 0 9 v0 rfl rfl) h0
  clear hA0 hval0
  refine (decodes_walk a0 W ).mono fun e W' ⟨he, bel⟩ => ?_
  subst he
  exact ⟨_, rfl, _, _, _, [], _, [], hW', trodAll_mk1 (shut_bool Try.underlying4 _),
    (trodAll_cons_mk (Below.trod laidTry (by kernel_rfl) (of_decide_eq_true (by kernel_rfl)) k0 bel lt0) trodAll_mk0), rfl, bel.frame _, fun h => by cases h⟩

theorem commandDecodes_over : Rows.commandDecodesRow.holds Try.pinned (OpenSpec.ofChange Rows.commandDecodesSpec) :=
  OpenClaim.holds_of_wide 4 Try.f4 rfl rfl rfl rfl rfl rfl rfl ⟨rfl, rfl, rfl, rfl, rfl⟩ rfl rfl rfl rfl rfl (by kernel_rfl) Try.func4 (by kernel_rfl)
    (of_decide_eq_true (by kernel_rfl)) (by unfold Func.isWrapper; first | (rw [if_pos (by decide +kernel)]; kernel_rfl) | (rw [if_neg (by decide +kernel)]; exact ⟨rfl, rfl⟩))
    (fun os started H enc _ => commandDecodes_lifted os started H enc)

theorem commandDecodes_holds : Rows.CommandDecodesSaid := commandDecodes_over
#print axioms commandDecodes_holds
end Go.Proofs.Ytfbfdkjimoomlaa
