/- For every answer CommandAnswers returns true and leaves its argument as it was: any answer's bytes are as the document says, and are read as that answer (answers of more than 100 pins, or of more than 4,000 bytes of text: the chapter's examples alone). No condition. -/
import Derived.Test.YtfbfdkjimoomlaaV1
namespace Go.Proofs.Ytfbfdkjimoomlaa
open Go.ChangeShapes Go.WideShapes Go.ChangeAt Go.RowKit
open Go.ChangeMaps (open_string shut_string)
set_option linter.unusedVariables false
set_option maxRecDepth 100000 in
set_option maxHeartbeats 4000000 in
theorem answers_walk (v : Value) (a : Cm.An) (w : World) (hv : ∃ (q : Option Addr) (c : Nat), v = ansv a (.slice q a.ps.length c) ∧ PsAt w q a.ps) (ha : Cm.anI a ∧ a.ps.length ≤ maxLen) : Calls Try.prog 5 #[v] w fun e w' => e = .returned (.bool true) ∧ Below w.heap.size w w' := by
  obtain ⟨q, c, rfl, hps⟩ := hv
  obtain ⟨hai, hal⟩ := ha
  have HP := Lib.hid hps
  have HI := Lib.hid hai
  have HX := Lib.hid (hb_new w (.cells (ansCells a (.slice q a.ps.length c)) 49))
  have HB : RowKit.Hid (Below w.heap.size w (w.alloc (.cells (ansCells a (.slice q a.ps.length c)) 49))) := Lib.hid (below_alloc w _)
  clear hps hai
  have m1 := Cm.mn_if a.tx
  have m2 := Cm.mn_if a.cn
  have m3 := Cm.mn_if a.cc
  have l1 := Cm.mn_le a.tx
  have l2 := Cm.mn_le a.cn
  have l3 := Cm.mn_le a.cc
  generalize e1 : Cm.mn a.tx = n1 at *
  generalize e2 : Cm.mn a.cn = n2 at *
  generalize e3 : Cm.mn a.cc = n3 at *
  obtain ⟨k0, k1, k2, k3, k4, k5, k6, k7, k8, k9, k10, k11, k12⟩ := ans_cells HX.out
  go_enter Try.func5, Try.ntmps5
  go_wp2
  go_loopw [3, 4] (fun n i wr => ∃ k : Nat, k ≤ a.ps.length ∧ k ≤ 101 ∧ n = .int .i64 ((n1 + n2 + n3 + Cm.psum (a.ps.take k) : Nat) : Int) ∧ i = .int .i64 k ∧ wr.heap[w.heap.size]? = some (.cells (ansCells a (.slice q a.ps.length c)) 49 (0, 0)) ∧ Below w.heap.size w wr) (fun _ i _ => 101 - (intOf i).toNat)
  case atStart =>
    have e0 : Cm.psum ([] : List Cm.Pn) = 0 := rfl
    exact ⟨0, Nat.zero_le _, by omega, by rw [List.take_zero, e0]; go_num, rfl, HX.out, HB.out⟩
  case round =>
    obtain ⟨k, hk, hk1, rfl, rfl, hX, hB⟩ := hrel
    clear k0 k1 k2 k3 k4 k5 k6 k7 k8 k9 k10 k11 k12
    obtain ⟨k0, k1, k2, k3, k4, k5, k6, k7, k8, k9, k10, k11, k12⟩ := ans_cells hX
    have HXr := Lib.hid hX
    have HBr := Lib.hid hB
    have hps := Cm.psum_le a.ps k
    clear hX hB HX HB
    by_cases hlt : k < a.ps.length
    · have hdl : decide ((k : Int) < a.ps.length) = true := by simp; omega
      by_cases h101 : k ≤ 100
      · have hd2 : decide ((k : Int) ≤ 100) = true := by simp; omega
        obtain ⟨b, o, rfl, hpc⟩ := HP.out k a.ps[k] (List.getElem?_eq_getElem hlt)
        obtain ⟨i0, i1, i2, i3⟩ := hpc.below HBr.out
        have hsn := Cm.psum_snoc a.ps k hlt
        have m4 := Cm.mn_if a.ps[k].p
        have l4 := Cm.mn_le a.ps[k].p
        generalize a.ps[k] = x at *
        generalize Cm.mn x.p = n4 at *
        generalize Cm.psum (a.ps.take k) = S at *
        go_wp2
        go_roundw
        case rel => exact ⟨k + 1, by omega, by omega, by rw [hsn]; go_num, by go_num, HXr.out, HBr.out⟩
        case measure => simp [intOf]; omega
      · have hd2 : decide ((k : Int) ≤ 100) = false := by simp; omega
        have hd3 : decide (100 < (a.ps.length : Int)) = true := by simp; omega
        go_wp2_with (go_at_call 7; ((with_reducible refine (alive_ok _).mono ?_); rintro e w1 ⟨rfl, hb1⟩))
        go_ret
        exact ⟨rfl, HBr.out.trans (hb1.mono HBr.out.size)⟩
    · obtain rfl : k = a.ps.length := by omega
      have hdl : decide ((a.ps.length : Int) < a.ps.length) = false := by simp
      rw [List.take_length] at *
      by_cases h100 : 100 < a.ps.length
      · have hd3 : decide (100 < (a.ps.length : Int)) = true := by simp; omega
        go_wp2_with (go_at_call 7; ((with_reducible refine (alive_ok _).mono ?_); rintro e w1 ⟨rfl, hb1⟩))
        go_ret
        exact ⟨rfl, HBr.out.trans (hb1.mono HBr.out.size)⟩
      · have hd3 : decide (100 < (a.ps.length : Int)) = false := by simp; omega
        by_cases h4 : 4000 < n1 + n2 + n3 + Cm.psum a.ps
        · have hd4 : decide (4000 < ((n1 + n2 + n3 + Cm.psum a.ps : Nat) : Int)) = true := by simp; omega
          go_wp2_with (go_at_call 7; ((with_reducible refine (alive_ok _).mono ?_); rintro e w1 ⟨rfl, hb1⟩))
          go_ret
          exact ⟨rfl, HBr.out.trans (hb1.mono HBr.out.size)⟩
        · have hd4 : decide (4000 < ((n1 + n2 + n3 + Cm.psum a.ps : Nat) : Int)) = false := by simp; omega
          obtain ⟨hok, hb⟩ := Cm.few_ok a HI.out (by omega) (by omega)
          have hA := answer_any (Cm.toldB a) hb
          rw [Cm.decA_toldB a hok] at hA
          simp only at hA
          have hT : ∀ (q : Option Addr) (c : Nat) (w : World), PsAt w q a.ps → Calls Try.prog 17 #[ansv a (.slice q a.ps.length c)] w fun e w' => e = .returned (.string (str (Cm.toldB a))) ∧ Below w.heap.size w w' := fun q c w hp => told_ans a q c w hp (by omega) hok hb
          have hR : ∀ (q : Option Addr) (c : Nat) (w : World), PsAt w q a.ps → Calls Try.prog 19 #[ansv a (.slice q a.ps.length c)] w fun e w' => e = .returned (.string (str (Cm.toldB a))) ∧ Below w.heap.size w w' := fun q c w hp => refTold_ans a q c w hp (by omega) hok hb
          have hS : ∀ (q q2 : Option Addr) (c c2 : Nat) (w : World), PsAt w q a.ps → PsAt w q2 a.ps → Calls Try.prog 20 #[ansv a (.slice q a.ps.length c), ansv a (.slice q2 a.ps.length c2)] w fun e w' => e = .returned (.bool true) ∧ Below w.heap.size w w' := fun q q2 c c2 w h1 h2 => same_any a q q2 c c2 w (by omega) h1 h2
          generalize str (Cm.toldB a) = s at hA hT hR
          have HA := Lib.hid hA
          have HT := Lib.hid hT
          have HR := Lib.hid hR
          have HS := Lib.hid hS
          have hz : w.heap.size < wr.heap.size := (Array.getElem?_eq_some_iff.1 HXr.out).1
          have HPr : RowKit.Hid (PsAt wr q a.ps) := Lib.hid (HP.out.below HBr.out)
          clear hA hT hR hS hok hb HI HP
          go_upto_region 9 with (go_at_call 17; ((with_reducible refine (HT.out _ _ _ HPr.out).mono ?_); rintro e w1 ⟨rfl, hb1⟩; have HB1 := Lib.hid hb1; clear hb1))
          clear k0 k1 k2 k3 k4 k5 k6 k7 k8 k9 k10 k11 k12
          have HX1 := Lib.hid (hb_below HXr.out HB1.out hz)
          have HBW1 : RowKit.Hid (Below w.heap.size w w1) := Lib.hid (HBr.out.trans (HB1.out.mono HBr.out.size))
          have HP1 : RowKit.Hid (PsAt w1 q a.ps) := Lib.hid (HPr.out.below HB1.out)
          have hz1 : w.heap.size < w1.heap.size := Nat.lt_of_lt_of_le hz HB1.out.size
          go_upto_region 10 with (go_at_call 18; ((with_reducible refine (HA.out _).mono ?_); rintro e w2 ⟨v2, rfl, ho2, hb2⟩; obtain ⟨q2, c2, rfl, hp2⟩ := ps_of_own ho2; have HP2 := Lib.hid hp2; have HB2 := Lib.hid hb2; clear hb2 ho2 hp2))
          have hz2 : w.heap.size < w2.heap.size := Nat.lt_of_lt_of_le hz1 HB2.out.size
          have HX3 := Lib.hid (hb_alloc (hb_below HX1.out HB2.out hz1) (.cells (ansCells a (.slice q2 a.ps.length c2)) 49))
          have HY3 := Lib.hid (hb_new w2 (.cells (ansCells a (.slice q2 a.ps.length c2)) 49))
          have HBW3 : RowKit.Hid (Below w.heap.size w (w2.alloc (.cells (ansCells a (.slice q2 a.ps.length c2)) 49))) := Lib.hid ((HBW1.out.trans (HB2.out.mono HBW1.out.size)).alloc (Nat.le_of_lt hz2) _)
          have HR1 : RowKit.Hid (PsAt (w2.alloc (.cells (ansCells a (.slice q2 a.ps.length c2)) 49)) q a.ps) := Lib.hid ((HP1.out.below HB2.out).below (below_alloc _ _))
          have HR2 : RowKit.Hid (PsAt (w2.alloc (.cells (ansCells a (.slice q2 a.ps.length c2)) 49)) q2 a.ps) := Lib.hid (HP2.out.below (below_alloc _ _))
          obtain ⟨k0, k1, k2, k3, k4, k5, k6, k7, k8, k9, k10, k11, k12⟩ := ans_cells HX3.out
          obtain ⟨j0, j1, j2, j3, j4, j5, j6, j7, j8, j9, j10, j11, j12⟩ := ans_cells HY3.out
          go_wp2_with (first
            | (go_at_call 10; ((with_reducible refine (no_any _ _).mono ?_); rintro e w' ⟨rfl, rfl⟩))
            | (go_at_call 19; ((with_reducible refine (HR.out _ _ _ HR1.out).mono ?_); rintro e w4 ⟨rfl, hb4⟩; have HB4 := Lib.hid hb4; have HX4 := Lib.hid (hb_below HX3.out hb4 (by simp; omega)); have HY4 := Lib.hid (hb_below HY3.out hb4 (by simp)); obtain ⟨n0, n1, n2, n3, n4, n5, n6, n7, n8, n9, n10, n11, n12⟩ := ans_cells HX4.out; obtain ⟨p0, p1, p2, p3, p4, p5, p6, p7, p8, p9, p10, p11, p12⟩ := ans_cells HY4.out; clear hb4))
            | (go_at_call 20; ((with_reducible refine (HS.out _ _ _ _ _ (HR1.out.below HB4.out) (HR2.out.below HB4.out)).mono ?_); rintro e w5 ⟨rfl, hb5⟩; have HB5 := Lib.hid hb5; clear hb5))
            | (go_at_call 7; ((with_reducible refine (alive_ok _).mono ?_); rintro e w6 ⟨rfl, hb6⟩)))
          go_ret
          exact ⟨rfl, ((HBW3.out.trans (HB4.out.mono HBW3.out.size)).trans (HB5.out.mono (Nat.le_trans HBW3.out.size HB4.out.size))).trans (hb6.mono (Nat.le_trans (Nat.le_trans HBW3.out.size HB4.out.size) HB5.out.size))⟩
set_option maxRecDepth 100000 in
theorem commandAnswers_lifted (os : Os) (started : os.Started) (H : Type) (enc : TypeId × Value → H) :
    ReturnsInHanded {} Try.checked os 5 .any (Rows.commandAnswersSpec.pre6 enc Try.prog Try.f5 Rows.commandAnswersRow.domain false) (Rows.commandAnswersSpec.post enc Try.prog Try.f5 false true false false) := by
  refine returnsInHanded_of_change (C := Try.checked) ownKn started (by kernel_rfl) Try.func5
    (ChangeSpec.witness6 (enc := enc) (C := Try.checked) false ⟨#[], #[.agg #[.int .i64 0, .int .i64 0, .int .i64 0, .int .i64 0, .string ⟨#[]⟩, .string ⟨#[]⟩, .slice none 0 0, .string ⟨#[]⟩, .bool false, .int .i64 0, .int .i64 0, .int .i64 0, .int .i64 0]], []⟩ 8 (by kernel_rfl) (by kernel_rfl) (by kernel_rfl) (by kernel_rfl)) ?_
  intro W base args ds gs before hval0 hW hcnd _
  have hval : ∀ (j : Nat) t v, Try.f5.params[j]? = some t → args[j]? = some v → Value.okWide Try.prog W .any base t v := hval0
  have hW' := hW
  obtain ⟨p, q, hA0, hV, rfl, hfz, hnd⟩ := hW
  have hA : DataW.TrodAll enc Try.prog W 0 (fun _ => true) true Try.f5.params.toList args.toList ds p := hA0
  rw [Try.params5] at hA hval
  obtain ⟨v0, vs0, d0, ds0, p0, q0, hargs, rfl, rfl, h0, r0⟩ := trodAll_cons hA
  obtain ⟨rfl, rfl, rfl⟩ := trodAll_nil r0
  obtain rfl : args = #[v0] := by cases args; simp_all
  obtain ⟨rfl, rfl⟩ := trodVars_none hV
  have lt0 : ∀ x ∈ p0, x.block < W.heap.size := by obtain ⟨m, hm⟩ := h0; exact DataW.trod_lt m _ _ _ hm
  have k0 := h0
  obtain ⟨a0, b0, c0⟩ := arg_ans (hval 0 49 v0 rfl rfl) h0
  clear hA0 hval0
  refine (answers_walk v0 a0 W b0 c0).mono fun e W' ⟨he, bel⟩ => ?_
  subst he
  exact ⟨_, rfl, _, _, _, [], _, [], hW', trodAll_mk1 (shut_bool Try.underlying4 _),
    (trodAll_cons_mk (Below.trod laidTry (by kernel_rfl) (of_decide_eq_true (by kernel_rfl)) k0 bel lt0) trodAll_mk0), rfl, bel.frame _, fun h => by cases h⟩

theorem commandAnswers_over : Rows.commandAnswersRow.holds Try.pinned (OpenSpec.ofChange Rows.commandAnswersSpec) :=
  OpenClaim.holds_of_wide 5 Try.f5 rfl rfl rfl rfl rfl rfl rfl ⟨rfl, rfl, rfl, rfl, rfl⟩ rfl rfl rfl rfl rfl (by kernel_rfl) Try.func5 (by kernel_rfl)
    (of_decide_eq_true (by kernel_rfl)) (by unfold Func.isWrapper; first | (rw [if_pos (by decide +kernel)]; kernel_rfl) | (rw [if_neg (by decide +kernel)]; exact ⟨rfl, rfl⟩))
    (fun os started H enc _ => commandAnswers_lifted os started H enc)

theorem commandAnswers_holds : Rows.CommandAnswersSaid := commandAnswers_over
#print axioms commandAnswers_holds
end Go.Proofs.Ytfbfdkjimoomlaa
