/- For every text CommandReads returns true and leaves its argument as it was: which answer any bytes are, or that they are none, is as the document says; what is read has just these bytes (texts of more than 4,000 bytes: the chapter's examples alone). No condition. -/
import Derived.Test.YtfbfdkjimoomlaaU9
namespace Go.Proofs.Ytfbfdkjimoomlaa
open Go.ChangeShapes Go.WideShapes Go.ChangeAt Go.RowKit
open Go.ChangeMaps (open_string shut_string)
set_option linter.unusedVariables false
set_option maxRecDepth 100000 in
set_option maxHeartbeats 4000000 in
theorem reads_walk (s : ByteArray) (w : World) : Calls Try.prog 6 #[.string s] w fun e w' => e = .returned (.bool true) ∧ Below w.heap.size w w' := by
  by_cases h4 : 4000 < s.size
  · have d1 : decide (4000 < (s.size : Int)) = true := by simp; omega
    go_enter Try.func6, Try.ntmps6
    go_wp2_with (go_at_call 7; ((with_reducible refine (alive_ok _).mono ?_); rintro e w1 ⟨rfl, hb1⟩))
    go_ret
    exact ⟨rfl, hb1⟩
  · have d1 : decide (4000 < (s.size : Int)) = false := by simp; omega
    have hlen : s.data.toList.length ≤ 100000 := by simp; omega
    have hA := answer_any s.data.toList hlen
    have hB := refAnswer_any s.data.toList hlen
    rw [str_of] at hA hB
    by_cases hd : stDone (Cm.ra s.data.toList).s14 = true ∧ (Cx.spU (Cm.ra s.data.toList).s9).1 ≤ 1
    · have e : Cm.decA s.data.toList = (Cm.rawA s.data.toList, 0) := if_pos hd
      have hbk := Cm.decA_back s.data.toList hd.1 hd.2
      obtain ⟨hok, hps⟩ := Cm.rawA_ok s.data.toList (by simp; omega) hbk
      rw [e] at hA hB
      simp only at hA hB
      generalize Cm.rawA s.data.toList = a at hA hB hok hps hbk
      have hT : ∀ (q : Option Addr) (c : Nat) (w : World), PsAt w q a.ps → Calls Try.prog 17 #[ansv a (.slice q a.ps.length c)] w fun e w' => e = .returned (.string s) ∧ Below w.heap.size w w' := fun q c w hp => by
        have h := told_ans a q c w hp (by omega) hok (by rw [← hbk]; exact hlen)
        rw [← hbk, str_of] at h
        exact h
      have hS : ∀ (q q2 : Option Addr) (c c2 : Nat) (w : World), PsAt w q a.ps → PsAt w q2 a.ps → Calls Try.prog 20 #[ansv a (.slice q a.ps.length c), ansv a (.slice q2 a.ps.length c2)] w fun e w' => e = .returned (.bool true) ∧ Below w.heap.size w w' := fun q q2 c c2 w h1 h2 => same_any a q q2 c c2 w (by omega) h1 h2
      have HA := Lib.hid hA
      have HB := Lib.hid hB
      have HT := Lib.hid hT
      have HS := Lib.hid hS
      clear hA hB hT hS hbk hok hps hd e h4 hlen
      go_enter Try.func6, Try.ntmps6
      go_upto_region 4 with (go_at_call 18; ((with_reducible refine (HA.out _).mono ?_); rintro e w1 ⟨v1, rfl, ho1, hb1⟩; obtain ⟨q1, c1, rfl, hp1⟩ := ps_of_own ho1; have HP1 := Lib.hid hp1; have HB1 := Lib.hid hb1; clear hb1 ho1 hp1))
      have HC1 := Lib.hid (hb_new w1 (.cells (ansCells a (.slice q1 a.ps.length c1)) 49))
      have HBW1 : RowKit.Hid (Below w.heap.size w (w1.alloc (.cells (ansCells a (.slice q1 a.ps.length c1)) 49))) := Lib.hid (HB1.out.alloc HB1.out.size _)
      have HQ1 : RowKit.Hid (PsAt (w1.alloc (.cells (ansCells a (.slice q1 a.ps.length c1)) 49)) q1 a.ps) := Lib.hid (HP1.out.below (below_alloc _ _))
      go_upto_region 5 with (go_at_call 21; ((with_reducible refine (HB.out _).mono ?_); rintro e w2 ⟨v2, rfl, ho2, hb2⟩; obtain ⟨q2, c2, rfl, hp2⟩ := ps_of_own ho2; have HP2 := Lib.hid hp2; have HB2 := Lib.hid hb2; clear hb2 ho2 hp2))
      have hz : w1.heap.size < w2.heap.size := Nat.lt_of_lt_of_le (by simp) HB2.out.size
      have HC2 := Lib.hid (hb_alloc (hb_below HC1.out HB2.out (by simp)) (.cells (ansCells a (.slice q2 a.ps.length c2)) 49))
      have HD2 := Lib.hid (hb_new w2 (.cells (ansCells a (.slice q2 a.ps.length c2)) 49))
      have HBW2 : RowKit.Hid (Below w.heap.size w (w2.alloc (.cells (ansCells a (.slice q2 a.ps.length c2)) 49))) := Lib.hid ((HBW1.out.trans (HB2.out.mono HBW1.out.size)).alloc (Nat.le_trans HB1.out.size (Nat.le_of_lt hz)) _)
      have HR1 : RowKit.Hid (PsAt (w2.alloc (.cells (ansCells a (.slice q2 a.ps.length c2)) 49)) q1 a.ps) := Lib.hid ((HQ1.out.below HB2.out).below (below_alloc _ _))
      have HR2 : RowKit.Hid (PsAt (w2.alloc (.cells (ansCells a (.slice q2 a.ps.length c2)) 49)) q2 a.ps) := Lib.hid (HP2.out.below (below_alloc _ _))
      obtain ⟨k0, k1, k2, k3, k4, k5, k6, k7, k8, k9, k10, k11, k12⟩ := ans_cells HC2.out
      obtain ⟨j0, j1, j2, j3, j4, j5, j6, j7, j8, j9, j10, j11, j12⟩ := ans_cells HD2.out
      go_wp2_with (first
        | (go_at_call 10; ((with_reducible refine (no_any _ _).mono ?_); rintro e w' ⟨rfl, rfl⟩))
        | (go_at_call 20; ((with_reducible refine (HS.out _ _ _ _ _ HR1.out HR2.out).mono ?_); rintro e w3 ⟨rfl, hb3⟩; have HB3 := Lib.hid hb3; have HC3 := Lib.hid (hb_below HC2.out hb3 (by simp; omega)); obtain ⟨n0, n1, n2, n3, n4, n5, n6, n7, n8, n9, n10, n11, n12⟩ := ans_cells HC3.out; clear hb3))
        | (go_at_call 17; ((with_reducible refine (HT.out _ _ _ (HR1.out.below HB3.out)).mono ?_); rintro e w4 ⟨rfl, hb4⟩; have HB4 := Lib.hid hb4; clear hb4))
        | (go_at_call 7; ((with_reducible refine (alive_ok _).mono ?_); rintro e w5 ⟨rfl, hb5⟩)))
      go_ret
      exact ⟨rfl, ((HBW2.out.trans (HB3.out.mono HBW2.out.size)).trans (HB4.out.mono (Nat.le_trans HBW2.out.size HB3.out.size))).trans (hb5.mono (Nat.le_trans (Nat.le_trans HBW2.out.size HB3.out.size) HB4.out.size))⟩
    · have e : Cm.decA s.data.toList = (Cm.noAn, 8) := if_neg hd
      obtain ⟨a, ha⟩ : ∃ a, a = Cm.noAn := ⟨_, rfl⟩
      rw [← ha] at e
      have hps : a.ps.length ≤ 1000000 := by rw [ha]; decide
      rw [e] at hA hB
      simp only at hA hB
      clear ha
      have hS : ∀ (q q2 : Option Addr) (c c2 : Nat) (w : World), PsAt w q a.ps → PsAt w q2 a.ps → Calls Try.prog 20 #[ansv a (.slice q a.ps.length c), ansv a (.slice q2 a.ps.length c2)] w fun e w' => e = .returned (.bool true) ∧ Below w.heap.size w w' := fun q q2 c c2 w h1 h2 => same_any a q q2 c c2 w hps h1 h2
      have HA := Lib.hid hA
      have HB := Lib.hid hB
      have HS := Lib.hid hS
      clear hA hB hS hps hd e h4 hlen
      go_enter Try.func6, Try.ntmps6
      go_upto_region 4 with (go_at_call 18; ((with_reducible refine (HA.out _).mono ?_); rintro e w1 ⟨v1, rfl, ho1, hb1⟩; obtain ⟨q1, c1, rfl, hp1⟩ := ps_of_own ho1; have HP1 := Lib.hid hp1; have HB1 := Lib.hid hb1; clear hb1 ho1 hp1))
      have HC1 := Lib.hid (hb_new w1 (.cells (ansCells a (.slice q1 a.ps.length c1)) 49))
      have HBW1 : RowKit.Hid (Below w.heap.size w (w1.alloc (.cells (ansCells a (.slice q1 a.ps.length c1)) 49))) := Lib.hid (HB1.out.alloc HB1.out.size _)
      have HQ1 : RowKit.Hid (PsAt (w1.alloc (.cells (ansCells a (.slice q1 a.ps.length c1)) 49)) q1 a.ps) := Lib.hid (HP1.out.below (below_alloc _ _))
      go_upto_region 5 with (go_at_call 21; ((with_reducible refine (HB.out _).mono ?_); rintro e w2 ⟨v2, rfl, ho2, hb2⟩; obtain ⟨q2, c2, rfl, hp2⟩ := ps_of_own ho2; have HP2 := Lib.hid hp2; have HB2 := Lib.hid hb2; clear hb2 ho2 hp2))
      have hz : w1.heap.size < w2.heap.size := Nat.lt_of_lt_of_le (by simp) HB2.out.size
      have HC2 := Lib.hid (hb_alloc (hb_below HC1.out HB2.out (by simp)) (.cells (ansCells a (.slice q2 a.ps.length c2)) 49))
      have HD2 := Lib.hid (hb_new w2 (.cells (ansCells a (.slice q2 a.ps.length c2)) 49))
      have HBW2 : RowKit.Hid (Below w.heap.size w (w2.alloc (.cells (ansCells a (.slice q2 a.ps.length c2)) 49))) := Lib.hid ((HBW1.out.trans (HB2.out.mono HBW1.out.size)).alloc (Nat.le_trans HB1.out.size (Nat.le_of_lt hz)) _)
      have HR1 : RowKit.Hid (PsAt (w2.alloc (.cells (ansCells a (.slice q2 a.ps.length c2)) 49)) q1 a.ps) := Lib.hid ((HQ1.out.below HB2.out).below (below_alloc _ _))
      have HR2 : RowKit.Hid (PsAt (w2.alloc (.cells (ansCells a (.slice q2 a.ps.length c2)) 49)) q2 a.ps) := Lib.hid (HP2.out.below (below_alloc _ _))
      obtain ⟨k0, k1, k2, k3, k4, k5, k6, k7, k8, k9, k10, k11, k12⟩ := ans_cells HC2.out
      obtain ⟨j0, j1, j2, j3, j4, j5, j6, j7, j8, j9, j10, j11, j12⟩ := ans_cells HD2.out
      go_wp2_with (first
        | (go_at_call 10; ((with_reducible refine (no_any _ _).mono ?_); rintro e w' ⟨rfl, rfl⟩))
        | (go_at_call 20; ((with_reducible refine (HS.out _ _ _ _ _ HR1.out HR2.out).mono ?_); rintro e w3 ⟨rfl, hb3⟩; have HB3 := Lib.hid hb3; clear hb3))
        | (go_at_call 7; ((with_reducible refine (alive_ok _).mono ?_); rintro e w5 ⟨rfl, hb5⟩)))
      go_ret
      exact ⟨rfl, (HBW2.out.trans (HB3.out.mono HBW2.out.size)).trans (hb5.mono (Nat.le_trans HBW2.out.size HB3.out.size))⟩
set_option maxRecDepth 100000 in
theorem commandReads_lifted (os : Os) (started : os.Started) (H : Type) (enc : TypeId × Value → H) :
    ReturnsInHanded {} Try.checked os 6 .any (Rows.commandReadsSpec.pre6 enc Try.prog Try.f6 Rows.commandReadsRow.domain false) (Rows.commandReadsSpec.post enc Try.prog Try.f6 false true false false) := by
  refine returnsInHanded_of_change (C := Try.checked) ownKn started (by kernel_rfl) Try.func6
    (ChangeSpec.witness6 (enc := enc) (C := Try.checked) false ⟨#[], #[.string ⟨#[]⟩], []⟩ 8 (by kernel_rfl) (by kernel_rfl) (by kernel_rfl) (by kernel_rfl)) ?_
  intro W base args ds gs before hval0 hW hcnd _
  have hval : ∀ (j : Nat) t v, Try.f6.params[j]? = some t → args[j]? = some v → Value.okWide Try.prog W .any base t v := hval0
  have hW' := hW
  obtain ⟨p, q, hA0, hV, rfl, hfz, hnd⟩ := hW
  have hA : DataW.TrodAll enc Try.prog W 0 (fun _ => true) true Try.f6.params.toList args.toList ds p := hA0
  rw [Try.params6] at hA hval
  obtain ⟨v0, vs0, d0, ds0, p0, q0, hargs, rfl, rfl, h0, r0⟩ := trodAll_cons hA
  obtain ⟨rfl, rfl, rfl⟩ := trodAll_nil r0
  obtain rfl : args = #[v0] := by cases args; simp_all
  obtain ⟨rfl, rfl⟩ := trodVars_none hV
  have lt0 : ∀ x ∈ p0, x.block < W.heap.size := by obtain ⟨m, hm⟩ := h0; exact DataW.trod_lt m _ _ _ hm
  have k0 := h0
  obtain ⟨a0, rfl, rfl, rfl, b0⟩ := open_string Try.underlying9 (hval 0 9 v0 rfl rfl) h0
  clear hA0 hval0
  refine (reads_walk a0 W ).mono fun e W' ⟨he, bel⟩ => ?_
  subst he
  exact ⟨_, rfl, _, _, _, [], _, [], hW', trodAll_mk1 (shut_bool Try.underlying4 _),
    (trodAll_cons_mk (Below.trod laidTry (by kernel_rfl) (of_decide_eq_true (by kernel_rfl)) k0 bel lt0) trodAll_mk0), rfl, bel.frame _, fun h => by cases h⟩

theorem commandReads_over : Rows.commandReadsRow.holds Try.pinned (OpenSpec.ofChange Rows.commandReadsSpec) :=
  OpenClaim.holds_of_wide 6 Try.f6 rfl rfl rfl rfl rfl rfl rfl ⟨rfl, rfl, rfl, rfl, rfl⟩ rfl rfl rfl rfl rfl (by kernel_rfl) Try.func6 (by kernel_rfl)
    (of_decide_eq_true (by kernel_rfl)) (by unfold Func.isWrapper; first | (rw [if_pos (by decide +kernel)]; kernel_rfl) | (rw [if_neg (by decide +kernel)]; exact ⟨rfl, rfl⟩))
    (fun os started H enc _ => commandReads_lifted os started H enc)

theorem commandReads_holds : Rows.CommandReadsSaid := commandReads_over
#print axioms commandReads_holds
end Go.Proofs.Ytfbfdkjimoomlaa
