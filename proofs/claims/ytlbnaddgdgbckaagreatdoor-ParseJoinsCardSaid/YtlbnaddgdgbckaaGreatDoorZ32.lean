/- Texts in a row: Qb Qc. -/
import Derived.Test.YtlbnaddgdgbckaaGreatDoorZ31
/- The readers of types, aliases, values, exports. -/
namespace Go.Proofs.YtlbnaddgdgbckaaGreatDoor
open Go.RowKit
set_option linter.unusedSimpArgs false
set_option linter.unusedVariables false
set_option maxRecDepth 100000 in
set_option maxHeartbeats 4000000 in
theorem several_con (r E : Nat) (bt : ByteArray) (one : Ts → Res (ByteArray × List Tm)) (w : World) (ts : Ts) (hR : Rd r E w ts) (hm : Mono one)
    (HC : OneG ConV r E one 98 #[rp r] w) :
    Calls Tryz.prog 97 #[rp r, .string bt, .func (.func 98) #[rp r] #[]] w (Got r E (RoV conK) w (sevP E bt one ts)) := by
  have HC : RowKit.Hid (∀ W ts, Rg r w W → Rd r E W ts → Calls Tryz.prog 98 #[rp r] W (Got r E ConV W (one ts))) := Lib.hid HC
  have HR := Lib.hid hR
  have hrl := hR.lt
  have hfew := hR.few
  have HM := Lib.hid hm
  obtain ⟨S, hS⟩ : ∃ S, S = sevP E bt one ts := ⟨_, rfl⟩
  have HS := Lib.hid hS
  rw [← hS]
  unfold sevP at HS
  clear hR hS hm
  go_enter Tryz.func97, Tryz.ntmps97
  go_wp2_with (first | (go_at_call 98; (with_reducible refine (HC.out _ _ (Rg.refl _ _) HR.out).mono ?_); rintro e w1 h1; rcases h1.step HS.out with ⟨v, a, ts1, rfl, hV, hR1, hg1, hS1, hx1⟩ | ⟨y, rfl, hGE, hS1⟩; (obtain ⟨q1, l1, c1, rfl, hn1, hV1, hl1⟩ := hV.shape; have HV1 := Lib.hid hV1; clear hV1; have HR1 := Lib.hid hR1; have HG1 := Lib.hid hg1; have HS1 := Lib.hid hS1; have HX1 := Lib.hid hx1; clear hR1 hg1 hS1 hx1)))
  all_goals first | exact ⟨rfl, hGE, rfl⟩ | exact ⟨rfl, hGE, by rw [hS1]⟩ | skip
  go_loopw [7] (fun v wr => ∃ (ts' : Ts) (acc : List (ByteArray × List Tm)), S = sevL E bt one ts' acc ∧ acc.length + ts'.length ≤ 6001 ∧ Rg r w wr ∧ Rd r E wr ts' ∧ RowG conK w.heap.size wr v acc) (fun _ wr => left r wr)
  case atStart =>
    have hlen : ts1.length ≤ ts.length := HM.out _ _ _ HX1.out
    exact ⟨ts1, [a], HS1.out, by simp; omega, HG1.out.alloc _, HR1.out.alloc _, RowG.one (K := conK) (cs := [.string a.1, .slice q1 l1 c1]) ⟨_, rfl, hn1, HV1.out, hl1⟩ HG1.out.size _ rfl⟩
  case round =>
    obtain ⟨ts', acc, hT, hbd, hg, hRd, hrow⟩ := hrel
    rw [sevL_step HM.out] at hT
    have hz := hg.size
    obtain ⟨aq, ac, rfl⟩ := hrow.shape
    have HT := Lib.hid hT
    have HGr := Lib.hid hg
    have HRr := Lib.hid hRd
    have HROW := Lib.hid hrow
    have HK := Lib.hid (fun W hW => skipSign_any r E bt ts' W hW)
    clear hT hg hRd hrow
    cases hB : isB 8 bt ts' with
    | false =>
      have HT2 := HT.out
      rw [hB, if_neg (by decide)] at HT2
      rw [hB] at HK
      subst HT2
      go_wp2_with (go_at_call 46; (with_reducible refine (HK.out _ HRr.out).mono ?_); rintro e w2 ⟨rfl, hg, hr⟩; have HG2 := Lib.hid (HGr.out.trans hg); have HGs := Lib.hid hg; have HR2 := Lib.hid hr; clear hg hr)
      refine bodyPost_ret (v := .slice aq acc.length ac) (by simp [results, Tryz.results97, go_sem]) rfl ⟨HG2.out, ⟨_, rfl, HROW.out.move fun b hb hl => HGs.out.same hl (by omega), by show acc.length ≤ 7000; omega⟩, HR2.out⟩
    | true =>
      have HT2 := HT.out
      rw [hB, if_pos rfl] at HT2
      rw [hB] at HK
      have HT3 := Lib.hid HT2
      have hpos := isB_pos (by decide) hB
      have hleft := HRr.out.left
      clear HT HT2 hB
      go_wp2_with (first
        | (go_at_call 46; (with_reducible refine (HK.out _ HRr.out).mono ?_); rintro e w2 ⟨rfl, hg, hr⟩; have HG2 := Lib.hid (HGr.out.trans hg); have HGs := Lib.hid hg; have HR2 : RowKit.Hid (Rd r E w2 ts'.tail) := Lib.hid hr; clear hg hr)
        | (go_at_call 98; (with_reducible refine (HC.out _ _ HG2.out HR2.out).mono ?_); rintro e w3 h3; rcases h3.step HT3.out with ⟨v, a3, ts3, rfl, hV, hR3, hg3, hS3, hx3⟩ | ⟨y, rfl, hGE, hS3⟩; (obtain ⟨q3, l3, c3, rfl, hn3, hV3, hl3⟩ := hV.shape; have HV3 := Lib.hid hV3; clear hV3; have HR3 := Lib.hid hR3; have HG3 := Lib.hid (HG2.out.trans hg3); have HGt := Lib.hid (HGs.out.trans hg3); have HS3 := Lib.hid hS3; have HX3 := Lib.hid hx3; clear hR3 hg3 hS3 hx3))
        | (at_builtin; refine (fun h : True → _ => h trivial) ?_))
      all_goals first | exact ⟨rfl, HG2.out.trans hGE, rfl⟩ | exact ⟨rfl, HG2.out.trans hGE, by rw [hS3]⟩ | skip
      intro _
      have hs3 := HGt.out.size
      obtain ⟨v', w', hrun, hrow', hgr, hblk⟩ := RowG.append (K := conK) (ms := [a3]) (wq := w3.alloc (.cells #[.string a3.1, .slice q3 l3 c3] 69)) HROW.out hz (by simp; omega)
        (fun b h1 h2 => by rw [Below.heap_alloc _ _ _ (by omega)]; exact HGt.out.same h2 (by omega)) (g := w3.heap.size) (o := 0) (cc := 1)
        (fun i x hx => by
          match i, hx with
          | 0, hx =>
            obtain rfl : a3 = x := by simpa using hx
            refine ⟨[.string a3.1, .slice q3 l3 c3], fun j u hu => ?_, _, rfl, hn3, HV3.out.move fun b hb hl => ⟨by have := HGs.out.size; unfold New at hb; omega, Below.heap_alloc _ _ _ hl⟩, hl3⟩
            have e : 0 + 0 * conK.size + j = j := by omega
            rw [e, hb_cell (hb_new _ _)]
            simpa using hu
          | i + 1, hx => simp at hx) (by omega) (by simp)
      refine wpList_append_at rfl _ _ rfl rfl rfl rfl hrun ?_
      have hlen : ts3.length ≤ ts'.tail.length := HM.out _ _ _ HX3.out
      have HRW := Lib.hid hrow'
      have hg4 : Rg r w w' := (HG3.out.alloc _).grown hgr hblk
      have hr4 : Rd r E w' ts3 := (HR3.out.alloc _).grown hgr (fun k hk => by have := hblk k hk; omega)
      have HG4 := Lib.hid hg4
      have HR4 := Lib.hid hr4
      have hl4 := hr4.left
      clear hgr hrow' hrun hblk hg4 hr4
      go_wp2
      refine ⟨⟨ts3, acc ++ [a3], HS3.out, by simp; omega, HG4.out, HR4.out, HRW.out⟩, ?_⟩
      omega
theorem conG (r E : Nat) (w : World) : OneG ConV r E (conIP E) 98 #[rp r] w := fun W ts _ hW => con_any r E W ts hW
set_option maxRecDepth 100000 in
set_option maxHeartbeats 4000000 in
theorem tyd_any (r E : Nat) (ts : Ts) (w : World) (hR : Rd r E w ts) : Calls Tryz.prog 61 #[rp r] w (Got r E (ItV tydK mk3) w (tydP E ts)) := by
  have HR0 := Lib.hid hR
  have hrl := hR.lt
  have HG0 : RowKit.Hid (Rg r w w) := Lib.hid (Rg.refl r w)
  obtain ⟨S, hS⟩ : ∃ S, S = tydP E ts := ⟨_, rfl⟩
  have HS0 := Lib.hid hS
  rw [← hS]
  unfold tydP at HS0
  clear hR hS
  have hmf : ∀ (fn : Fn) (first cap : Array Value) (w : World), (Instr.makeFunc fn first cap).run Tryz.prog w = .ok (.func fn first cap) w := fun _ _ _ _ => rfl
  have HT : RowKit.Hid (∀ ts W, Rd r E W ts → Calls Tryz.prog 25 #[rp r, .int .i64 1] W (Got r E TmV W (typP E 40 ts))) := Lib.hid (fun ts W hW => typ_any r E 40 1 rfl ts W hW)
  have HA : RowKit.Hid (∀ ts W, Rd r E W ts → Calls Tryz.prog 67 #[rp r, .int .i64 1] W (Got r E LsV W (annP E (typP E 40) ts))) := Lib.hid (fun ts W hW => annotation_any r E 40 1 rfl ts W hW)
  have HX : RowKit.Hid (∀ ts W, Rd r E W ts → Calls Tryz.prog 23 #[rp r, .int .i64 1] W (Got r E TmV W (exprP E 40 ts))) := Lib.hid (fun ts W hW => expr_any r E 40 1 rfl ts W hW)
  go_enter Tryz.func61, Tryz.ntmps61
  go_wp2_with (first
      | (go_at_call 66; (with_reducible refine (take_st r E 1 _ (by decide) _ (by first | exact HR0.out | exact HR0.out.alloc _ | exact (HR0.out.alloc _).alloc _ | exact ((HR0.out.alloc _).alloc _).alloc _ | exact HR0.out.upto (fun _ _ _ => rfl) | exact (HR0.out.alloc _).upto (fun _ _ _ => rfl))).mono ?_); rintro e w1 h1; rcases h1.step HS0.out with ⟨v1, a1, ts1, rfl, hV, hR, hg, hS, hx⟩ | ⟨y, rfl, hg, hSE⟩; rotate_left; (have hGE : Rg r w w1 := (by first | exact HG0.out.trans hg | exact (HG0.out.alloc _).trans hg | exact ((HG0.out.alloc _).alloc _).trans hg | exact (((HG0.out.alloc _).alloc _).alloc _).trans hg | exact HG0.out.drew.trans hg | exact (HG0.out.alloc _).drew.trans hg)); rotate_left; (obtain ⟨rfl, hst1⟩ := hV); (have HR1 := Lib.hid hR; have HG1 : RowKit.Hid (Rg r w w1) := Lib.hid (by first | exact HG0.out.trans hg | exact (HG0.out.alloc _).trans hg | exact ((HG0.out.alloc _).alloc _).trans hg | exact (((HG0.out.alloc _).alloc _).alloc _).trans hg | exact HG0.out.drew.trans hg | exact (HG0.out.alloc _).drew.trans hg); have HS1 := Lib.hid hS; have HX1 := Lib.hid hx; have HD1 := Lib.hid hg; clear hR hg hS hx); (have HBx1 := Lib.hid (HD1.out.keep (hb_new _ _) (by omega))); (have hz1 := HD1.out.size; rw [World.size_alloc] at hz1))
      | (go_at_call 96; (with_reducible refine (params_any r E _ _ (by first | exact HR1.out | exact HR1.out.alloc _ | exact (HR1.out.alloc _).alloc _ | exact ((HR1.out.alloc _).alloc _).alloc _ | exact HR1.out.upto (fun _ _ _ => rfl) | exact (HR1.out.alloc _).upto (fun _ _ _ => rfl))).mono ?_); rintro e w2 h2; rcases h2.step HS1.out with ⟨v2, a2, ts2, rfl, hV, hR, hg, hS, hx⟩ | ⟨y, rfl, hg, hSE⟩; rotate_left; (have hGE : Rg r w w2 := (by first | exact HG1.out.trans hg | exact (HG1.out.alloc _).trans hg | exact ((HG1.out.alloc _).alloc _).trans hg | exact (((HG1.out.alloc _).alloc _).alloc _).trans hg | exact HG1.out.drew.trans hg | exact (HG1.out.alloc _).drew.trans hg)); rotate_left; (obtain ⟨q2, c2, hv⟩ := hV.1.shape; subst hv; have HV2 := Lib.hid hV; have HL2 := Lib.hid hV.2); (have HR2 := Lib.hid hR; have HG2 : RowKit.Hid (Rg r w w2) := Lib.hid (by first | exact HG1.out.trans hg | exact (HG1.out.alloc _).trans hg | exact ((HG1.out.alloc _).alloc _).trans hg | exact (((HG1.out.alloc _).alloc _).alloc _).trans hg | exact HG1.out.drew.trans hg | exact (HG1.out.alloc _).drew.trans hg); have HS2 := Lib.hid hS; have HX2 := Lib.hid hx; have HD2 := Lib.hid hg; clear hR hg hS hx hV); (have HBx2 := Lib.hid (HD2.out.keep HBx1.out (by omega))); have hz2 := HD2.out.size)
      | (go_at_call 34; (with_reducible refine (sign_any r E sEq _ _ (by first | exact HR2.out | exact HR2.out.alloc _ | exact (HR2.out.alloc _).alloc _ | exact ((HR2.out.alloc _).alloc _).alloc _ | exact HR2.out.upto (fun _ _ _ => rfl) | exact (HR2.out.alloc _).upto (fun _ _ _ => rfl))).mono ?_); rintro e w3 h3; rcases h3.step HS2.out with ⟨v3, a3, ts3, rfl, hV, hR, hg, hS, hx⟩ | ⟨y, rfl, hg, hSE⟩; rotate_left; (have hGE : Rg r w w3 := (by first | exact HG2.out.trans hg | exact (HG2.out.alloc _).trans hg | exact ((HG2.out.alloc _).alloc _).trans hg | exact (((HG2.out.alloc _).alloc _).alloc _).trans hg | exact HG2.out.drew.trans hg | exact (HG2.out.alloc _).drew.trans hg)); rotate_left; (obtain rfl := hV); (have HR3 := Lib.hid hR; have HG3 : RowKit.Hid (Rg r w w3) := Lib.hid (by first | exact HG2.out.trans hg | exact (HG2.out.alloc _).trans hg | exact ((HG2.out.alloc _).alloc _).trans hg | exact (((HG2.out.alloc _).alloc _).alloc _).trans hg | exact HG2.out.drew.trans hg | exact (HG2.out.alloc _).drew.trans hg); have HS3 := Lib.hid hS; have HX3 := Lib.hid hx; have HD3 := Lib.hid hg; clear hR hg hS hx); (have HBx3 := Lib.hid (HD3.out.keep HBx2.out (by omega))); have hz3 := HD3.out.size)
      | (go_at_call 97; (with_reducible refine (several_con r E sBar (conIP E) _ _ (by first | exact HR3.out | exact HR3.out.alloc _ | exact (HR3.out.alloc _).alloc _ | exact ((HR3.out.alloc _).alloc _).alloc _ | exact HR3.out.upto (fun _ _ _ => rfl) | exact (HR3.out.alloc _).upto (fun _ _ _ => rfl)) (conIP_mono E) (conG r E _)).mono ?_); rintro e w4 h4; rcases h4.step HS3.out with ⟨v4, a4, ts4, rfl, hV, hR, hg, hS, hx⟩ | ⟨y, rfl, hg, hSE⟩; rotate_left; (have hGE : Rg r w w4 := (by first | exact HG3.out.trans hg | exact (HG3.out.alloc _).trans hg | exact ((HG3.out.alloc _).alloc _).trans hg | exact (((HG3.out.alloc _).alloc _).alloc _).trans hg | exact HG3.out.drew.trans hg | exact (HG3.out.alloc _).drew.trans hg)); rotate_left; (obtain ⟨q4, c4, hv⟩ := hV.1.shape; subst hv; have HV4 := Lib.hid hV; have HL4 := Lib.hid hV.2); (have HR4 := Lib.hid hR; have HG4 : RowKit.Hid (Rg r w w4) := Lib.hid (by first | exact HG3.out.trans hg | exact (HG3.out.alloc _).trans hg | exact ((HG3.out.alloc _).alloc _).trans hg | exact (((HG3.out.alloc _).alloc _).alloc _).trans hg | exact HG3.out.drew.trans hg | exact (HG3.out.alloc _).drew.trans hg); have HS4 := Lib.hid hS; have HX4 := Lib.hid hx; have HD4 := Lib.hid hg; clear hR hg hS hx hV); (have HBx4 := Lib.hid (HD4.out.keep HBx3.out (by omega))); have hz4 := HD4.out.size; have u0 := hb_at HBx4.out 0 rfl; have v0 := hb_free HBx4.out 0; have u1 := hb_at HBx4.out 1 rfl; have v1 := hb_free HBx4.out 1; have u2 := hb_at HBx4.out 2 rfl; have v2 := hb_free HBx4.out 2; have su := hb_lt HBx4.out))
  all_goals first | exact ⟨rfl, hGE, rfl⟩ | exact ⟨rfl, hGE, by rw [hSE]⟩ | skip
  exact fin_it (K := tydK) (mk := mk3) rfl (fun W' h => res_tyd rfl h) (set3 HBx4.out _ _ _) (Nat.le_refl _) HG4.out hrl HR4.out HS4.out (nb := w.heap.size + 1) (by omega) (by omega)
    ⟨_, _, rfl, hst1, HV2.out.sl.move fun b hb hl => ⟨by unfold New at hb; omega, (HD3.out.trans HD4.out).same hl (by unfold New at hb; omega)⟩, HV2.out.2, HV4.out.sl.move fun b hb hl => ⟨by unfold New at hb; omega, rfl⟩, HV4.out.2⟩
set_option maxRecDepth 100000 in
set_option maxHeartbeats 4000000 in
theorem ali_any (r E : Nat) (ts : Ts) (w : World) (hR : Rd r E w ts) : Calls Tryz.prog 62 #[rp r] w (Got r E (ItV aliK mkT) w (aliP E ts)) := by
  have HR0 := Lib.hid hR
  have hrl := hR.lt
  have HG0 : RowKit.Hid (Rg r w w) := Lib.hid (Rg.refl r w)
  obtain ⟨S, hS⟩ : ∃ S, S = aliP E ts := ⟨_, rfl⟩
  have HS0 := Lib.hid hS
  rw [← hS]
  unfold aliP at HS0
  clear hR hS
  have hmf : ∀ (fn : Fn) (first cap : Array Value) (w : World), (Instr.makeFunc fn first cap).run Tryz.prog w = .ok (.func fn first cap) w := fun _ _ _ _ => rfl
  have HT : RowKit.Hid (∀ ts W, Rd r E W ts → Calls Tryz.prog 25 #[rp r, .int .i64 1] W (Got r E TmV W (typP E 40 ts))) := Lib.hid (fun ts W hW => typ_any r E 40 1 rfl ts W hW)
  have HA : RowKit.Hid (∀ ts W, Rd r E W ts → Calls Tryz.prog 67 #[rp r, .int .i64 1] W (Got r E LsV W (annP E (typP E 40) ts))) := Lib.hid (fun ts W hW => annotation_any r E 40 1 rfl ts W hW)
  have HX : RowKit.Hid (∀ ts W, Rd r E W ts → Calls Tryz.prog 23 #[rp r, .int .i64 1] W (Got r E TmV W (exprP E 40 ts))) := Lib.hid (fun ts W hW => expr_any r E 40 1 rfl ts W hW)
  go_enter Tryz.func62, Tryz.ntmps62
  go_wp2_with (first
      | (go_at_call 66; (with_reducible refine (take_st r E 1 _ (by decide) _ (by first | exact HR0.out | exact HR0.out.alloc _ | exact (HR0.out.alloc _).alloc _ | exact ((HR0.out.alloc _).alloc _).alloc _ | exact HR0.out.upto (fun _ _ _ => rfl) | exact (HR0.out.alloc _).upto (fun _ _ _ => rfl))).mono ?_); rintro e w1 h1; rcases h1.step HS0.out with ⟨v1, a1, ts1, rfl, hV, hR, hg, hS, hx⟩ | ⟨y, rfl, hg, hSE⟩; rotate_left; (have hGE : Rg r w w1 := (by first | exact HG0.out.trans hg | exact (HG0.out.alloc _).trans hg | exact ((HG0.out.alloc _).alloc _).trans hg | exact (((HG0.out.alloc _).alloc _).alloc _).trans hg | exact HG0.out.drew.trans hg | exact (HG0.out.alloc _).drew.trans hg)); rotate_left; (obtain ⟨rfl, hst1⟩ := hV); (have HR1 := Lib.hid hR; have HG1 : RowKit.Hid (Rg r w w1) := Lib.hid (by first | exact HG0.out.trans hg | exact (HG0.out.alloc _).trans hg | exact ((HG0.out.alloc _).alloc _).trans hg | exact (((HG0.out.alloc _).alloc _).alloc _).trans hg | exact HG0.out.drew.trans hg | exact (HG0.out.alloc _).drew.trans hg); have HS1 := Lib.hid hS; have HX1 := Lib.hid hx; have HD1 := Lib.hid hg; clear hR hg hS hx); (have HBx1 := Lib.hid (HD1.out.keep (hb_new _ _) (by omega))); (have hz1 := HD1.out.size; rw [World.size_alloc] at hz1))
      | (go_at_call 96; (with_reducible refine (params_any r E _ _ (by first | exact HR1.out | exact HR1.out.alloc _ | exact (HR1.out.alloc _).alloc _ | exact ((HR1.out.alloc _).alloc _).alloc _ | exact HR1.out.upto (fun _ _ _ => rfl) | exact (HR1.out.alloc _).upto (fun _ _ _ => rfl))).mono ?_); rintro e w2 h2; rcases h2.step HS1.out with ⟨v2, a2, ts2, rfl, hV, hR, hg, hS, hx⟩ | ⟨y, rfl, hg, hSE⟩; rotate_left; (have hGE : Rg r w w2 := (by first | exact HG1.out.trans hg | exact (HG1.out.alloc _).trans hg | exact ((HG1.out.alloc _).alloc _).trans hg | exact (((HG1.out.alloc _).alloc _).alloc _).trans hg | exact HG1.out.drew.trans hg | exact (HG1.out.alloc _).drew.trans hg)); rotate_left; (obtain ⟨q2, c2, hv⟩ := hV.1.shape; subst hv; have HV2 := Lib.hid hV; have HL2 := Lib.hid hV.2); (have HR2 := Lib.hid hR; have HG2 : RowKit.Hid (Rg r w w2) := Lib.hid (by first | exact HG1.out.trans hg | exact (HG1.out.alloc _).trans hg | exact ((HG1.out.alloc _).alloc _).trans hg | exact (((HG1.out.alloc _).alloc _).alloc _).trans hg | exact HG1.out.drew.trans hg | exact (HG1.out.alloc _).drew.trans hg); have HS2 := Lib.hid hS; have HX2 := Lib.hid hx; have HD2 := Lib.hid hg; clear hR hg hS hx hV); (have HBx2 := Lib.hid (HD2.out.keep HBx1.out (by omega))); have hz2 := HD2.out.size)
      | (go_at_call 34; (with_reducible refine (sign_any r E sEq _ _ (by first | exact HR2.out | exact HR2.out.alloc _ | exact (HR2.out.alloc _).alloc _ | exact ((HR2.out.alloc _).alloc _).alloc _ | exact HR2.out.upto (fun _ _ _ => rfl) | exact (HR2.out.alloc _).upto (fun _ _ _ => rfl))).mono ?_); rintro e w3 h3; rcases h3.step HS2.out with ⟨v3, a3, ts3, rfl, hV, hR, hg, hS, hx⟩ | ⟨y, rfl, hg, hSE⟩; rotate_left; (have hGE : Rg r w w3 := (by first | exact HG2.out.trans hg | exact (HG2.out.alloc _).trans hg | exact ((HG2.out.alloc _).alloc _).trans hg | exact (((HG2.out.alloc _).alloc _).alloc _).trans hg | exact HG2.out.drew.trans hg | exact (HG2.out.alloc _).drew.trans hg)); rotate_left; (obtain rfl := hV); (have HR3 := Lib.hid hR; have HG3 : RowKit.Hid (Rg r w w3) := Lib.hid (by first | exact HG2.out.trans hg | exact (HG2.out.alloc _).trans hg | exact ((HG2.out.alloc _).alloc _).trans hg | exact (((HG2.out.alloc _).alloc _).alloc _).trans hg | exact HG2.out.drew.trans hg | exact (HG2.out.alloc _).drew.trans hg); have HS3 := Lib.hid hS; have HX3 := Lib.hid hx; have HD3 := Lib.hid hg; clear hR hg hS hx); (have HBx3 := Lib.hid (HD3.out.keep HBx2.out (by omega))); have hz3 := HD3.out.size)
      | (go_at_call 25; (with_reducible refine (HT.out _ _ (by first | exact HR3.out | exact HR3.out.alloc _ | exact (HR3.out.alloc _).alloc _ | exact ((HR3.out.alloc _).alloc _).alloc _ | exact HR3.out.upto (fun _ _ _ => rfl) | exact (HR3.out.alloc _).upto (fun _ _ _ => rfl))).mono ?_); rintro e w4 h4; rcases h4.step HS3.out with ⟨v4, a4, ts4, rfl, hV, hR, hg, hS, hx⟩ | ⟨y, rfl, hg, hSE⟩; rotate_left; (have hGE : Rg r w w4 := (by first | exact HG3.out.trans hg | exact (HG3.out.alloc _).trans hg | exact ((HG3.out.alloc _).alloc _).trans hg | exact (((HG3.out.alloc _).alloc _).alloc _).trans hg | exact HG3.out.drew.trans hg | exact (HG3.out.alloc _).drew.trans hg)); rotate_left; (obtain ⟨k4, p4, n4, N4, q4, l4, c4, rfl⟩ := hV.shape; have HV4 := Lib.hid hV); (have HR4 := Lib.hid hR; have HG4 : RowKit.Hid (Rg r w w4) := Lib.hid (by first | exact HG3.out.trans hg | exact (HG3.out.alloc _).trans hg | exact ((HG3.out.alloc _).alloc _).trans hg | exact (((HG3.out.alloc _).alloc _).alloc _).trans hg | exact HG3.out.drew.trans hg | exact (HG3.out.alloc _).drew.trans hg); have HS4 := Lib.hid hS; have HX4 := Lib.hid hx; have HD4 := Lib.hid hg; clear hR hg hS hx hV); (have HBx4 := Lib.hid (HD4.out.keep HBx3.out (by omega))); have hz4 := HD4.out.size; have u0 := hb_at HBx4.out 0 rfl; have v0 := hb_free HBx4.out 0; have u1 := hb_at HBx4.out 1 rfl; have v1 := hb_free HBx4.out 1; have u2 := hb_at HBx4.out 2 rfl; have v2 := hb_free HBx4.out 2; have u3 := hb_at HBx4.out 3 rfl; have v3 := hb_free HBx4.out 3; have u4 := hb_at HBx4.out 4 rfl; have v4 := hb_free HBx4.out 4; have u5 := hb_at HBx4.out 5 rfl; have v5 := hb_free HBx4.out 5; have u6 := hb_at HBx4.out 6 rfl; have v6 := hb_free HBx4.out 6; have su := hb_lt HBx4.out))
  all_goals first | exact ⟨rfl, hGE, rfl⟩ | exact ⟨rfl, hGE, by rw [hSE]⟩ | skip
  obtain ⟨d4, hX4⟩ := HV4.out
  exact fin_it (K := aliK) (mk := mkT) (cs := [_, _, _, _, _, _, _]) rfl (fun W' h => res_ali rfl h) (set7 HBx4.out _ _ _ _ _ _ _) (Nat.le_refl _) HG4.out hrl HR4.out HS4.out (nb := w.heap.size + 1) (by omega) (by omega)
    ⟨_, _, _, _, _, _, d4, rfl, hst1, HV2.out.sl.move fun b hb hl => ⟨by unfold New at hb; omega, (HD3.out.trans HD4.out).same hl (by unfold New at hb; omega)⟩, HV2.out.2, hX4.move fun b hb hl => ⟨by unfold New at hb; omega, rfl⟩⟩
set_option maxRecDepth 100000 in
set_option maxHeartbeats 4000000 in
theorem letI_any (r E : Nat) (ts : Ts) (w : World) (hR : Rd r E w ts) : Calls Tryz.prog 63 #[rp r] w (Got r E (ItV letIK mkT) w (letIP E ts)) := by
  have HR0 := Lib.hid hR
  have hrl := hR.lt
  have HG0 : RowKit.Hid (Rg r w w) := Lib.hid (Rg.refl r w)
  obtain ⟨S, hS⟩ : ∃ S, S = letIP E ts := ⟨_, rfl⟩
  have HS0 := Lib.hid hS
  rw [← hS]
  unfold letIP at HS0
  clear hR hS
  have hmf : ∀ (fn : Fn) (first cap : Array Value) (w : World), (Instr.makeFunc fn first cap).run Tryz.prog w = .ok (.func fn first cap) w := fun _ _ _ _ => rfl
  have HT : RowKit.Hid (∀ ts W, Rd r E W ts → Calls Tryz.prog 25 #[rp r, .int .i64 1] W (Got r E TmV W (typP E 40 ts))) := Lib.hid (fun ts W hW => typ_any r E 40 1 rfl ts W hW)
  have HA : RowKit.Hid (∀ ts W, Rd r E W ts → Calls Tryz.prog 67 #[rp r, .int .i64 1] W (Got r E LsV W (annP E (typP E 40) ts))) := Lib.hid (fun ts W hW => annotation_any r E 40 1 rfl ts W hW)
  have HX : RowKit.Hid (∀ ts W, Rd r E W ts → Calls Tryz.prog 23 #[rp r, .int .i64 1] W (Got r E TmV W (exprP E 40 ts))) := Lib.hid (fun ts W hW => expr_any r E 40 1 rfl ts W hW)
  go_enter Tryz.func63, Tryz.ntmps63
  go_wp2_with (first
      | (go_at_call 66; (with_reducible refine (take_st r E 1 _ (by decide) _ (by first | exact HR0.out | exact HR0.out.alloc _ | exact (HR0.out.alloc _).alloc _ | exact ((HR0.out.alloc _).alloc _).alloc _ | exact HR0.out.upto (fun _ _ _ => rfl) | exact (HR0.out.alloc _).upto (fun _ _ _ => rfl))).mono ?_); rintro e w1 h1; rcases h1.step HS0.out with ⟨v1, a1, ts1, rfl, hV, hR, hg, hS, hx⟩ | ⟨y, rfl, hg, hSE⟩; rotate_left; (have hGE : Rg r w w1 := (by first | exact HG0.out.trans hg | exact (HG0.out.alloc _).trans hg | exact ((HG0.out.alloc _).alloc _).trans hg | exact (((HG0.out.alloc _).alloc _).alloc _).trans hg | exact HG0.out.drew.trans hg | exact (HG0.out.alloc _).drew.trans hg)); rotate_left; (obtain ⟨rfl, hst1⟩ := hV); (have HR1 := Lib.hid hR; have HG1 : RowKit.Hid (Rg r w w1) := Lib.hid (by first | exact HG0.out.trans hg | exact (HG0.out.alloc _).trans hg | exact ((HG0.out.alloc _).alloc _).trans hg | exact (((HG0.out.alloc _).alloc _).alloc _).trans hg | exact HG0.out.drew.trans hg | exact (HG0.out.alloc _).drew.trans hg); have HS1 := Lib.hid hS; have HX1 := Lib.hid hx; have HD1 := Lib.hid hg; clear hR hg hS hx); (have HBx1 := Lib.hid (HD1.out.keep (hb_new _ _) (by omega))); (have hz1 := HD1.out.size; rw [World.size_alloc] at hz1))
      | (go_at_call 67; (with_reducible refine (HA.out _ _ (by first | exact HR1.out | exact HR1.out.alloc _ | exact (HR1.out.alloc _).alloc _ | exact ((HR1.out.alloc _).alloc _).alloc _ | exact HR1.out.upto (fun _ _ _ => rfl) | exact (HR1.out.alloc _).upto (fun _ _ _ => rfl))).mono ?_); rintro e w2 h2; rcases h2.step HS1.out with ⟨v2, a2, ts2, rfl, hV, hR, hg, hS, hx⟩ | ⟨y, rfl, hg, hSE⟩; rotate_left; (have hGE : Rg r w w2 := (by first | exact HG1.out.trans hg | exact (HG1.out.alloc _).trans hg | exact ((HG1.out.alloc _).alloc _).trans hg | exact (((HG1.out.alloc _).alloc _).alloc _).trans hg | exact HG1.out.drew.trans hg | exact (HG1.out.alloc _).drew.trans hg)); rotate_left; (obtain ⟨q2, c2, hv⟩ := hV.1.shape; subst hv; have HV2 := Lib.hid hV; have HL2 := Lib.hid hV.2); (have HR2 := Lib.hid hR; have HG2 : RowKit.Hid (Rg r w w2) := Lib.hid (by first | exact HG1.out.trans hg | exact (HG1.out.alloc _).trans hg | exact ((HG1.out.alloc _).alloc _).trans hg | exact (((HG1.out.alloc _).alloc _).alloc _).trans hg | exact HG1.out.drew.trans hg | exact (HG1.out.alloc _).drew.trans hg); have HS2 := Lib.hid hS; have HX2 := Lib.hid hx; have HD2 := Lib.hid hg; clear hR hg hS hx hV); (have HBx2 := Lib.hid (HD2.out.keep HBx1.out (by omega))); have hz2 := HD2.out.size)
      | (go_at_call 34; (with_reducible refine (sign_any r E sEq _ _ (by first | exact HR2.out | exact HR2.out.alloc _ | exact (HR2.out.alloc _).alloc _ | exact ((HR2.out.alloc _).alloc _).alloc _ | exact HR2.out.upto (fun _ _ _ => rfl) | exact (HR2.out.alloc _).upto (fun _ _ _ => rfl))).mono ?_); rintro e w3 h3; rcases h3.step HS2.out with ⟨v3, a3, ts3, rfl, hV, hR, hg, hS, hx⟩ | ⟨y, rfl, hg, hSE⟩; rotate_left; (have hGE : Rg r w w3 := (by first | exact HG2.out.trans hg | exact (HG2.out.alloc _).trans hg | exact ((HG2.out.alloc _).alloc _).trans hg | exact (((HG2.out.alloc _).alloc _).alloc _).trans hg | exact HG2.out.drew.trans hg | exact (HG2.out.alloc _).drew.trans hg)); rotate_left; (obtain rfl := hV); (have HR3 := Lib.hid hR; have HG3 : RowKit.Hid (Rg r w w3) := Lib.hid (by first | exact HG2.out.trans hg | exact (HG2.out.alloc _).trans hg | exact ((HG2.out.alloc _).alloc _).trans hg | exact (((HG2.out.alloc _).alloc _).alloc _).trans hg | exact HG2.out.drew.trans hg | exact (HG2.out.alloc _).drew.trans hg); have HS3 := Lib.hid hS; have HX3 := Lib.hid hx; have HD3 := Lib.hid hg; clear hR hg hS hx); (have HBx3 := Lib.hid (HD3.out.keep HBx2.out (by omega))); have hz3 := HD3.out.size)
      | (go_at_call 23; (with_reducible refine (HX.out _ _ (by first | exact HR3.out | exact HR3.out.alloc _ | exact (HR3.out.alloc _).alloc _ | exact ((HR3.out.alloc _).alloc _).alloc _ | exact HR3.out.upto (fun _ _ _ => rfl) | exact (HR3.out.alloc _).upto (fun _ _ _ => rfl))).mono ?_); rintro e w4 h4; rcases h4.step HS3.out with ⟨v4, a4, ts4, rfl, hV, hR, hg, hS, hx⟩ | ⟨y, rfl, hg, hSE⟩; rotate_left; (have hGE : Rg r w w4 := (by first | exact HG3.out.trans hg | exact (HG3.out.alloc _).trans hg | exact ((HG3.out.alloc _).alloc _).trans hg | exact (((HG3.out.alloc _).alloc _).alloc _).trans hg | exact HG3.out.drew.trans hg | exact (HG3.out.alloc _).drew.trans hg)); rotate_left; (obtain ⟨k4, p4, n4, N4, q4, l4, c4, rfl⟩ := hV.shape; have HV4 := Lib.hid hV); (have HR4 := Lib.hid hR; have HG4 : RowKit.Hid (Rg r w w4) := Lib.hid (by first | exact HG3.out.trans hg | exact (HG3.out.alloc _).trans hg | exact ((HG3.out.alloc _).alloc _).trans hg | exact (((HG3.out.alloc _).alloc _).alloc _).trans hg | exact HG3.out.drew.trans hg | exact (HG3.out.alloc _).drew.trans hg); have HS4 := Lib.hid hS; have HX4 := Lib.hid hx; have HD4 := Lib.hid hg; clear hR hg hS hx hV); (have HBx4 := Lib.hid (HD4.out.keep HBx3.out (by omega))); have hz4 := HD4.out.size; have u0 := hb_at HBx4.out 0 rfl; have v0 := hb_free HBx4.out 0; have u1 := hb_at HBx4.out 1 rfl; have v1 := hb_free HBx4.out 1; have u2 := hb_at HBx4.out 2 rfl; have v2 := hb_free HBx4.out 2; have u3 := hb_at HBx4.out 3 rfl; have v3 := hb_free HBx4.out 3; have u4 := hb_at HBx4.out 4 rfl; have v4 := hb_free HBx4.out 4; have u5 := hb_at HBx4.out 5 rfl; have v5 := hb_free HBx4.out 5; have u6 := hb_at HBx4.out 6 rfl; have v6 := hb_free HBx4.out 6; have su := hb_lt HBx4.out))
  all_goals first | exact ⟨rfl, hGE, rfl⟩ | exact ⟨rfl, hGE, by rw [hSE]⟩ | skip
  obtain ⟨d4, hX4⟩ := HV4.out
  exact fin_it (K := letIK) (mk := mkT) (cs := [_, _, _, _, _, _, _]) rfl (fun W' h => res_let rfl h) (set7 HBx4.out _ _ _ _ _ _ _) (Nat.le_refl _) HG4.out hrl HR4.out HS4.out (nb := w.heap.size + 1) (by omega) (by omega)
    ⟨_, _, _, _, _, _, d4, rfl, hst1, HV2.out.sl.move fun b hb hl => ⟨by unfold New at hb; omega, (HD3.out.trans HD4.out).same hl (by unfold New at hb; omega)⟩, HV2.out.2, hX4.move fun b hb hl => ⟨by unfold New at hb; omega, rfl⟩⟩
set_option maxRecDepth 100000 in
set_option maxHeartbeats 4000000 in
theorem exp_any (r E : Nat) (ts : Ts) (w : World) (hR : Rd r E w ts) : Calls Tryz.prog 64 #[rp r] w (Got r E (ItV expK mk3) w (expP E ts)) := by
  have HR0 := Lib.hid hR
  have hrl := hR.lt
  have HG0 : RowKit.Hid (Rg r w w) := Lib.hid (Rg.refl r w)
  obtain ⟨S, hS⟩ : ∃ S, S = expP E ts := ⟨_, rfl⟩
  have HS0 := Lib.hid hS
  rw [← hS]
  unfold expP at HS0
  clear hR hS
  have hmf : ∀ (fn : Fn) (first cap : Array Value) (w : World), (Instr.makeFunc fn first cap).run Tryz.prog w = .ok (.func fn first cap) w := fun _ _ _ _ => rfl
  have HT : RowKit.Hid (∀ ts W, Rd r E W ts → Calls Tryz.prog 25 #[rp r, .int .i64 1] W (Got r E TmV W (typP E 40 ts))) := Lib.hid (fun ts W hW => typ_any r E 40 1 rfl ts W hW)
  have HA : RowKit.Hid (∀ ts W, Rd r E W ts → Calls Tryz.prog 67 #[rp r, .int .i64 1] W (Got r E LsV W (annP E (typP E 40) ts))) := Lib.hid (fun ts W hW => annotation_any r E 40 1 rfl ts W hW)
  have HX : RowKit.Hid (∀ ts W, Rd r E W ts → Calls Tryz.prog 23 #[rp r, .int .i64 1] W (Got r E TmV W (exprP E 40 ts))) := Lib.hid (fun ts W hW => expr_any r E 40 1 rfl ts W hW)
  have HK := Lib.hid (fun W hW => skipKey_any r E kType ts W hW)
  cases hB : isB 7 kType ts with
  | true =>
    have h := HS0.out
    rw [hB, if_pos rfl] at h
    rw [hB] at HK
    have HS1 := Lib.hid h
    clear HS0 h hB
    go_enter Tryz.func64, Tryz.ntmps64
    go_wp2_with (first
        | (go_at_call 37; (with_reducible refine (HK.out _ (by first | exact HR0.out | exact HR0.out.alloc _ | exact (HR0.out.alloc _).alloc _ | exact ((HR0.out.alloc _).alloc _).alloc _ | exact HR0.out.upto (fun _ _ _ => rfl) | exact (HR0.out.alloc _).upto (fun _ _ _ => rfl))).mono ?_); rintro e w1 ⟨rfl, hg, hr⟩; have HD1 := Lib.hid hg; have HG1 : RowKit.Hid (Rg r w w1) := Lib.hid (by first | exact HG0.out.trans hg | exact (HG0.out.alloc _).trans hg | exact ((HG0.out.alloc _).alloc _).trans hg | exact (((HG0.out.alloc _).alloc _).alloc _).trans hg | exact HG0.out.drew.trans hg | exact (HG0.out.alloc _).drew.trans hg); have HR1 : RowKit.Hid (Rd r E w1 ts.tail) := Lib.hid hr; (have HBx1 := Lib.hid (HD1.out.keep (hb_new _ _) (by omega))); (have hz1 := HD1.out.size; rw [World.size_alloc] at hz1); clear hg hr)
        | (go_at_call 66; (with_reducible refine (take_st r E 1 _ (by decide) _ (by first | exact HR1.out | exact HR1.out.alloc _ | exact (HR1.out.alloc _).alloc _ | exact ((HR1.out.alloc _).alloc _).alloc _ | exact HR1.out.upto (fun _ _ _ => rfl) | exact (HR1.out.alloc _).upto (fun _ _ _ => rfl))).mono ?_); rintro e w2 h2; rcases h2.step HS1.out with ⟨v2, a2, ts2, rfl, hV, hR, hg, hS, hx⟩ | ⟨y, rfl, hg, hSE⟩; rotate_left; (have hGE : Rg r w w2 := (by first | exact HG1.out.trans hg | exact (HG1.out.alloc _).trans hg | exact ((HG1.out.alloc _).alloc _).trans hg | exact (((HG1.out.alloc _).alloc _).alloc _).trans hg | exact HG1.out.drew.trans hg | exact (HG1.out.alloc _).drew.trans hg)); rotate_left; (obtain ⟨rfl, hst2⟩ := hV); (have HR2 := Lib.hid hR; have HG2 : RowKit.Hid (Rg r w w2) := Lib.hid (by first | exact HG1.out.trans hg | exact (HG1.out.alloc _).trans hg | exact ((HG1.out.alloc _).alloc _).trans hg | exact (((HG1.out.alloc _).alloc _).alloc _).trans hg | exact HG1.out.drew.trans hg | exact (HG1.out.alloc _).drew.trans hg); have HS2 := Lib.hid hS; have HX2 := Lib.hid hx; have HD2 := Lib.hid hg; clear hR hg hS hx); (have HBx2 := Lib.hid (HD2.out.keep HBx1.out (by omega))); have hz2 := HD2.out.size; have u0 := hb_at HBx2.out 0 rfl; have v0 := hb_free HBx2.out 0; have u1 := hb_at HBx2.out 1 rfl; have v1 := hb_free HBx2.out 1; have u2 := hb_at HBx2.out 2 rfl; have v2 := hb_free HBx2.out 2; have su := hb_lt HBx2.out))
    all_goals first | exact ⟨rfl, hGE, rfl⟩ | exact ⟨rfl, hGE, by rw [hSE]⟩ | skip
    exact fin_it (K := expK) (mk := mk3) rfl (fun W' h => res_exp rfl h) (set3 HBx2.out _ _ _) (Nat.le_refl _) HG2.out hrl HR2.out HS2.out (nb := w.heap.size + 1) (by omega) (by omega)
      ⟨_, rfl, hst2, SlG.nil _ _ _, by simp⟩
  | false =>
    have h := HS0.out
    rw [hB, if_neg (by decide)] at h
    rw [hB] at HK
    have HS1 := Lib.hid h
    clear HS0 h hB
    go_enter Tryz.func64, Tryz.ntmps64
    go_wp2_with (first
        | (go_at_call 37; (with_reducible refine (HK.out _ (by first | exact HR0.out | exact HR0.out.alloc _ | exact (HR0.out.alloc _).alloc _ | exact ((HR0.out.alloc _).alloc _).alloc _ | exact HR0.out.upto (fun _ _ _ => rfl) | exact (HR0.out.alloc _).upto (fun _ _ _ => rfl))).mono ?_); rintro e w1 ⟨rfl, hg, hr⟩; have HD1 := Lib.hid hg; have HG1 : RowKit.Hid (Rg r w w1) := Lib.hid (by first | exact HG0.out.trans hg | exact (HG0.out.alloc _).trans hg | exact ((HG0.out.alloc _).alloc _).trans hg | exact (((HG0.out.alloc _).alloc _).alloc _).trans hg | exact HG0.out.drew.trans hg | exact (HG0.out.alloc _).drew.trans hg); have HR1 : RowKit.Hid (Rd r E w1 ts) := Lib.hid hr; (have HBx1 := Lib.hid (HD1.out.keep (hb_new _ _) (by omega))); (have hz1 := HD1.out.size; rw [World.size_alloc] at hz1); clear hg hr)
        | (go_at_call 66; (with_reducible refine (take_st r E 1 _ (by decide) _ (by first | exact HR1.out | exact HR1.out.alloc _ | exact (HR1.out.alloc _).alloc _ | exact ((HR1.out.alloc _).alloc _).alloc _ | exact HR1.out.upto (fun _ _ _ => rfl) | exact (HR1.out.alloc _).upto (fun _ _ _ => rfl))).mono ?_); rintro e w2 h2; rcases h2.step HS1.out with ⟨v2, a2, ts2, rfl, hV, hR, hg, hS, hx⟩ | ⟨y, rfl, hg, hSE⟩; rotate_left; (have hGE : Rg r w w2 := (by first | exact HG1.out.trans hg | exact (HG1.out.alloc _).trans hg | exact ((HG1.out.alloc _).alloc _).trans hg | exact (((HG1.out.alloc _).alloc _).alloc _).trans hg | exact HG1.out.drew.trans hg | exact (HG1.out.alloc _).drew.trans hg)); rotate_left; (obtain ⟨rfl, hst2⟩ := hV); (have HR2 := Lib.hid hR; have HG2 : RowKit.Hid (Rg r w w2) := Lib.hid (by first | exact HG1.out.trans hg | exact (HG1.out.alloc _).trans hg | exact ((HG1.out.alloc _).alloc _).trans hg | exact (((HG1.out.alloc _).alloc _).alloc _).trans hg | exact HG1.out.drew.trans hg | exact (HG1.out.alloc _).drew.trans hg); have HS2 := Lib.hid hS; have HX2 := Lib.hid hx; have HD2 := Lib.hid hg; clear hR hg hS hx); (have HBx2 := Lib.hid (HD2.out.keep HBx1.out (by omega))); have hz2 := HD2.out.size)
        | (go_at_call 67; (with_reducible refine (HA.out _ _ (by first | exact HR2.out | exact HR2.out.alloc _ | exact (HR2.out.alloc _).alloc _ | exact ((HR2.out.alloc _).alloc _).alloc _ | exact HR2.out.upto (fun _ _ _ => rfl) | exact (HR2.out.alloc _).upto (fun _ _ _ => rfl))).mono ?_); rintro e w3 h3; rcases h3.step HS2.out with ⟨v3, a3, ts3, rfl, hV, hR, hg, hS, hx⟩ | ⟨y, rfl, hg, hSE⟩; rotate_left; (have hGE : Rg r w w3 := (by first | exact HG2.out.trans hg | exact (HG2.out.alloc _).trans hg | exact ((HG2.out.alloc _).alloc _).trans hg | exact (((HG2.out.alloc _).alloc _).alloc _).trans hg | exact HG2.out.drew.trans hg | exact (HG2.out.alloc _).drew.trans hg)); rotate_left; (obtain ⟨q3, c3, hv⟩ := hV.1.shape; subst hv; have HV3 := Lib.hid hV; have HL3 := Lib.hid hV.2); (have HR3 := Lib.hid hR; have HG3 : RowKit.Hid (Rg r w w3) := Lib.hid (by first | exact HG2.out.trans hg | exact (HG2.out.alloc _).trans hg | exact ((HG2.out.alloc _).alloc _).trans hg | exact (((HG2.out.alloc _).alloc _).alloc _).trans hg | exact HG2.out.drew.trans hg | exact (HG2.out.alloc _).drew.trans hg); have HS3 := Lib.hid hS; have HX3 := Lib.hid hx; have HD3 := Lib.hid hg; clear hR hg hS hx hV); (have HBx3 := Lib.hid (HD3.out.keep HBx2.out (by omega))); have hz3 := HD3.out.size; have u0 := hb_at HBx3.out 0 rfl; have v0 := hb_free HBx3.out 0; have u1 := hb_at HBx3.out 1 rfl; have v1 := hb_free HBx3.out 1; have u2 := hb_at HBx3.out 2 rfl; have v2 := hb_free HBx3.out 2; have su := hb_lt HBx3.out))
    all_goals first | exact ⟨rfl, hGE, rfl⟩ | exact ⟨rfl, hGE, by rw [hSE]⟩ | skip
    exact fin_it (K := expK) (mk := mk3) rfl (fun W' h => res_exp rfl h) (set3 HBx3.out _ _ _) (Nat.le_refl _) HG3.out hrl HR3.out HS3.out (nb := w.heap.size + 1) (by omega) (by omega)
      ⟨_, rfl, hst2, HV3.out.sl.move fun b hb hl => ⟨by unfold New at hb; omega, rfl⟩, HV3.out.2⟩
end Go.Proofs.YtlbnaddgdgbckaaGreatDoor
/- An import is read. -/
namespace Go.Proofs.YtlbnaddgdgbckaaGreatDoor
open Go.RowKit
set_option linter.unusedSimpArgs false
set_option linter.unusedVariables false
theorem nextT (r E : Nat) (ts : Ts) (w : World) (hR : Rd r E w ts) : ∃ (nk nn : Int) (na : Nat), Calls Tryz.prog 59 #[rp r] w fun e w' => e = .returned (.agg #[.int .i64 nk, .string (tx ts), .int .i64 nn, .int .i64 (na : Nat)]) ∧ Below w.heap.size w w' := by
  have h := next_any r E ts w hR
  have e : (nx E ts).1.s = tx ts := by cases ts <;> rfl
  unfold tokV at h
  rw [← e]
  exact ⟨_, _, _, h⟩
theorem fld1 (k n a : Int) (s : ByteArray) (w : World) : (Instr.field 49 (.agg #[.int .i64 k, .string s, .int .i64 n, .int .i64 a]) 1).run Tryz.prog w = .ok (.string s) w := by kernel_rfl
theorem parseT (s : ByteArray) (hm : s.size ≤ 4194304) (w : World) : ∃ (a b c pe : Int), (Sv.parseS s).1 = ⟨a, b, c⟩ ∧ Calls Tryz.prog 95 #[.string s] w fun e w' => e = .returned (.tuple #[.agg #[.int .i64 a, .int .i64 b, .int .i64 c], .int .i64 pe]) ∧ Below w.heap.size w w' :=
  ⟨_, _, _, _, rfl, parse_any s hm w⟩
set_option maxRecDepth 100000 in
set_option maxHeartbeats 4000000 in
theorem imp_any (r E : Nat) (ts : Ts) (w : World) (hR : Rd r E w ts) : Calls Tryz.prog 60 #[rp r] w (Got r E (ItV impK mkI) w (impP E ts)) := by
  have HR0 := Lib.hid hR
  have hrl := hR.lt
  have HG0 : RowKit.Hid (Rg r w w) := Lib.hid (Rg.refl r w)
  obtain ⟨S, hS⟩ : ∃ S, S = impP E ts := ⟨_, rfl⟩
  have HS0 := Lib.hid hS
  rw [← hS]
  unfold impP at HS0
  clear hR hS
  have hmf : ∀ (fn : Fn) (first cap : Array Value) (w : World), (Instr.makeFunc fn first cap).run Tryz.prog w = .ok (.func fn first cap) w := fun _ _ _ _ => rfl
  have HT : RowKit.Hid (∀ ts W, Rd r E W ts → Calls Tryz.prog 25 #[rp r, .int .i64 1] W (Got r E TmV W (typP E 40 ts))) := Lib.hid (fun ts W hW => typ_any r E 40 1 rfl ts W hW)
  have HA : RowKit.Hid (∀ ts W, Rd r E W ts → Calls Tryz.prog 67 #[rp r, .int .i64 1] W (Got r E LsV W (annP E (typP E 40) ts))) := Lib.hid (fun ts W hW => annotation_any r E 40 1 rfl ts W hW)
  have HX : RowKit.Hid (∀ ts W, Rd r E W ts → Calls Tryz.prog 23 #[rp r, .int .i64 1] W (Got r E TmV W (exprP E 40 ts))) := Lib.hid (fun ts W hW => expr_any r E 40 1 rfl ts W hW)
  have hf1 := fld1
  go_enter Tryz.func60, Tryz.ntmps60
  go_wp2_with (first
      | (go_at_call 66; (with_reducible refine (take_st r E 2 _ (by decide) _ (by first | exact HR0.out | exact HR0.out.alloc _ | exact (HR0.out.alloc _).alloc _ | exact ((HR0.out.alloc _).alloc _).alloc _ | exact HR0.out.upto (fun _ _ _ => rfl) | exact (HR0.out.alloc _).upto (fun _ _ _ => rfl))).mono ?_); rintro e w1 h1; rcases h1.step HS0.out with ⟨v1, a1, ts1, rfl, hV, hR, hg, hS, hx⟩ | ⟨y, rfl, hg, hSE⟩; rotate_left; (have hGE : Rg r w w1 := (by first | exact HG0.out.trans hg | exact (HG0.out.alloc _).trans hg | exact ((HG0.out.alloc _).alloc _).trans hg | exact (((HG0.out.alloc _).alloc _).alloc _).trans hg | exact HG0.out.drew.trans hg | exact (HG0.out.alloc _).drew.trans hg)); rotate_left; (obtain ⟨rfl, hst1⟩ := hV); (have HR1 := Lib.hid hR; have HG1 : RowKit.Hid (Rg r w w1) := Lib.hid (by first | exact HG0.out.trans hg | exact (HG0.out.alloc _).trans hg | exact ((HG0.out.alloc _).alloc _).trans hg | exact (((HG0.out.alloc _).alloc _).alloc _).trans hg | exact HG0.out.drew.trans hg | exact (HG0.out.alloc _).drew.trans hg); have HS1 := Lib.hid hS; have HX1 := Lib.hid hx; have HD1 := Lib.hid hg; clear hR hg hS hx); (have HBx1 := Lib.hid (HD1.out.keep (hb_new _ _) (by omega))); (have hz1 := HD1.out.size; rw [World.size_alloc] at hz1))
      | (go_at_call 34; (with_reducible refine (sign_any r E sEq _ _ (by first | exact HR1.out | exact HR1.out.alloc _ | exact (HR1.out.alloc _).alloc _ | exact ((HR1.out.alloc _).alloc _).alloc _ | exact HR1.out.upto (fun _ _ _ => rfl) | exact (HR1.out.alloc _).upto (fun _ _ _ => rfl))).mono ?_); rintro e w2 h2; rcases h2.step HS1.out with ⟨v2, a2, ts2, rfl, hV, hR, hg, hS, hx⟩ | ⟨y, rfl, hg, hSE⟩; rotate_left; (have hGE : Rg r w w2 := (by first | exact HG1.out.trans hg | exact (HG1.out.alloc _).trans hg | exact ((HG1.out.alloc _).alloc _).trans hg | exact (((HG1.out.alloc _).alloc _).alloc _).trans hg | exact HG1.out.drew.trans hg | exact (HG1.out.alloc _).drew.trans hg)); rotate_left; (obtain rfl := hV); (have HR2 := Lib.hid hR; have HG2 : RowKit.Hid (Rg r w w2) := Lib.hid (by first | exact HG1.out.trans hg | exact (HG1.out.alloc _).trans hg | exact ((HG1.out.alloc _).alloc _).trans hg | exact (((HG1.out.alloc _).alloc _).alloc _).trans hg | exact HG1.out.drew.trans hg | exact (HG1.out.alloc _).drew.trans hg); have HS2 := Lib.hid hS; have HX2 := Lib.hid hx; have HD2 := Lib.hid hg; clear hR hg hS hx); (have HBx2 := Lib.hid (HD2.out.keep HBx1.out (by omega))); have hz2 := HD2.out.size)
      | (go_at_call 59; (obtain ⟨nk, nn, na, hN⟩ := nextT r E ts2 _ (by first | exact HR2.out | exact HR2.out.alloc _ | exact (HR2.out.alloc _).alloc _ | exact ((HR2.out.alloc _).alloc _).alloc _ | exact HR2.out.upto (fun _ _ _ => rfl) | exact (HR2.out.alloc _).upto (fun _ _ _ => rfl))); (with_reducible refine hN.mono ?_); rintro e w3 ⟨rfl, hb⟩; have HD3 := Lib.hid (Rg.of_below (r := r) hb); have HG3 : RowKit.Hid (Rg r w w3) := Lib.hid (by first | exact HG2.out.trans (Rg.of_below hb) | exact (HG2.out.alloc _).trans (Rg.of_below hb) | exact ((HG2.out.alloc _).alloc _).trans (Rg.of_below hb)); have HR3 : RowKit.Hid (Rd r E w3 ts2) := Lib.hid (HR2.out.below hb); (have HBx3 := Lib.hid (HD3.out.keep HBx2.out (by omega))); have hz3 := HD3.out.size; clear hb hN)
      | (go_at_call 94; (with_reducible refine (isPkg_any (tx ts2) _).mono ?_); rintro e w3x ⟨rfl, rfl⟩; have hS := HS2.out; (cases hP : Sv.pkgB (tx ts2).data.toList <;> (rw [hP] at hS; first | rw [if_pos rfl] at hS | rw [if_neg (by decide)] at hS) <;> (have HS3 := Lib.hid hS; clear hS hP)))
      | (go_at_call 32; (with_reducible refine (fault_at r E 10 _ _ (by first | exact HR3.out | exact HR3.out.alloc _ | exact (HR3.out.alloc _).alloc _ | exact ((HR3.out.alloc _).alloc _).alloc _ | exact HR3.out.upto (fun _ _ _ => rfl) | exact (HR3.out.alloc _).upto (fun _ _ _ => rfl)) 10 rfl).mono ?_); rintro e w9 ⟨rfl, hb⟩; have HG9 : RowKit.Hid (Rg r w w9) := Lib.hid (HG3.out.trans (Rg.of_below hb)); clear hb)
      | (go_at_call 66; (with_reducible refine (take_st r E 1 _ (by decide) _ (by first | exact HR3.out | exact HR3.out.alloc _ | exact (HR3.out.alloc _).alloc _ | exact ((HR3.out.alloc _).alloc _).alloc _ | exact HR3.out.upto (fun _ _ _ => rfl) | exact (HR3.out.alloc _).upto (fun _ _ _ => rfl))).mono ?_); rintro e w4 h4; rcases h4.step HS3.out with ⟨v4, a4, ts4, rfl, hV, hR, hg, hS, hx⟩ | ⟨y, rfl, hg, hSE⟩; rotate_left; (have hGE : Rg r w w4 := (by first | exact HG3.out.trans hg | exact (HG3.out.alloc _).trans hg | exact ((HG3.out.alloc _).alloc _).trans hg | exact (((HG3.out.alloc _).alloc _).alloc _).trans hg | exact HG3.out.drew.trans hg | exact (HG3.out.alloc _).drew.trans hg)); rotate_left; (obtain ⟨rfl, hst4⟩ := hV); (have HR4 := Lib.hid hR; have HG4 : RowKit.Hid (Rg r w w4) := Lib.hid (by first | exact HG3.out.trans hg | exact (HG3.out.alloc _).trans hg | exact ((HG3.out.alloc _).alloc _).trans hg | exact (((HG3.out.alloc _).alloc _).alloc _).trans hg | exact HG3.out.drew.trans hg | exact (HG3.out.alloc _).drew.trans hg); have HS4 := Lib.hid hS; have HX4 := Lib.hid hx; have HD4 := Lib.hid hg; clear hR hg hS hx); (have HBx4 := Lib.hid (HD4.out.keep HBx3.out (by omega))); have hz4 := HD4.out.size)
      | (go_at_call 34; (with_reducible refine (sign_any r E sAt _ _ (by first | exact HR4.out | exact HR4.out.alloc _ | exact (HR4.out.alloc _).alloc _ | exact ((HR4.out.alloc _).alloc _).alloc _ | exact HR4.out.upto (fun _ _ _ => rfl) | exact (HR4.out.alloc _).upto (fun _ _ _ => rfl))).mono ?_); rintro e w5 h5; rcases h5.step HS4.out with ⟨v5, a5, ts5, rfl, hV, hR, hg, hS, hx⟩ | ⟨y, rfl, hg, hSE⟩; rotate_left; (have hGE : Rg r w w5 := (by first | exact HG4.out.trans hg | exact (HG4.out.alloc _).trans hg | exact ((HG4.out.alloc _).alloc _).trans hg | exact (((HG4.out.alloc _).alloc _).alloc _).trans hg | exact HG4.out.drew.trans hg | exact (HG4.out.alloc _).drew.trans hg)); rotate_left; (obtain rfl := hV); (have HR5 := Lib.hid hR; have HG5 : RowKit.Hid (Rg r w w5) := Lib.hid (by first | exact HG4.out.trans hg | exact (HG4.out.alloc _).trans hg | exact ((HG4.out.alloc _).alloc _).trans hg | exact (((HG4.out.alloc _).alloc _).alloc _).trans hg | exact HG4.out.drew.trans hg | exact (HG4.out.alloc _).drew.trans hg); have HS5 := Lib.hid hS; have HX5 := Lib.hid hx; have HD5 := Lib.hid hg; clear hR hg hS hx); (have HBx5 := Lib.hid (HD5.out.keep HBx4.out (by omega))); have hz5 := HD5.out.size)
      | (go_at_call 66; (with_reducible refine (take_st r E 6 _ (by decide) _ (by first | exact HR5.out | exact HR5.out.alloc _ | exact (HR5.out.alloc _).alloc _ | exact ((HR5.out.alloc _).alloc _).alloc _ | exact HR5.out.upto (fun _ _ _ => rfl) | exact (HR5.out.alloc _).upto (fun _ _ _ => rfl))).mono ?_); rintro e w6 h6; rcases h6.step HS5.out with ⟨v6, a6, ts6, rfl, hV, hR, hg, hS, hx⟩ | ⟨y, rfl, hg, hSE⟩; rotate_left; (have hGE : Rg r w w6 := (by first | exact HG5.out.trans hg | exact (HG5.out.alloc _).trans hg | exact ((HG5.out.alloc _).alloc _).trans hg | exact (((HG5.out.alloc _).alloc _).alloc _).trans hg | exact HG5.out.drew.trans hg | exact (HG5.out.alloc _).drew.trans hg)); rotate_left; (obtain ⟨rfl, hst6⟩ := hV); (have HR6 := Lib.hid hR; have HG6 : RowKit.Hid (Rg r w w6) := Lib.hid (by first | exact HG5.out.trans hg | exact (HG5.out.alloc _).trans hg | exact ((HG5.out.alloc _).alloc _).trans hg | exact (((HG5.out.alloc _).alloc _).alloc _).trans hg | exact HG5.out.drew.trans hg | exact (HG5.out.alloc _).drew.trans hg); have HS6 := Lib.hid hS; have HX6 := Lib.hid hx; have HD6 := Lib.hid hg; clear hR hg hS hx); (have HBx6 := Lib.hid (HD6.out.keep HBx5.out (by omega))); have hz6 := HD6.out.size)
      | (go_at_call 95; (obtain ⟨va, vb, vc, pe, hv, hN⟩ := parseT a6 hst6 w6); (with_reducible refine hN.mono ?_); rintro e w7 ⟨rfl, hb⟩; have HD7 := Lib.hid (Rg.of_below (r := r) hb); have HG7 : RowKit.Hid (Rg r w w7) := Lib.hid (by first | exact HG6.out.trans (Rg.of_below hb) | exact (HG6.out.alloc _).trans (Rg.of_below hb) | exact ((HG6.out.alloc _).alloc _).trans (Rg.of_below hb)); have HR7 : RowKit.Hid (Rd r E w7 ts6) := Lib.hid (HR6.out.below hb); have hS := HS6.out; rw [hv] at hS; have HS7 := Lib.hid hS; (have HBx7 := Lib.hid (HD7.out.keep HBx6.out (by omega))); have hz7 := HD7.out.size; have u0 := hb_at HBx7.out 0 rfl; have v0 := hb_free HBx7.out 0; have u1 := hb_at HBx7.out 1 rfl; have v1 := hb_free HBx7.out 1; have u2 := hb_at HBx7.out 2 rfl; have v2 := hb_free HBx7.out 2; have u3 := hb_at HBx7.out 3 rfl; have v3 := hb_free HBx7.out 3; have u4 := hb_at HBx7.out 4 rfl; have v4 := hb_free HBx7.out 4; have su := hb_lt HBx7.out; clear hb hN hS hv))
  all_goals first | exact ⟨rfl, hGE, rfl⟩ | exact ⟨rfl, hGE, by rw [hSE]⟩ | skip
  all_goals first
    | exact ⟨rfl, HG9.out, by rw [HS3.out]; rfl⟩
    | skip
  have hb := setL5 HBx7.out (.string a1) (.string a4) (.int .i64 va) (.int .i64 vb) (.int .i64 vc)
  have hg := setL_rg (Nat.le_refl _) [.string a1, .string a4, .int .i64 va, .int .i64 vb, .int .i64 vc] 0 _ HG7.out
  have hr := setL_rd hrl [.string a1, .string a4, .int .i64 va, .int .i64 vb, .int .i64 vc] 0 _ HR7.out
  have hS := HS7.out
  subst hS
  exact bodyPost_ret (v := mkI [.string a1, .string a4, .int .i64 va, .int .i64 vb, .int .i64 vc]) (res_imp rfl (hb_alloc hb _)) rfl ⟨hg.alloc _, ⟨_, rfl, [.string a1, .string a4, .int .i64 va, .int .i64 vb, .int .i64 vc], rfl, rfl, hst1, hst4⟩, hr.alloc _⟩
end Go.Proofs.YtlbnaddgdgbckaaGreatDoor
