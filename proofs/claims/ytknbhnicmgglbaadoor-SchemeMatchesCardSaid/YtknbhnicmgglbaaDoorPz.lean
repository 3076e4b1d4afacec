/- SchemeMatches: its walk. -/
import Derived.Test.YtknbhnicmgglbaaDoorPw
namespace Go.Proofs.YtknbhnicmgglbaaDoor
open Go.RowKit
set_option linter.unusedSimpArgs false
set_option linter.unusedVariables false
set_option maxRecDepth 100000 in
set_option maxHeartbeats 8000000 in
theorem matches_walk (d : Nat) (vg vs : Value) (tg ts : Tm) (w : World) (hi1 : IsT w d vg tg) (hi2 : IsT w d vs ts) :
    Calls Tryd.prog 3 #[vg, vs] w fun e w' => e = .returned (.bool true) ∧ Below w.heap.size w w' := by
  obtain ⟨k1, p1, n1, N1, q1, l1, c1, rfl⟩ := hi1.shp
  obtain ⟨k2, p2, n2, N2, q2, l2, c2, rfl⟩ := hi2.shp
  have hB0 : Below w.heap.size w ((w.alloc (.cells #[.int .i64 k1, .string p1, .string n1, .int .i64 N1, .slice q1 l1 c1] 24)).alloc (.cells #[.int .i64 k2, .string p2, .string n2, .int .i64 N2, .slice q2 l2 c2] 24)) := below2 w _ _
  have b1 := hb_alloc (hb_new w (.cells #[.int .i64 k1, .string p1, .string n1, .int .i64 N1, .slice q1 l1 c1] 24)) (.cells #[.int .i64 k2, .string p2, .string n2, .int .i64 N2, .slice q2 l2 c2] 24)
  have b2 := hb_new (w.alloc (.cells #[.int .i64 k1, .string p1, .string n1, .int .i64 N1, .slice q1 l1 c1] 24)) (.cells #[.int .i64 k2, .string p2, .string n2, .int .i64 N2, .slice q2 l2 c2] 24)
  rw [World.size_alloc] at b2
  have I1 := Lib.hid b1
  have T1 := Lib.hid (hi1.below hB0)
  have I2 := Lib.hid b2
  have T2 := Lib.hid (hi2.below hB0)
  have HB0 := Lib.hid hB0
  clear hB0 b1 b2 hi1 hi2
  go_enter Tryd.func3, Tryd.ntmps3
  go_upto_region 1 with fail
  generalize ((w.alloc (.cells #[.int .i64 k1, .string p1, .string n1, .int .i64 N1, .slice q1 l1 c1] 24)).alloc (.cells #[.int .i64 k2, .string p2, .string n2, .int .i64 N2, .slice q2 l2 c2] 24)) = W0 at *
  go_cut [20] (fun v wx => ∃ r : Bool, v = .bool r ∧ Below W0.heap.size W0 wx ∧ (r = false → Gd d tg 600 600 ∧ Gd d ts 600 600))
  case first =>
    skip
    have HQ0 := Lib.hid (Below.refl W0.heap.size W0)
    have x0 := hb_at (hb_below I1.out HQ0.out (hb_lt I1.out)) 0 rfl
    have x1 := hb_at (hb_below I1.out HQ0.out (hb_lt I1.out)) 1 rfl
    have x2 := hb_at (hb_below I1.out HQ0.out (hb_lt I1.out)) 2 rfl
    have x3 := hb_at (hb_below I1.out HQ0.out (hb_lt I1.out)) 3 rfl
    have x4 := hb_at (hb_below I1.out HQ0.out (hb_lt I1.out)) 4 rfl
    go_wp2_with fail
    clear x0 x1 x2 x3 x4
    (with_reducible refine (few4_any d _ tg _ (T1.out.below HQ0.out)).mono ?_)
    rintro e w1 ⟨r1, rfl, hr1, hb1⟩
    have HQ1 := Lib.hid (HQ0.out.trans (hb1.mono HQ0.out.size))
    have HR1 := Lib.hid hr1
    clear hb1 hr1
    cases r1
    · go_wp2_with fail
      go_meet
      exact ⟨true, rfl, HQ1.out, fun h => by cases h⟩
    · have x0 := hb_at (hb_below I2.out HQ1.out (hb_lt I2.out)) 0 rfl
      have x1 := hb_at (hb_below I2.out HQ1.out (hb_lt I2.out)) 1 rfl
      have x2 := hb_at (hb_below I2.out HQ1.out (hb_lt I2.out)) 2 rfl
      have x3 := hb_at (hb_below I2.out HQ1.out (hb_lt I2.out)) 3 rfl
      have x4 := hb_at (hb_below I2.out HQ1.out (hb_lt I2.out)) 4 rfl
      go_wp2_with fail
      clear x0 x1 x2 x3 x4
      (with_reducible refine (few4_any d _ ts _ (T2.out.below HQ1.out)).mono ?_)
      rintro e w2 ⟨r2, rfl, hr2, hb2⟩
      have HQ2 := Lib.hid (HQ1.out.trans (hb2.mono HQ1.out.size))
      have HR2 := Lib.hid hr2
      clear hb2 hr2
      cases r2
      · go_wp2_with fail
        go_meet
        exact ⟨true, rfl, HQ2.out, fun h => by cases h⟩
      · go_wp2_with fail
        go_meet
        exact ⟨_, rfl, HQ2.out, fun _ => ⟨Gd.of_few (HR1.out trivial).1 (HR1.out trivial).2.1 (HR1.out trivial).2.2, Gd.of_few (HR2.out trivial).1 (HR2.out trivial).2.1 (HR2.out trivial).2.2⟩⟩
  case rest =>
    obtain ⟨r, rfl, hBc, hr⟩ := hcut
    have HBC := Lib.hid (HB0.out.trans (hBc.mono HB0.out.size))
    have J1 := Lib.hid (hb_below I1.out hBc (hb_lt I1.out))
    have HT1 := Lib.hid (T1.out.below hBc)
    have J2 := Lib.hid (hb_below I2.out hBc (hb_lt I2.out))
    have HT2 := Lib.hid (T2.out.below hBc)
    clear hBc HB0 I1 T1 I2 T2
    cases r
    rotate_left
    · clear hr
      go_wp2_with (go_at_call 6; ((with_reducible refine (alive_any _).mono ?_); rintro e w9 ⟨rfl, hb⟩))
      go_ret
      exact ⟨rfl, HBC.out.trans (hb.mono HBC.out.size)⟩
    obtain ⟨g1, g2⟩ := hr rfl
    clear hr
    have G1 := Lib.hid g1
    have G2 := Lib.hid g2
    clear g1 g2
    have hP0 : Below wc.heap.size wc wc := Below.refl _ _
    have HP0 := Lib.hid hP0
    clear hP0
    have x10 := hb_at (hb_below J1.out HP0.out (hb_lt J1.out)) 0 rfl
    have x11 := hb_at (hb_below J1.out HP0.out (hb_lt J1.out)) 1 rfl
    have x12 := hb_at (hb_below J1.out HP0.out (hb_lt J1.out)) 2 rfl
    have x13 := hb_at (hb_below J1.out HP0.out (hb_lt J1.out)) 3 rfl
    have x14 := hb_at (hb_below J1.out HP0.out (hb_lt J1.out)) 4 rfl
    have x20 := hb_at (hb_below J2.out HP0.out (hb_lt J2.out)) 0 rfl
    have x21 := hb_at (hb_below J2.out HP0.out (hb_lt J2.out)) 1 rfl
    have x22 := hb_at (hb_below J2.out HP0.out (hb_lt J2.out)) 2 rfl
    have x23 := hb_at (hb_below J2.out HP0.out (hb_lt J2.out)) 3 rfl
    have x24 := hb_at (hb_below J2.out HP0.out (hb_lt J2.out)) 4 rfl
    go_wp2_with fail
    clear x10 x11 x12 x13 x14 x20 x21 x22 x23 x24
    (with_reducible refine (matchX_any d _ _ tg ts _ (HT1.out.below HP0.out) (HT2.out.below HP0.out) G1.out.sm G2.out.sm (by have := G1.out.sz; omega)).mono ?_)
    rintro e w1 ⟨r, v1, rfl, hmu, hn, hy, hb1⟩
    have HP1 := Lib.hid (HP0.out.trans (hb1.mono HP0.out.size))
    clear hb1
    have hab : r.isSome = abB tg ts := abB_of (mt_iff hmu.mt)
    cases r with
    | none =>
      skip
      obtain rfl := hn rfl
      have hab2 : abB tg ts = false := hab.symm
      clear hmu hn hy hab
      have x10 := hb_at (hb_below J1.out HP1.out (hb_lt J1.out)) 0 rfl
      have x11 := hb_at (hb_below J1.out HP1.out (hb_lt J1.out)) 1 rfl
      have x12 := hb_at (hb_below J1.out HP1.out (hb_lt J1.out)) 2 rfl
      have x13 := hb_at (hb_below J1.out HP1.out (hb_lt J1.out)) 3 rfl
      have x14 := hb_at (hb_below J1.out HP1.out (hb_lt J1.out)) 4 rfl
      have x20 := hb_at (hb_below J2.out HP1.out (hb_lt J2.out)) 0 rfl
      have x21 := hb_at (hb_below J2.out HP1.out (hb_lt J2.out)) 1 rfl
      have x22 := hb_at (hb_below J2.out HP1.out (hb_lt J2.out)) 2 rfl
      have x23 := hb_at (hb_below J2.out HP1.out (hb_lt J2.out)) 3 rfl
      have x24 := hb_at (hb_below J2.out HP1.out (hb_lt J2.out)) 4 rfl
      go_wp2_with fail
      clear x10 x11 x12 x13 x14 x20 x21 x22 x23 x24
      (with_reducible refine (rmatch_any d _ _ tg ts _ (HT1.out.below HP1.out) (HT2.out.below HP1.out) G1.out.ty (by have := G1.out.sz; omega)).mono ?_)
      rintro e w2 ⟨v2, rfl, ha2, hc2, hb2⟩
      have HP2 := Lib.hid (HP1.out.trans (hb2.mono HP1.out.size))
      clear hb2
      obtain rfl := ha2 hab2
      clear ha2 hc2
      rw [hab2]
      go_wp2_with fail
      (with_reducible refine (usame_any d _ _ [] _ (VAt.nil _ _) (VAt.nil _ _)).mono ?_)
      rintro e w3 ⟨rfl, hb3⟩
      have HP3 := Lib.hid (HP2.out.trans (hb3.mono HP2.out.size))
      clear hb3
      have x10 := hb_at (hb_below J1.out HP3.out (hb_lt J1.out)) 0 rfl
      have x11 := hb_at (hb_below J1.out HP3.out (hb_lt J1.out)) 1 rfl
      have x12 := hb_at (hb_below J1.out HP3.out (hb_lt J1.out)) 2 rfl
      have x13 := hb_at (hb_below J1.out HP3.out (hb_lt J1.out)) 3 rfl
      have x14 := hb_at (hb_below J1.out HP3.out (hb_lt J1.out)) 4 rfl
      have x20 := hb_at (hb_below J2.out HP3.out (hb_lt J2.out)) 0 rfl
      have x21 := hb_at (hb_below J2.out HP3.out (hb_lt J2.out)) 1 rfl
      have x22 := hb_at (hb_below J2.out HP3.out (hb_lt J2.out)) 2 rfl
      have x23 := hb_at (hb_below J2.out HP3.out (hb_lt J2.out)) 3 rfl
      have x24 := hb_at (hb_below J2.out HP3.out (hb_lt J2.out)) 4 rfl
      go_wp2_with fail
      clear x10 x11 x12 x13 x14 x20 x21 x22 x23 x24
      (with_reducible refine (aboveB_any d _ _ tg ts _ (G1.out.two G2.out (HT1.out.below HP3.out) (HT2.out.below HP3.out) (Nat.le_refl _) (Nat.le_refl _) (by omega) (by omega))).mono ?_)
      rintro e w4 ⟨rfl, hb4⟩
      rw [hab2]
      have HP4 := Lib.hid (HP3.out.trans (hb4.mono HP3.out.size))
      clear hb4
      have x10 := hb_at (hb_below J1.out HP4.out (hb_lt J1.out)) 0 rfl
      have x11 := hb_at (hb_below J1.out HP4.out (hb_lt J1.out)) 1 rfl
      have x12 := hb_at (hb_below J1.out HP4.out (hb_lt J1.out)) 2 rfl
      have x13 := hb_at (hb_below J1.out HP4.out (hb_lt J1.out)) 3 rfl
      have x14 := hb_at (hb_below J1.out HP4.out (hb_lt J1.out)) 4 rfl
      have x20 := hb_at (hb_below J2.out HP4.out (hb_lt J2.out)) 0 rfl
      have x21 := hb_at (hb_below J2.out HP4.out (hb_lt J2.out)) 1 rfl
      have x22 := hb_at (hb_below J2.out HP4.out (hb_lt J2.out)) 2 rfl
      have x23 := hb_at (hb_below J2.out HP4.out (hb_lt J2.out)) 3 rfl
      have x24 := hb_at (hb_below J2.out HP4.out (hb_lt J2.out)) 4 rfl
      go_wp2_with fail
      clear x10 x11 x12 x13 x14 x20 x21 x22 x23 x24
      (with_reducible refine (sameB_any d _ _ tg ts _ (G1.out.two G2.out (HT1.out.below HP4.out) (HT2.out.below HP4.out) (Nat.le_refl _) (Nat.le_refl _) (by omega) (by omega))).mono ?_)
      rintro e w5 ⟨rfl, hb5⟩
      rw [hab2, Bool.false_and]
      have HP5 := Lib.hid (HP4.out.trans (hb5.mono HP4.out.size))
      clear hb5
      go_wp2_with fail
      (with_reducible refine (alive_any _).mono ?_)
      rintro e w6 ⟨rfl, hb6⟩
      have HP6 := Lib.hid (HP5.out.trans (hb6.mono HP5.out.size))
      clear hb6
      go_wp2
      go_ret
      exact ⟨rfl, HBC.out.trans (HP6.out.mono HBC.out.size)⟩
    | some Q =>
      skip
      have HC1 := Lib.hid (Below.refl w1.heap.size w1)
      have hsol : Sol Q tg ts := (hmu.yes rfl).2 (tg, ts) (List.mem_singleton.2 rfl)
      have hV1 := hy Q rfl
      have hab2 : abB tg ts = true := hab.symm
      have HSOL := Lib.hid hsol
      have HV1 := Lib.hid hV1
      have HMR := Lib.hid (mrec_is G1.out.ty hsol)
      obtain ⟨qv, cv, rfl⟩ := hV1.shape
      clear hmu hn hy hab hsol hV1
      have x10 := hb_at (hb_below J1.out HP1.out (hb_lt J1.out)) 0 rfl
      have x11 := hb_at (hb_below J1.out HP1.out (hb_lt J1.out)) 1 rfl
      have x12 := hb_at (hb_below J1.out HP1.out (hb_lt J1.out)) 2 rfl
      have x13 := hb_at (hb_below J1.out HP1.out (hb_lt J1.out)) 3 rfl
      have x14 := hb_at (hb_below J1.out HP1.out (hb_lt J1.out)) 4 rfl
      have x20 := hb_at (hb_below J2.out HP1.out (hb_lt J2.out)) 0 rfl
      have x21 := hb_at (hb_below J2.out HP1.out (hb_lt J2.out)) 1 rfl
      have x22 := hb_at (hb_below J2.out HP1.out (hb_lt J2.out)) 2 rfl
      have x23 := hb_at (hb_below J2.out HP1.out (hb_lt J2.out)) 3 rfl
      have x24 := hb_at (hb_below J2.out HP1.out (hb_lt J2.out)) 4 rfl
      go_wp2_with fail
      clear x10 x11 x12 x13 x14 x20 x21 x22 x23 x24
      (with_reducible refine (rmatch_any d _ _ tg ts _ (HT1.out.below HP1.out) (HT2.out.below HP1.out) G1.out.ty (by have := G1.out.sz; omega)).mono ?_)
      rintro e w2 ⟨v2, rfl, ha2, hc2, hb2⟩
      have HB12 := Lib.hid hb2
      have HP2 := Lib.hid (HP1.out.trans (hb2.mono HP1.out.size))
      have HC2 := Lib.hid (HC1.out.trans (hb2.mono HC1.out.size))
      clear hb2
      obtain ⟨L2, hL2, hV2⟩ := hc2 hab2
      rw [HMR.out] at hL2
      cases hL2
      obtain ⟨qv2, cv2, rfl⟩ := hV2.shape
      have HV2 := Lib.hid hV2
      clear ha2 hc2 hV2
      rw [hab2]
      go_wp2_with fail
      (with_reducible refine (usame_any d _ _ (matL Q (varsT d [] tg)) _ (HV1.out.below (Below.mono HB12.out (Nat.le_refl _))) HV2.out).mono ?_)
      rintro e w3 ⟨rfl, hb3⟩
      have HP3 := Lib.hid (HP2.out.trans (hb3.mono HP2.out.size))
      have HC3 := Lib.hid (HC2.out.trans (hb3.mono HC2.out.size))
      clear hb3
      have x10 := hb_at (hb_below J1.out HP3.out (hb_lt J1.out)) 0 rfl
      have x11 := hb_at (hb_below J1.out HP3.out (hb_lt J1.out)) 1 rfl
      have x12 := hb_at (hb_below J1.out HP3.out (hb_lt J1.out)) 2 rfl
      have x13 := hb_at (hb_below J1.out HP3.out (hb_lt J1.out)) 3 rfl
      have x14 := hb_at (hb_below J1.out HP3.out (hb_lt J1.out)) 4 rfl
      have x20 := hb_at (hb_below J2.out HP3.out (hb_lt J2.out)) 0 rfl
      have x21 := hb_at (hb_below J2.out HP3.out (hb_lt J2.out)) 1 rfl
      have x22 := hb_at (hb_below J2.out HP3.out (hb_lt J2.out)) 2 rfl
      have x23 := hb_at (hb_below J2.out HP3.out (hb_lt J2.out)) 3 rfl
      have x24 := hb_at (hb_below J2.out HP3.out (hb_lt J2.out)) 4 rfl
      go_wp2_with fail
      clear x10 x11 x12 x13 x14 x20 x21 x22 x23 x24
      (with_reducible refine (aboveB_any d _ _ tg ts _ (G1.out.two G2.out (HT1.out.below HP3.out) (HT2.out.below HP3.out) (Nat.le_refl _) (Nat.le_refl _) (by omega) (by omega))).mono ?_)
      rintro e w4 ⟨rfl, hb4⟩
      rw [hab2]
      have HP4 := Lib.hid (HP3.out.trans (hb4.mono HP3.out.size))
      have HC4 := Lib.hid (HC3.out.trans (hb4.mono HC3.out.size))
      clear hb4
      have x10 := hb_at (hb_below J1.out HP4.out (hb_lt J1.out)) 0 rfl
      have x11 := hb_at (hb_below J1.out HP4.out (hb_lt J1.out)) 1 rfl
      have x12 := hb_at (hb_below J1.out HP4.out (hb_lt J1.out)) 2 rfl
      have x13 := hb_at (hb_below J1.out HP4.out (hb_lt J1.out)) 3 rfl
      have x14 := hb_at (hb_below J1.out HP4.out (hb_lt J1.out)) 4 rfl
      have x20 := hb_at (hb_below J2.out HP4.out (hb_lt J2.out)) 0 rfl
      have x21 := hb_at (hb_below J2.out HP4.out (hb_lt J2.out)) 1 rfl
      have x22 := hb_at (hb_below J2.out HP4.out (hb_lt J2.out)) 2 rfl
      have x23 := hb_at (hb_below J2.out HP4.out (hb_lt J2.out)) 3 rfl
      have x24 := hb_at (hb_below J2.out HP4.out (hb_lt J2.out)) 4 rfl
      go_wp2_with fail
      clear x10 x11 x12 x13 x14 x20 x21 x22 x23 x24
      (with_reducible refine (sameB_any d _ _ tg ts _ (G1.out.two G2.out (HT1.out.below HP4.out) (HT2.out.below HP4.out) (Nat.le_refl _) (Nat.le_refl _) (by omega) (by omega))).mono ?_)
      rintro e w5 ⟨rfl, hb5⟩
      rw [hab2, Bool.true_and]
      have HP5 := Lib.hid (HP4.out.trans (hb5.mono HP4.out.size))
      have HC5 := Lib.hid (HC4.out.trans (hb5.mono HC4.out.size))
      clear hb5
      have x10 := hb_at (hb_below J1.out HP5.out (hb_lt J1.out)) 0 rfl
      have x11 := hb_at (hb_below J1.out HP5.out (hb_lt J1.out)) 1 rfl
      have x12 := hb_at (hb_below J1.out HP5.out (hb_lt J1.out)) 2 rfl
      have x13 := hb_at (hb_below J1.out HP5.out (hb_lt J1.out)) 3 rfl
      have x14 := hb_at (hb_below J1.out HP5.out (hb_lt J1.out)) 4 rfl
      have x20 := hb_at (hb_below J2.out HP5.out (hb_lt J2.out)) 0 rfl
      have x21 := hb_at (hb_below J2.out HP5.out (hb_lt J2.out)) 1 rfl
      have x22 := hb_at (hb_below J2.out HP5.out (hb_lt J2.out)) 2 rfl
      have x23 := hb_at (hb_below J2.out HP5.out (hb_lt J2.out)) 3 rfl
      have x24 := hb_at (hb_below J2.out HP5.out (hb_lt J2.out)) 4 rfl
      go_wp2_with fail
      clear x10 x11 x12 x13 x14 x20 x21 x22 x23 x24
      (with_reducible refine (rabove_any d _ _ ts tg _ (HT2.out.below HP5.out) (HT1.out.below HP5.out) G2.out.ty (by have := G2.out.sz; omega)).mono ?_)
      rintro e w6 ⟨rfl, hb6⟩
      generalize abB ts tg = rr at *
      have HP6 := Lib.hid (HP5.out.trans (hb6.mono HP5.out.size))
      have HC6 := Lib.hid (HC5.out.trans (hb6.mono HC5.out.size))
      clear hb6
      go_wp2
      have hVL := HV1.out.below HC6.out
      obtain ⟨_, _, es, hml, hVX⟩ := id hVL
      injection es with es1 es2 es3
      have HVX := Lib.hid hVX
      have HLQ : RowKit.Hid (matL Q (varsT d [] tg) = matL Q (varsT d [] tg)) := Lib.hid rfl
      clear es2 es3 hVX hVL
      generalize hLq : matL Q (varsT d [] tg) = L at *
      have HLQ2 := Lib.hid hLq
      clear hLq HLQ
      generalize hm : L.length = m at *
      have HM := Lib.hid hm
      clear hm
      subst es1
      go_loopw [9, 10, 67] (fun nv bv i wr => ∃ j : Nat, j ≤ m ∧ i = .int .i64 j ∧ Ls w6 wr d ((L.take j).map Prod.fst) ((L.take j).map Prod.snd) nv bv) (fun _ _ i _ => m - (intOf i).toNat)
      case atStart => exact ⟨0, Nat.zero_le _, rfl, by simpa using Ls.start w6 d⟩
      case round =>
        obtain ⟨j, hj, rfl, hLs⟩ := hrel
        have HLS := Lib.hid hLs
        have hjl : ((L.take j).map Prod.fst).length = j := by rw [List.length_map, List.length_take, HM.out]; omega
        have hjl2 : ((L.take j).map Prod.snd).length = j := by rw [List.length_map, List.length_take, HM.out]; omega
        obtain ⟨⟨qn, cn, hnv⟩, qb, cb, hbv⟩ := hLs.shapes
        rw [hjl] at hnv
        rw [hjl2] at hbv
        subst hnv
        subst hbv
        have HJL := Lib.hid hjl
        have HJL2 := Lib.hid hjl2
        have hbel := hLs.bel
        clear hLs hjl hjl2
        by_cases hlt : (j : Int) < (m : Int)
        · have hx : L[j]? = some (L[j]'(by have := HM.out; omega)) := List.getElem?_eq_getElem (by have := HM.out; omega)
          obtain ⟨g, k, p, n, N, s, e1, e2, e3, e4, e5⟩ := HVX.out j _ hx
          subst e1
          have HNX1 : RowKit.Hid ((L.take (j + 1)).map Prod.fst = (L.take j).map Prod.fst ++ [(L[j]'(by have := HM.out; omega)).1]) := Lib.hid (by rw [List.take_succ_eq_append_getElem (by have := HM.out; omega), List.map_append]; rfl)
          have HNX2 : RowKit.Hid ((L.take (j + 1)).map Prod.snd = (L.take j).map Prod.snd ++ [(L[j]'(by have := HM.out; omega)).2]) := Lib.hid (by rw [List.take_succ_eq_append_getElem (by have := HM.out; omega), List.map_append]; rfl)
          generalize (L[j]'(by have := HM.out; omega)) = x at *
          obtain ⟨q, ln, c, rfl⟩ := e5.spell
          have E5 := Lib.hid e5
          obtain ⟨a0, a1, a2, a3, a4⟩ := e4
          have z0 := keep_cell hbel e2
          have z1 : wr.cell? ⟨g, j * 6 + 1, none⟩ = some (.int .i64 k) := keep_cell hbel a0
          have z2 : wr.cell? ⟨g, j * 6 + 2, none⟩ = some (.string p) := keep_cell hbel a1
          have z3 : wr.cell? ⟨g, j * 6 + 3, none⟩ = some (.string n) := keep_cell hbel a2
          have z4 : wr.cell? ⟨g, j * 6 + 4, none⟩ = some (.int .i64 N) := keep_cell hbel a3
          have z5 : wr.cell? ⟨g, j * 6 + 5, none⟩ = some (.slice q ln c) := keep_cell hbel a4
          generalize x.1 = xn at *
          generalize x.2 = xt at *
          have HXX := Lib.hid hx
          clear hx e2 e5 a0 a1 a2 a3 a4 hbel
          go_upto_region 14 with fail
          have hbx := hb_new wr (.cells #[.string xn, .int .i64 k, .string p, .string n, .int .i64 N, .slice q ln c] 34)
          have HLA := Lib.hid (HLS.out.step (below_alloc wr (.cells #[.string xn, .int .i64 k, .string p, .string n, .int .i64 N, .slice q ln c] 34)))
          clear z0 z1 z2 z3 z4 z5
          generalize wr.alloc (.cells #[.string xn, .int .i64 k, .string p, .string n, .int .i64 N, .slice q ln c] 34) = W1 at *
          generalize wr.heap.size = bb at *
          have HBX := Lib.hid hbx
          refine wp_region_held_drew (S := (fun w' => w'.cell? ⟨bb, 0, none⟩ = some (.string xn) ∧ w'.cell? ⟨bb, 1, none⟩ = some (.int .i64 k) ∧ w'.cell? ⟨bb, 2, none⟩ = some (.string p) ∧ w'.cell? ⟨bb, 3, none⟩ = some (.string n) ∧ w'.cell? ⟨bb, 4, none⟩ = some (.int .i64 N) ∧ w'.cell? ⟨bb, 5, none⟩ = some (.slice q ln c))) (by kernel_rfl) (by exact ⟨hb_at hbx 0 rfl, hb_at hbx 1 rfl, hb_at hbx 2 rfl, hb_at hbx 3 rfl, hb_at hbx 4 rfl, hb_at hbx 5 rfl⟩) (fun hHeld => ?_)
          refine wpAnyH_take (i := 0) (oi := ⟨some 71, _, _, _, _, _⟩) (v := ?_) rfl (by kernel_rfl) (by kernel_rfl) (by kernel_rfl) (fun _ _ _ h => h) (Or.inl ⟨by rfl, ?_⟩) (by assumption) ?_
          rotate_left
          focus (intro w hSw; (try dsimp only at hSw); go_simp; first | done | with_reducible rfl)
          try simp only [Act.put, List.setIfInBounds_toArray, List.set_cons_zero, List.set_cons_succ]
          refine wpAnyH_take (i := 1) (oi := ⟨some 72, _, _, _, _, _⟩) (v := ?_) rfl (by kernel_rfl) (by kernel_rfl) (by kernel_rfl) (fun _ _ _ h => h) (Or.inl ⟨by rfl, ?_⟩) (by assumption) ?_
          rotate_left
          focus (intro w hSw; (try dsimp only at hSw); go_simp; first | done | with_reducible rfl)
          try simp only [Act.put, List.setIfInBounds_toArray, List.set_cons_zero, List.set_cons_succ]
          refine wpAnyH_take (i := 2) (oi := ⟨some 73, _, _, _, _, _⟩) (v := ?_) rfl (by kernel_rfl) (by kernel_rfl) (by kernel_rfl) (fun _ _ _ h => h) (Or.inl ⟨by rfl, ?_⟩) (by assumption) ?_
          rotate_left
          focus (intro w hSw; (try dsimp only at hSw); go_simp; first | done | with_reducible rfl)
          try simp only [Act.put, List.setIfInBounds_toArray, List.set_cons_zero, List.set_cons_succ]
          refine wpAnyH_take (i := 5) (oi := ⟨some 76, _, _, _, _, _⟩) (v := ?_) rfl (by kernel_rfl) (by kernel_rfl) (by kernel_rfl) (fun _ _ _ h => h) (Or.inl ⟨by rfl, ?_⟩) (by assumption) ?_
          rotate_left
          focus (intro w hSw; (try dsimp only at hSw); go_simp; first | done | with_reducible rfl)
          try simp only [Act.put, List.setIfInBounds_toArray, List.set_cons_zero, List.set_cons_succ]
          refine wpAnyH_take (i := 6) (oi := ⟨some 77, _, _, _, _, _⟩) (v := ?_) rfl (by kernel_rfl) (by kernel_rfl) (by kernel_rfl) (fun _ _ _ h => h) (Or.inl ⟨by rfl, ?_⟩) (by assumption) ?_
          rotate_left
          focus (intro w hSw; (try dsimp only at hSw); go_simp; first | done | with_reducible rfl)
          try simp only [Act.put, List.setIfInBounds_toArray, List.set_cons_zero, List.set_cons_succ]
          refine wpAnyH_take (i := 7) (oi := ⟨some 78, _, _, _, _, _⟩) (v := ?_) rfl (by kernel_rfl) (by kernel_rfl) (by kernel_rfl) (fun _ _ _ h => h) (Or.inl ⟨by rfl, ?_⟩) (by assumption) ?_
          rotate_left
          focus (intro w hSw; (try dsimp only at hSw); go_simp; first | done | with_reducible rfl)
          try simp only [Act.put, List.setIfInBounds_toArray, List.set_cons_zero, List.set_cons_succ]
          refine wpAnyH_ready (rs := [3, 8]) (by kernel_rfl) (by simp) ?_
          refine AllReadyH.cons (o := ⟨some 74, _, _, _, _, _⟩) rfl (fun K hK => ?_) (AllReadyH.cons (o := ⟨some 79, _, _, _, _, _⟩) rfl (fun K hK => ?_) AllReadyH.nil)
          · have HL0 : RowKit.Hid (Ls w6 W1.drew d ((L.take j).map Prod.fst) ((L.take j).map Prod.snd) (.slice qn j cn) (.slice qb j cb)) := Lib.hid (HLA.out.step (below_drewN (Below.refl _ W1) 1))
            have HX0 : RowKit.Hid (W1.drew.heap[bb]? = some (.cells #[.string xn, .int .i64 k, .string p, .string n, .int .i64 N, .slice q ln c] 34 (0, 0))) := Lib.hid HBX.out
            generalize W1.drew = X0 at *
            go_simp
            refine hK.out _ _ (by exact ⟨hb_at (hb_alloc HX0.out (.cells #[.string xn] 9)) 0 rfl, hb_at (hb_alloc HX0.out (.cells #[.string xn] 9)) 1 rfl, hb_at (hb_alloc HX0.out (.cells #[.string xn] 9)) 2 rfl, hb_at (hb_alloc HX0.out (.cells #[.string xn] 9)) 3 rfl, hb_at (hb_alloc HX0.out (.cells #[.string xn] 9)) 4 rfl, hb_at (hb_alloc HX0.out (.cells #[.string xn] 9)) 5 rfl⟩) (fun hNew => ?_)
            clear hK K
            clear hHeld; have hHeld := hNew; clear hNew
            try simp only [Act.put, List.setIfInBounds_toArray, List.set_cons_zero, List.set_cons_succ]
            refine wpAnyH_ready (rs := [4, 8]) (by kernel_rfl) (by simp) ?_
            refine AllReadyH.cons (o := ⟨some 75, _, _, _, _, _⟩) rfl (fun K hK => ?_) (AllReadyH.cons (o := ⟨some 79, _, _, _, _, _⟩) rfl (fun K hK => ?_) AllReadyH.nil)
            · have HL1 := Lib.hid (HL0.out.step (below_alloc X0 (.cells #[.string xn] 9)))
              have HX1 := Lib.hid (hb_alloc HX0.out (.cells #[.string xn] 9))
              have HG3 := Lib.hid (hb_new X0 (.cells #[.string xn] 9))
              generalize X0.alloc (.cells #[.string xn] 9) = X1 at *
              generalize X0.heap.size = g3 at *
              obtain ⟨v4, X2, hr4, hL4, hk4⟩ := HL1.out.name (by rw [HJL.out]; omega) HG3.out
              simp only [Region.wanted, if_true]
              refine oper_append_at (T := 32) (.tmp 71) (.tmp 74) rfl rfl rfl rfl hr4 ?_
              refine hK.out _ _ (by exact ⟨hb_at (hk4 _ _ _ _ HX1.out (by decide)) 0 rfl, hb_at (hk4 _ _ _ _ HX1.out (by decide)) 1 rfl, hb_at (hk4 _ _ _ _ HX1.out (by decide)) 2 rfl, hb_at (hk4 _ _ _ _ HX1.out (by decide)) 3 rfl, hb_at (hk4 _ _ _ _ HX1.out (by decide)) 4 rfl, hb_at (hk4 _ _ _ _ HX1.out (by decide)) 5 rfl⟩) (fun hNew => ?_)
              clear hK K
              clear hHeld; have hHeld := hNew; clear hNew
              try simp only [Act.put, List.setIfInBounds_toArray, List.set_cons_zero, List.set_cons_succ]
              refine wpAnyH_ready (rs := [8]) (by kernel_rfl) (by simp) ?_
              refine AllReadyH.cons (o := ⟨some 79, _, _, _, _, _⟩) rfl (fun K hK => ?_) AllReadyH.nil
              have HL2 := Lib.hid hL4
              have HX2 := Lib.hid (hk4 _ _ _ _ HX1.out (by decide))
              clear hL4 hk4 hr4
              go_simp
              refine hK.out _ _ (by exact ⟨hb_at (hb_alloc HX2.out (.cells #[.int .i64 k, .string p, .string n, .int .i64 N, .slice q ln c] 24)) 0 rfl, hb_at (hb_alloc HX2.out (.cells #[.int .i64 k, .string p, .string n, .int .i64 N, .slice q ln c] 24)) 1 rfl, hb_at (hb_alloc HX2.out (.cells #[.int .i64 k, .string p, .string n, .int .i64 N, .slice q ln c] 24)) 2 rfl, hb_at (hb_alloc HX2.out (.cells #[.int .i64 k, .string p, .string n, .int .i64 N, .slice q ln c] 24)) 3 rfl, hb_at (hb_alloc HX2.out (.cells #[.int .i64 k, .string p, .string n, .int .i64 N, .slice q ln c] 24)) 4 rfl, hb_at (hb_alloc HX2.out (.cells #[.int .i64 k, .string p, .string n, .int .i64 N, .slice q ln c] 24)) 5 rfl⟩) (fun hNew => ?_)
              clear hK K
              clear hHeld; have hHeld := hNew; clear hNew
              try simp only [Act.put, List.setIfInBounds_toArray, List.set_cons_zero, List.set_cons_succ]
              refine wpAnyH_ready (rs := [9]) (by kernel_rfl) (by simp) ?_
              refine AllReadyH.cons (o := ⟨some 80, _, _, _, _, _⟩) rfl (fun K hK => ?_) AllReadyH.nil
              have HL3 := Lib.hid (HL2.out.step (below_alloc X2 (.cells #[.int .i64 k, .string p, .string n, .int .i64 N, .slice q ln c] 24)))
              have HX3 := Lib.hid (hb_alloc HX2.out (.cells #[.int .i64 k, .string p, .string n, .int .i64 N, .slice q ln c] 24))
              have HG8 := Lib.hid (hb_new X2 (.cells #[.int .i64 k, .string p, .string n, .int .i64 N, .slice q ln c] 24))
              have HG3 := Lib.hid (hb_alloc HG3.out (.cells #[.int .i64 k, .string p, .string n, .int .i64 N, .slice q ln c] 24))
              generalize X2.alloc (.cells #[.int .i64 k, .string p, .string n, .int .i64 N, .slice q ln c] 24) = X3 at *
              generalize X2.heap.size = g8 at *
              obtain ⟨v9, X4, hr9, hL9, hk9⟩ := HL3.out.term (by rw [HJL2.out]; omega) HG8.out E5.out
              simp only [Region.wanted, if_true]
              refine oper_append_at (T := 22) (.tmp 76) (.tmp 79) rfl rfl rfl rfl hr9 ?_
              refine hK.out _ _ (by exact ⟨hb_at (hk9 _ _ _ _ HX3.out (by decide)) 0 rfl, hb_at (hk9 _ _ _ _ HX3.out (by decide)) 1 rfl, hb_at (hk9 _ _ _ _ HX3.out (by decide)) 2 rfl, hb_at (hk9 _ _ _ _ HX3.out (by decide)) 3 rfl, hb_at (hk9 _ _ _ _ HX3.out (by decide)) 4 rfl, hb_at (hk9 _ _ _ _ HX3.out (by decide)) 5 rfl⟩) (fun hNew => ?_)
              clear hK K
              clear hHeld; have hHeld := hNew; clear hNew
              try simp only [Act.put, List.setIfInBounds_toArray, List.set_cons_zero, List.set_cons_succ]
              refine wpAnyH_take (i := 10) (oi := ⟨some 9, _, _, _, _, _⟩) (v := ?_) rfl (by kernel_rfl) (by kernel_rfl) (by kernel_rfl) (fun _ _ _ h => h) (Or.inl ⟨by rfl, ?_⟩) (by assumption) ?_
              rotate_left
              focus (intro w hSw; (try dsimp only at hSw); go_simp; first | done | with_reducible rfl)
              try simp only [Act.put, List.setIfInBounds_toArray, List.set_cons_zero, List.set_cons_succ]
              refine wpAnyH_take (i := 11) (oi := ⟨some 10, _, _, _, _, _⟩) (v := ?_) rfl (by kernel_rfl) (by kernel_rfl) (by kernel_rfl) (fun _ _ _ h => h) (Or.inl ⟨by rfl, ?_⟩) (by assumption) ?_
              rotate_left
              focus (intro w hSw; (try dsimp only at hSw); go_simp; first | done | with_reducible rfl)
              try simp only [Act.put, List.setIfInBounds_toArray, List.set_cons_zero, List.set_cons_succ]
              refine wpAnyH_done (by kernel_rfl) ?_ _
              have HL4 := Lib.hid hL9
              clear hL9 hk9 hr9
              clear hHeld
              go_wp2
              go_roundw
              case rel => exact ⟨j + 1, by omega, by go_num, by rw [HNX1.out, HNX2.out]; exact HL4.out⟩
              case measure => simp [intOf]; omega
            · have HL1 := Lib.hid (HL0.out.step (below_alloc X0 (.cells #[.string xn] 9)))
              have HX1 := Lib.hid (hb_alloc HX0.out (.cells #[.string xn] 9))
              have HG3 := Lib.hid (hb_new X0 (.cells #[.string xn] 9))
              generalize X0.alloc (.cells #[.string xn] 9) = X1 at *
              generalize X0.heap.size = g3 at *
              go_simp
              refine hK.out _ _ (by exact ⟨hb_at (hb_alloc HX1.out (.cells #[.int .i64 k, .string p, .string n, .int .i64 N, .slice q ln c] 24)) 0 rfl, hb_at (hb_alloc HX1.out (.cells #[.int .i64 k, .string p, .string n, .int .i64 N, .slice q ln c] 24)) 1 rfl, hb_at (hb_alloc HX1.out (.cells #[.int .i64 k, .string p, .string n, .int .i64 N, .slice q ln c] 24)) 2 rfl, hb_at (hb_alloc HX1.out (.cells #[.int .i64 k, .string p, .string n, .int .i64 N, .slice q ln c] 24)) 3 rfl, hb_at (hb_alloc HX1.out (.cells #[.int .i64 k, .string p, .string n, .int .i64 N, .slice q ln c] 24)) 4 rfl, hb_at (hb_alloc HX1.out (.cells #[.int .i64 k, .string p, .string n, .int .i64 N, .slice q ln c] 24)) 5 rfl⟩) (fun hNew => ?_)
              clear hK K
              clear hHeld; have hHeld := hNew; clear hNew
              try simp only [Act.put, List.setIfInBounds_toArray, List.set_cons_zero, List.set_cons_succ]
              refine wpAnyH_ready (rs := [4]) (by kernel_rfl) (by simp) ?_
              refine AllReadyH.cons (o := ⟨some 75, _, _, _, _, _⟩) rfl (fun K hK => ?_) AllReadyH.nil
              have HL2 := Lib.hid (HL1.out.step (below_alloc X1 (.cells #[.int .i64 k, .string p, .string n, .int .i64 N, .slice q ln c] 24)))
              have HX2 := Lib.hid (hb_alloc HX1.out (.cells #[.int .i64 k, .string p, .string n, .int .i64 N, .slice q ln c] 24))
              have HG8 := Lib.hid (hb_new X1 (.cells #[.int .i64 k, .string p, .string n, .int .i64 N, .slice q ln c] 24))
              have HG3 := Lib.hid (hb_alloc HG3.out (.cells #[.int .i64 k, .string p, .string n, .int .i64 N, .slice q ln c] 24))
              generalize X1.alloc (.cells #[.int .i64 k, .string p, .string n, .int .i64 N, .slice q ln c] 24) = X2 at *
              generalize X1.heap.size = g8 at *
              obtain ⟨v4, X3, hr4, hL4, hk4⟩ := HL2.out.name (by rw [HJL.out]; omega) HG3.out
              simp only [Region.wanted, if_true]
              refine oper_append_at (T := 32) (.tmp 71) (.tmp 74) rfl rfl rfl rfl hr4 ?_
              refine hK.out _ _ (by exact ⟨hb_at (hk4 _ _ _ _ HX2.out (by decide)) 0 rfl, hb_at (hk4 _ _ _ _ HX2.out (by decide)) 1 rfl, hb_at (hk4 _ _ _ _ HX2.out (by decide)) 2 rfl, hb_at (hk4 _ _ _ _ HX2.out (by decide)) 3 rfl, hb_at (hk4 _ _ _ _ HX2.out (by decide)) 4 rfl, hb_at (hk4 _ _ _ _ HX2.out (by decide)) 5 rfl⟩) (fun hNew => ?_)
              clear hK K
              clear hHeld; have hHeld := hNew; clear hNew
              try simp only [Act.put, List.setIfInBounds_toArray, List.set_cons_zero, List.set_cons_succ]
              refine wpAnyH_ready (rs := [9]) (by kernel_rfl) (by simp) ?_
              refine AllReadyH.cons (o := ⟨some 80, _, _, _, _, _⟩) rfl (fun K hK => ?_) AllReadyH.nil
              have HL3 := Lib.hid hL4
              have HX3 := Lib.hid (hk4 _ _ _ _ HX2.out (by decide))
              have HG8 := Lib.hid (hk4 _ _ _ _ HG8.out (by decide))
              clear hL4 hk4 hr4
              obtain ⟨v9, X4, hr9, hL9, hk9⟩ := HL3.out.term (by rw [HJL2.out]; omega) HG8.out E5.out
              simp only [Region.wanted, if_true]
              refine oper_append_at (T := 22) (.tmp 76) (.tmp 79) rfl rfl rfl rfl hr9 ?_
              refine hK.out _ _ (by exact ⟨hb_at (hk9 _ _ _ _ HX3.out (by decide)) 0 rfl, hb_at (hk9 _ _ _ _ HX3.out (by decide)) 1 rfl, hb_at (hk9 _ _ _ _ HX3.out (by decide)) 2 rfl, hb_at (hk9 _ _ _ _ HX3.out (by decide)) 3 rfl, hb_at (hk9 _ _ _ _ HX3.out (by decide)) 4 rfl, hb_at (hk9 _ _ _ _ HX3.out (by decide)) 5 rfl⟩) (fun hNew => ?_)
              clear hK K
              clear hHeld; have hHeld := hNew; clear hNew
              try simp only [Act.put, List.setIfInBounds_toArray, List.set_cons_zero, List.set_cons_succ]
              refine wpAnyH_take (i := 10) (oi := ⟨some 9, _, _, _, _, _⟩) (v := ?_) rfl (by kernel_rfl) (by kernel_rfl) (by kernel_rfl) (fun _ _ _ h => h) (Or.inl ⟨by rfl, ?_⟩) (by assumption) ?_
              rotate_left
              focus (intro w hSw; (try dsimp only at hSw); go_simp; first | done | with_reducible rfl)
              try simp only [Act.put, List.setIfInBounds_toArray, List.set_cons_zero, List.set_cons_succ]
              refine wpAnyH_take (i := 11) (oi := ⟨some 10, _, _, _, _, _⟩) (v := ?_) rfl (by kernel_rfl) (by kernel_rfl) (by kernel_rfl) (fun _ _ _ h => h) (Or.inl ⟨by rfl, ?_⟩) (by assumption) ?_
              rotate_left
              focus (intro w hSw; (try dsimp only at hSw); go_simp; first | done | with_reducible rfl)
              try simp only [Act.put, List.setIfInBounds_toArray, List.set_cons_zero, List.set_cons_succ]
              refine wpAnyH_done (by kernel_rfl) ?_ _
              have HL4 := Lib.hid hL9
              clear hL9 hk9 hr9
              clear hHeld
              go_wp2
              go_roundw
              case rel => exact ⟨j + 1, by omega, by go_num, by rw [HNX1.out, HNX2.out]; exact HL4.out⟩
              case measure => simp [intOf]; omega
          · have HL0 : RowKit.Hid (Ls w6 W1.drew d ((L.take j).map Prod.fst) ((L.take j).map Prod.snd) (.slice qn j cn) (.slice qb j cb)) := Lib.hid (HLA.out.step (below_drewN (Below.refl _ W1) 1))
            have HX0 : RowKit.Hid (W1.drew.heap[bb]? = some (.cells #[.string xn, .int .i64 k, .string p, .string n, .int .i64 N, .slice q ln c] 34 (0, 0))) := Lib.hid HBX.out
            generalize W1.drew = X0 at *
            go_simp
            refine hK.out _ _ (by exact ⟨hb_at (hb_alloc HX0.out (.cells #[.int .i64 k, .string p, .string n, .int .i64 N, .slice q ln c] 24)) 0 rfl, hb_at (hb_alloc HX0.out (.cells #[.int .i64 k, .string p, .string n, .int .i64 N, .slice q ln c] 24)) 1 rfl, hb_at (hb_alloc HX0.out (.cells #[.int .i64 k, .string p, .string n, .int .i64 N, .slice q ln c] 24)) 2 rfl, hb_at (hb_alloc HX0.out (.cells #[.int .i64 k, .string p, .string n, .int .i64 N, .slice q ln c] 24)) 3 rfl, hb_at (hb_alloc HX0.out (.cells #[.int .i64 k, .string p, .string n, .int .i64 N, .slice q ln c] 24)) 4 rfl, hb_at (hb_alloc HX0.out (.cells #[.int .i64 k, .string p, .string n, .int .i64 N, .slice q ln c] 24)) 5 rfl⟩) (fun hNew => ?_)
            clear hK K
            clear hHeld; have hHeld := hNew; clear hNew
            try simp only [Act.put, List.setIfInBounds_toArray, List.set_cons_zero, List.set_cons_succ]
            refine wpAnyH_ready (rs := [3]) (by kernel_rfl) (by simp) ?_
            refine AllReadyH.cons (o := ⟨some 74, _, _, _, _, _⟩) rfl (fun K hK => ?_) AllReadyH.nil
            have HL1 := Lib.hid (HL0.out.step (below_alloc X0 (.cells #[.int .i64 k, .string p, .string n, .int .i64 N, .slice q ln c] 24)))
            have HX1 := Lib.hid (hb_alloc HX0.out (.cells #[.int .i64 k, .string p, .string n, .int .i64 N, .slice q ln c] 24))
            have HG8 := Lib.hid (hb_new X0 (.cells #[.int .i64 k, .string p, .string n, .int .i64 N, .slice q ln c] 24))
            generalize X0.alloc (.cells #[.int .i64 k, .string p, .string n, .int .i64 N, .slice q ln c] 24) = X1 at *
            generalize X0.heap.size = g8 at *
            go_simp
            refine hK.out _ _ (by exact ⟨hb_at (hb_alloc HX1.out (.cells #[.string xn] 9)) 0 rfl, hb_at (hb_alloc HX1.out (.cells #[.string xn] 9)) 1 rfl, hb_at (hb_alloc HX1.out (.cells #[.string xn] 9)) 2 rfl, hb_at (hb_alloc HX1.out (.cells #[.string xn] 9)) 3 rfl, hb_at (hb_alloc HX1.out (.cells #[.string xn] 9)) 4 rfl, hb_at (hb_alloc HX1.out (.cells #[.string xn] 9)) 5 rfl⟩) (fun hNew => ?_)
            clear hK K
            clear hHeld; have hHeld := hNew; clear hNew
            try simp only [Act.put, List.setIfInBounds_toArray, List.set_cons_zero, List.set_cons_succ]
            refine wpAnyH_ready (rs := [4]) (by kernel_rfl) (by simp) ?_
            refine AllReadyH.cons (o := ⟨some 75, _, _, _, _, _⟩) rfl (fun K hK => ?_) AllReadyH.nil
            have HL2 := Lib.hid (HL1.out.step (below_alloc X1 (.cells #[.string xn] 9)))
            have HX2 := Lib.hid (hb_alloc HX1.out (.cells #[.string xn] 9))
            have HG3 := Lib.hid (hb_new X1 (.cells #[.string xn] 9))
            have HG8 := Lib.hid (hb_alloc HG8.out (.cells #[.string xn] 9))
            generalize X1.alloc (.cells #[.string xn] 9) = X2 at *
            generalize X1.heap.size = g3 at *
            obtain ⟨v4, X3, hr4, hL4, hk4⟩ := HL2.out.name (by rw [HJL.out]; omega) HG3.out
            simp only [Region.wanted, if_true]
            refine oper_append_at (T := 32) (.tmp 71) (.tmp 74) rfl rfl rfl rfl hr4 ?_
            refine hK.out _ _ (by exact ⟨hb_at (hk4 _ _ _ _ HX2.out (by decide)) 0 rfl, hb_at (hk4 _ _ _ _ HX2.out (by decide)) 1 rfl, hb_at (hk4 _ _ _ _ HX2.out (by decide)) 2 rfl, hb_at (hk4 _ _ _ _ HX2.out (by decide)) 3 rfl, hb_at (hk4 _ _ _ _ HX2.out (by decide)) 4 rfl, hb_at (hk4 _ _ _ _ HX2.out (by decide)) 5 rfl⟩) (fun hNew => ?_)
            clear hK K
            clear hHeld; have hHeld := hNew; clear hNew
            try simp only [Act.put, List.setIfInBounds_toArray, List.set_cons_zero, List.set_cons_succ]
            refine wpAnyH_ready (rs := [9]) (by kernel_rfl) (by simp) ?_
            refine AllReadyH.cons (o := ⟨some 80, _, _, _, _, _⟩) rfl (fun K hK => ?_) AllReadyH.nil
            have HL3 := Lib.hid hL4
            have HX3 := Lib.hid (hk4 _ _ _ _ HX2.out (by decide))
            have HG8 := Lib.hid (hk4 _ _ _ _ HG8.out (by decide))
            clear hL4 hk4 hr4
            obtain ⟨v9, X4, hr9, hL9, hk9⟩ := HL3.out.term (by rw [HJL2.out]; omega) HG8.out E5.out
            simp only [Region.wanted, if_true]
            refine oper_append_at (T := 22) (.tmp 76) (.tmp 79) rfl rfl rfl rfl hr9 ?_
            refine hK.out _ _ (by exact ⟨hb_at (hk9 _ _ _ _ HX3.out (by decide)) 0 rfl, hb_at (hk9 _ _ _ _ HX3.out (by decide)) 1 rfl, hb_at (hk9 _ _ _ _ HX3.out (by decide)) 2 rfl, hb_at (hk9 _ _ _ _ HX3.out (by decide)) 3 rfl, hb_at (hk9 _ _ _ _ HX3.out (by decide)) 4 rfl, hb_at (hk9 _ _ _ _ HX3.out (by decide)) 5 rfl⟩) (fun hNew => ?_)
            clear hK K
            clear hHeld; have hHeld := hNew; clear hNew
            try simp only [Act.put, List.setIfInBounds_toArray, List.set_cons_zero, List.set_cons_succ]
            refine wpAnyH_take (i := 10) (oi := ⟨some 9, _, _, _, _, _⟩) (v := ?_) rfl (by kernel_rfl) (by kernel_rfl) (by kernel_rfl) (fun _ _ _ h => h) (Or.inl ⟨by rfl, ?_⟩) (by assumption) ?_
            rotate_left
            focus (intro w hSw; (try dsimp only at hSw); go_simp; first | done | with_reducible rfl)
            try simp only [Act.put, List.setIfInBounds_toArray, List.set_cons_zero, List.set_cons_succ]
            refine wpAnyH_take (i := 11) (oi := ⟨some 10, _, _, _, _, _⟩) (v := ?_) rfl (by kernel_rfl) (by kernel_rfl) (by kernel_rfl) (fun _ _ _ h => h) (Or.inl ⟨by rfl, ?_⟩) (by assumption) ?_
            rotate_left
            focus (intro w hSw; (try dsimp only at hSw); go_simp; first | done | with_reducible rfl)
            try simp only [Act.put, List.setIfInBounds_toArray, List.set_cons_zero, List.set_cons_succ]
            refine wpAnyH_done (by kernel_rfl) ?_ _
            have HL4 := Lib.hid hL9
            clear hL9 hk9 hr9
            clear hHeld
            go_wp2
            go_roundw
            case rel => exact ⟨j + 1, by omega, by go_num, by rw [HNX1.out, HNX2.out]; exact HL4.out⟩
            case measure => simp [intOf]; omega
        · obtain rfl : j = m := by omega
          have htk : L.take j = L := List.take_of_length_le (by rw [HM.out]; exact Nat.le_refl _)
          have HSN := HLS.out.names
          have HKE := HLS.out.terms (by rw [HJL2.out]; omega)
          rw [htk] at HSN HKE
          have HSN := Lib.hid HSN
          have HKE := Lib.hid HKE
          have HPR := Lib.hid (HP6.out.trans (hbel.mono HP6.out.size))
          have hbz := hbel.size
          clear hbel htk
          go_upto_region 16 with fail
          have HSUB : RowKit.Hid (sub (byOf (fg (L.map Prod.fst) (L.map Prod.fst).length) (L.map Prod.snd)) d tg = ts) := Lib.hid (by
            have h1 : L.map Prod.fst = varsT d [] tg := by rw [← HLQ2.out]; unfold matL; rw [List.map_map]; exact (List.map_congr_left fun x _ => rfl).trans (List.map_id _)
            have h2 : L.map Prod.snd = (varsT d [] tg).map fun n => (Q n).getD zTm := by rw [← HLQ2.out]; unfold matL; rw [List.map_map]; rfl
            rw [h1, h2]
            exact sub_mat G1.out.ty HSOL.out)
          have HML : RowKit.Hid (j ≤ 600) := Lib.hid (by rw [← HM.out, ← HLQ2.out, matL_length]; exact G1.out.vs)
          refine Inr.region (by kernel_rfl) 10 [some 82, some 83, some 84, some 85, some 86, some 87, some 88, some 89, some 90, some 4] [[], [], [], [0, 1, 2], [], [3, 4, 3], [5, 5], [6, 6], [6, 7], [8, 7, 0, 1, 2, 3, 4, 5, 6, 7, 8]] (by kernel_rfl) (by kernel_rfl) (by kernel_rfl) (by kernel_rfl) [Inr.MP.is (tv k1 p1 n1 N1 (.slice q1 l1 c1)), Inr.MP.is (.slice qn j cn), Inr.MP.is (.slice qb j cb), Inr.MP.term (d + d) ts, Inr.MP.is (tv k2 p2 n2 N2 (.slice q2 l2 c2)), Inr.MP.is (.bool true), Inr.MP.is (.bool true), Inr.MP.is (.bool true), Inr.MP.is (.bool true), Inr.MP.is (.bool true)] [] (by intro x hx; cases hx) ⟨?_, ?_, ?_, ?_, ?_, ?_, ?_, ?_, ?_, ?_, trivial⟩ (fun vs wq hbq hv htie => ?_)
          · intro vs w' hb hv K hK
            clear hv
            have hK2 := hK.out
            clear hK
            simp only [Inr.putD, Inr.dst, List.foldl_cons, List.foldl_nil, List.getD_cons_zero, List.getD_cons_succ, Act.put, List.setIfInBounds_toArray, List.set_cons_zero, List.set_cons_succ] at hK2 ⊢
            have hK := Lib.hid hK2
            clear hK2
            have x0 := hb_at (hb_below (hb_below J1.out HPR.out (hb_lt J1.out)) hb (by have h9 := hb_lt J1.out; have h8 := HPR.out.size; omega)) 0 rfl
            have x1 := hb_at (hb_below (hb_below J1.out HPR.out (hb_lt J1.out)) hb (by have h9 := hb_lt J1.out; have h8 := HPR.out.size; omega)) 1 rfl
            have x2 := hb_at (hb_below (hb_below J1.out HPR.out (hb_lt J1.out)) hb (by have h9 := hb_lt J1.out; have h8 := HPR.out.size; omega)) 2 rfl
            have x3 := hb_at (hb_below (hb_below J1.out HPR.out (hb_lt J1.out)) hb (by have h9 := hb_lt J1.out; have h8 := HPR.out.size; omega)) 3 rfl
            have x4 := hb_at (hb_below (hb_below J1.out HPR.out (hb_lt J1.out)) hb (by have h9 := hb_lt J1.out; have h8 := HPR.out.size; omega)) 4 rfl
            simp only [Region.wanted, Inr.yieldedD, Inr.dst, List.getD_cons_zero, List.getD_cons_succ]
            go_simp
            refine hK.out _ _ (Eq.refl _) (Below.refl _ _) (Inr.noTies _ _ _ _ _)
          · intro vs w' hb hv K hK
            clear hv
            have hK2 := hK.out
            clear hK
            simp only [Inr.putD, Inr.dst, List.foldl_cons, List.foldl_nil, List.getD_cons_zero, List.getD_cons_succ, Act.put, List.setIfInBounds_toArray, List.set_cons_zero, List.set_cons_succ] at hK2 ⊢
            have hK := Lib.hid hK2
            clear hK2
            simp only [Region.wanted, Inr.yieldedD, Inr.dst, List.getD_cons_zero, List.getD_cons_succ]
            go_simp
            refine hK.out _ _ (Eq.refl _) (Below.refl _ _) (Inr.noTies _ _ _ _ _)
          · intro vs w' hb hv K hK
            clear hv
            have hK2 := hK.out
            clear hK
            simp only [Inr.putD, Inr.dst, List.foldl_cons, List.foldl_nil, List.getD_cons_zero, List.getD_cons_succ, Act.put, List.setIfInBounds_toArray, List.set_cons_zero, List.set_cons_succ] at hK2 ⊢
            have hK := Lib.hid hK2
            clear hK2
            simp only [Region.wanted, Inr.yieldedD, Inr.dst, List.getD_cons_zero, List.getD_cons_succ]
            go_simp
            refine hK.out _ _ (Eq.refl _) (Below.refl _ _) (Inr.noTies _ _ _ _ _)
          · intro vs w' hb hv K hK
            have h0 : (Inr.MP.is (tv k1 p1 n1 N1 (.slice q1 l1 c1))).p (vs 0) w' := hv 0 (by simp)
            have h1 : (Inr.MP.is (.slice qn j cn)).p (vs 1) w' := hv 1 (by simp)
            have h2 : (Inr.MP.is (.slice qb j cb)).p (vs 2) w' := hv 2 (by simp)
            clear hv
            have hK2 := hK.out
            clear hK
            simp only [Inr.putD, Inr.dst, List.foldl_cons, List.foldl_nil, List.getD_cons_zero, List.getD_cons_succ, Act.put, List.setIfInBounds_toArray, List.set_cons_zero, List.set_cons_succ] at hK2 ⊢
            have hK := Lib.hid hK2
            clear hK2
            generalize vs 0 = y0 at *
            generalize vs 1 = y1 at *
            generalize vs 2 = y2 at *
            have h0 : y0 = _ := h0
            subst h0
            have h1 : y1 = _ := h1
            subst h1
            have h2 : y2 = _ := h2
            subst h2
            simp only [Region.wanted, Inr.yieldedD, Inr.dst, List.getD_cons_zero, List.getD_cons_succ]
            go_simp
            ((with_reducible refine (rsubst_any _ _ _ _ d (by rw [List.length_map, HM.out]; have := HML.out; omega) d tg _ w' w6.heap.size (by have h9 := hb.size; omega) ((HT1.out.below HPR.out).below hb) (HSN.out.below hb) (HKE.out.below hb) G1.out.sm).mono ?_); rintro e w7 ⟨v7, rfl, hx7, hb7⟩)
            rw [HSUB.out] at hx7
            go_wp2_with fail
            refine hK.out _ _ hx7.isT hb7 (Inr.noTies _ _ _ _ _)
          · intro vs w' hb hv K hK
            clear hv
            have hK2 := hK.out
            clear hK
            simp only [Inr.putD, Inr.dst, List.foldl_cons, List.foldl_nil, List.getD_cons_zero, List.getD_cons_succ, Act.put, List.setIfInBounds_toArray, List.set_cons_zero, List.set_cons_succ] at hK2 ⊢
            have hK := Lib.hid hK2
            clear hK2
            have x0 := hb_at (hb_below (hb_below J2.out HPR.out (hb_lt J2.out)) hb (by have h9 := hb_lt J2.out; have h8 := HPR.out.size; omega)) 0 rfl
            have x1 := hb_at (hb_below (hb_below J2.out HPR.out (hb_lt J2.out)) hb (by have h9 := hb_lt J2.out; have h8 := HPR.out.size; omega)) 1 rfl
            have x2 := hb_at (hb_below (hb_below J2.out HPR.out (hb_lt J2.out)) hb (by have h9 := hb_lt J2.out; have h8 := HPR.out.size; omega)) 2 rfl
            have x3 := hb_at (hb_below (hb_below J2.out HPR.out (hb_lt J2.out)) hb (by have h9 := hb_lt J2.out; have h8 := HPR.out.size; omega)) 3 rfl
            have x4 := hb_at (hb_below (hb_below J2.out HPR.out (hb_lt J2.out)) hb (by have h9 := hb_lt J2.out; have h8 := HPR.out.size; omega)) 4 rfl
            simp only [Region.wanted, Inr.yieldedD, Inr.dst, List.getD_cons_zero, List.getD_cons_succ]
            go_simp
            refine hK.out _ _ (Eq.refl _) (Below.refl _ _) (Inr.noTies _ _ _ _ _)
          · intro vs w' hb hv K hK
            have h3 : IsT w' (d + d) (vs 3) ts := hv 3 (by simp)
            have h4 : (Inr.MP.is (tv k2 p2 n2 N2 (.slice q2 l2 c2))).p (vs 4) w' := hv 4 (by simp)
            clear hv
            have hK2 := hK.out
            clear hK
            simp only [Inr.putD, Inr.dst, List.foldl_cons, List.foldl_nil, List.getD_cons_zero, List.getD_cons_succ, Act.put, List.setIfInBounds_toArray, List.set_cons_zero, List.set_cons_succ] at hK2 ⊢
            have hK := Lib.hid hK2
            clear hK2
            generalize vs 3 = y3 at *
            generalize vs 4 = y4 at *
            have h4 : y4 = _ := h4
            subst h4
            obtain ⟨k03, p03, n03, N03, q03, l03, c03, rfl⟩ := IsT.shp h3
            simp only [Region.wanted, Inr.yieldedD, Inr.dst, List.getD_cons_zero, List.getD_cons_succ]
            go_simp
            ((with_reducible refine (refSame_any (d + d) _ _ ts ts w' h3 (((HT2.out.below HPR.out).below hb).more (by omega))).mono ?_); rintro e w7 ⟨rfl, hb7⟩)
            go_wp2_with fail
            refine hK.out _ _ (show Value.bool _ = Value.bool _ from congrArg Value.bool (same_self ts)) hb7 (Inr.noTies _ _ _ _ _)
          · intro vs w' hb hv K hK
            have h5 : (Inr.MP.is (.bool true)).p (vs 5) w' := hv 5 (by simp)
            clear hv
            have hK2 := hK.out
            clear hK
            simp only [Inr.putD, Inr.dst, List.foldl_cons, List.foldl_nil, List.getD_cons_zero, List.getD_cons_succ, Act.put, List.setIfInBounds_toArray, List.set_cons_zero, List.set_cons_succ] at hK2 ⊢
            have hK := Lib.hid hK2
            clear hK2
            generalize vs 5 = y5 at *
            have h5 : y5 = _ := h5
            subst h5
            simp only [Region.wanted, Inr.yieldedD, Inr.dst, List.getD_cons_zero, List.getD_cons_succ]
            go_simp
            refine hK.out _ _ (Eq.refl _) (Below.refl _ _) (Inr.noTies _ _ _ _ _)
          · intro vs w' hb hv K hK
            have h6 : (Inr.MP.is (.bool true)).p (vs 6) w' := hv 6 (by simp)
            clear hv
            have hK2 := hK.out
            clear hK
            simp only [Inr.putD, Inr.dst, List.foldl_cons, List.foldl_nil, List.getD_cons_zero, List.getD_cons_succ, Act.put, List.setIfInBounds_toArray, List.set_cons_zero, List.set_cons_succ] at hK2 ⊢
            have hK := Lib.hid hK2
            clear hK2
            generalize vs 6 = y6 at *
            have h6 : y6 = _ := h6
            subst h6
            simp only [Region.wanted, Inr.yieldedD, Inr.dst, List.getD_cons_zero, List.getD_cons_succ]
            go_simp
            ((with_reducible refine (alive_any _).mono ?_); rintro e w7 ⟨rfl, hb7⟩)
            go_wp2_with fail
            refine hK.out _ _ (Eq.refl _) hb7 (Inr.noTies _ _ _ _ _)
          · intro vs w' hb hv K hK
            have h6 : (Inr.MP.is (.bool true)).p (vs 6) w' := hv 6 (by simp)
            have h7 : (Inr.MP.is (.bool true)).p (vs 7) w' := hv 7 (by simp)
            clear hv
            have hK2 := hK.out
            clear hK
            simp only [Inr.putD, Inr.dst, List.foldl_cons, List.foldl_nil, List.getD_cons_zero, List.getD_cons_succ, Act.put, List.setIfInBounds_toArray, List.set_cons_zero, List.set_cons_succ] at hK2 ⊢
            have hK := Lib.hid hK2
            clear hK2
            generalize vs 6 = y6 at *
            generalize vs 7 = y7 at *
            have h6 : y6 = _ := h6
            subst h6
            have h7 : y7 = _ := h7
            subst h7
            simp only [Region.wanted, Inr.yieldedD, Inr.dst, List.getD_cons_zero, List.getD_cons_succ]
            go_simp
            refine hK.out _ _ (Eq.refl _) (Below.refl _ _) (Inr.noTies _ _ _ _ _)
          · intro vs w' hb hv K hK
            have h0 : (Inr.MP.is (tv k1 p1 n1 N1 (.slice q1 l1 c1))).p (vs 0) w' := hv 0 (by simp)
            have h1 : (Inr.MP.is (.slice qn j cn)).p (vs 1) w' := hv 1 (by simp)
            have h2 : (Inr.MP.is (.slice qb j cb)).p (vs 2) w' := hv 2 (by simp)
            have h3 : IsT w' (d + d) (vs 3) ts := hv 3 (by simp)
            have h4 : (Inr.MP.is (tv k2 p2 n2 N2 (.slice q2 l2 c2))).p (vs 4) w' := hv 4 (by simp)
            have h5 : (Inr.MP.is (.bool true)).p (vs 5) w' := hv 5 (by simp)
            have h6 : (Inr.MP.is (.bool true)).p (vs 6) w' := hv 6 (by simp)
            have h7 : (Inr.MP.is (.bool true)).p (vs 7) w' := hv 7 (by simp)
            have h8 : (Inr.MP.is (.bool true)).p (vs 8) w' := hv 8 (by simp)
            clear hv
            have hK2 := hK.out
            clear hK
            simp only [Inr.putD, Inr.dst, List.foldl_cons, List.foldl_nil, List.getD_cons_zero, List.getD_cons_succ, Act.put, List.setIfInBounds_toArray, List.set_cons_zero, List.set_cons_succ] at hK2 ⊢
            have hK := Lib.hid hK2
            clear hK2
            generalize vs 0 = y0 at *
            generalize vs 1 = y1 at *
            generalize vs 2 = y2 at *
            generalize vs 3 = y3 at *
            generalize vs 4 = y4 at *
            generalize vs 5 = y5 at *
            generalize vs 6 = y6 at *
            generalize vs 7 = y7 at *
            generalize vs 8 = y8 at *
            have h0 : y0 = _ := h0
            subst h0
            have h1 : y1 = _ := h1
            subst h1
            have h2 : y2 = _ := h2
            subst h2
            have h4 : y4 = _ := h4
            subst h4
            have h5 : y5 = _ := h5
            subst h5
            have h6 : y6 = _ := h6
            subst h6
            have h7 : y7 = _ := h7
            subst h7
            have h8 : y8 = _ := h8
            subst h8
            simp only [Region.wanted, Inr.yieldedD, Inr.dst, List.getD_cons_zero, List.getD_cons_succ]
            go_simp
            refine hK.out _ _ (Eq.refl _) (Below.refl _ _) (Inr.noTies _ _ _ _ _)
          · have hl : vs 9 = .bool true := hv 9 (by omega)
            clear hv
            simp only [List.range, List.range.loop, Inr.putD, Inr.dst, List.foldl_cons, List.foldl_nil, List.getD_cons_zero, List.getD_cons_succ, Act.put, List.setIfInBounds_toArray, List.set_cons_zero, List.set_cons_succ]
            simp only [List.drop_succ_cons, List.drop_zero]
            generalize vs 0 = yy0 at *
            generalize vs 1 = yy1 at *
            generalize vs 2 = yy2 at *
            generalize vs 3 = yy3 at *
            generalize vs 4 = yy4 at *
            generalize vs 5 = yy5 at *
            generalize vs 6 = yy6 at *
            generalize vs 7 = yy7 at *
            generalize vs 8 = yy8 at *
            generalize vs 9 = yy9 at *
            subst hl
            go_wp2
            go_ret
            exact ⟨rfl, HBC.out.trans (HPR.out.trans (hbq.mono HPR.out.size) |>.mono HBC.out.size)⟩
end Go.Proofs.YtknbhnicmgglbaaDoor
