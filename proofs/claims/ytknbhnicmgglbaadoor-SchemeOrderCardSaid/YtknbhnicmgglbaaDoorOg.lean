/- SchemeOrder: its walk. -/
import Derived.Test.YtknbhnicmgglbaaDoorOa
namespace Go.Proofs.YtknbhnicmgglbaaDoor
open Go.RowKit
set_option linter.unusedSimpArgs false
set_option linter.unusedVariables false
set_option maxRecDepth 100000 in
set_option maxHeartbeats 8000000 in
theorem order_walk (d : Nat) (va vb vc vx vy : Value) (ta tb tc tx ty : Tm) (w : World) (hi1 : IsT w d va ta) (hi2 : IsT w d vb tb) (hi3 : IsT w d vc tc) (hi4 : IsT w d vx tx) (hi5 : IsT w d vy ty) :
    Calls Tryd.prog 4 #[va, vb, vc, vx, vy] w fun e w' => e = .returned (.bool true) ∧ Below w.heap.size w w' := by
  obtain ⟨d1, k1, p1, n1, N1, s1, kk1, e1, eq1, rfl, _, _, hk1⟩ := hi1.open
  obtain ⟨q1, l1, c1, rfl⟩ := hk1.slice
  clear e1 eq1 hk1
  obtain ⟨d2, k2, p2, n2, N2, s2, kk2, e2, eq2, rfl, _, _, hk2⟩ := hi2.open
  obtain ⟨q2, l2, c2, rfl⟩ := hk2.slice
  clear e2 eq2 hk2
  obtain ⟨d3, k3, p3, n3, N3, s3, kk3, e3, eq3, rfl, _, _, hk3⟩ := hi3.open
  obtain ⟨q3, l3, c3, rfl⟩ := hk3.slice
  clear e3 eq3 hk3
  obtain ⟨d4, k4, p4, n4, N4, s4, kk4, e4, eq4, rfl, _, _, hk4⟩ := hi4.open
  obtain ⟨q4, l4, c4, rfl⟩ := hk4.slice
  clear e4 eq4 hk4
  obtain ⟨d5, k5, p5, n5, N5, s5, kk5, e5, eq5, rfl, _, _, hk5⟩ := hi5.open
  obtain ⟨q5, l5, c5, rfl⟩ := hk5.slice
  clear e5 eq5 hk5
  have hB0 : Below w.heap.size w (((((w.alloc (.cells #[.int .i64 k1, .string p1, .string n1, .int .i64 N1, .slice q1 l1 c1] 24)).alloc (.cells #[.int .i64 k2, .string p2, .string n2, .int .i64 N2, .slice q2 l2 c2] 24)).alloc (.cells #[.int .i64 k3, .string p3, .string n3, .int .i64 N3, .slice q3 l3 c3] 24)).alloc (.cells #[.int .i64 k4, .string p4, .string n4, .int .i64 N4, .slice q4 l4 c4] 24)).alloc (.cells #[.int .i64 k5, .string p5, .string n5, .int .i64 N5, .slice q5 l5 c5] 24)) := (below2 w _ _).trans (((below2 _ _ _).trans ((below_alloc _ _).mono (by first | (simp; done) | (simp; omega)))).mono (by first | (simp; done) | (simp; omega)))
  have b1 := hb_alloc (hb_alloc (hb_alloc (hb_alloc (hb_new w (.cells #[.int .i64 k1, .string p1, .string n1, .int .i64 N1, .slice q1 l1 c1] 24)) (.cells #[.int .i64 k2, .string p2, .string n2, .int .i64 N2, .slice q2 l2 c2] 24)) (.cells #[.int .i64 k3, .string p3, .string n3, .int .i64 N3, .slice q3 l3 c3] 24)) (.cells #[.int .i64 k4, .string p4, .string n4, .int .i64 N4, .slice q4 l4 c4] 24)) (.cells #[.int .i64 k5, .string p5, .string n5, .int .i64 N5, .slice q5 l5 c5] 24)
  have b2 := hb_alloc (hb_alloc (hb_alloc (hb_new (w.alloc (.cells #[.int .i64 k1, .string p1, .string n1, .int .i64 N1, .slice q1 l1 c1] 24)) (.cells #[.int .i64 k2, .string p2, .string n2, .int .i64 N2, .slice q2 l2 c2] 24)) (.cells #[.int .i64 k3, .string p3, .string n3, .int .i64 N3, .slice q3 l3 c3] 24)) (.cells #[.int .i64 k4, .string p4, .string n4, .int .i64 N4, .slice q4 l4 c4] 24)) (.cells #[.int .i64 k5, .string p5, .string n5, .int .i64 N5, .slice q5 l5 c5] 24)
  have b3 := hb_alloc (hb_alloc (hb_new ((w.alloc (.cells #[.int .i64 k1, .string p1, .string n1, .int .i64 N1, .slice q1 l1 c1] 24)).alloc (.cells #[.int .i64 k2, .string p2, .string n2, .int .i64 N2, .slice q2 l2 c2] 24)) (.cells #[.int .i64 k3, .string p3, .string n3, .int .i64 N3, .slice q3 l3 c3] 24)) (.cells #[.int .i64 k4, .string p4, .string n4, .int .i64 N4, .slice q4 l4 c4] 24)) (.cells #[.int .i64 k5, .string p5, .string n5, .int .i64 N5, .slice q5 l5 c5] 24)
  have b4 := hb_alloc (hb_new (((w.alloc (.cells #[.int .i64 k1, .string p1, .string n1, .int .i64 N1, .slice q1 l1 c1] 24)).alloc (.cells #[.int .i64 k2, .string p2, .string n2, .int .i64 N2, .slice q2 l2 c2] 24)).alloc (.cells #[.int .i64 k3, .string p3, .string n3, .int .i64 N3, .slice q3 l3 c3] 24)) (.cells #[.int .i64 k4, .string p4, .string n4, .int .i64 N4, .slice q4 l4 c4] 24)) (.cells #[.int .i64 k5, .string p5, .string n5, .int .i64 N5, .slice q5 l5 c5] 24)
  have b5 := hb_new ((((w.alloc (.cells #[.int .i64 k1, .string p1, .string n1, .int .i64 N1, .slice q1 l1 c1] 24)).alloc (.cells #[.int .i64 k2, .string p2, .string n2, .int .i64 N2, .slice q2 l2 c2] 24)).alloc (.cells #[.int .i64 k3, .string p3, .string n3, .int .i64 N3, .slice q3 l3 c3] 24)).alloc (.cells #[.int .i64 k4, .string p4, .string n4, .int .i64 N4, .slice q4 l4 c4] 24)) (.cells #[.int .i64 k5, .string p5, .string n5, .int .i64 N5, .slice q5 l5 c5] 24)
  simp only [World.size_alloc] at b2 b3 b4 b5
  have I1 := Lib.hid b1
  have T1 := Lib.hid (hi1.below hB0)
  have I2 := Lib.hid b2
  have T2 := Lib.hid (hi2.below hB0)
  have I3 := Lib.hid b3
  have T3 := Lib.hid (hi3.below hB0)
  have I4 := Lib.hid b4
  have T4 := Lib.hid (hi4.below hB0)
  have I5 := Lib.hid b5
  have T5 := Lib.hid (hi5.below hB0)
  have HB0 := Lib.hid hB0
  clear hB0 b1 hi1 b2 hi2 b3 hi3 b4 hi4 b5 hi5
  go_enter Tryd.func4, Tryd.ntmps4
  go_upto_region 1 with fail
  generalize (((((w.alloc (.cells #[.int .i64 k1, .string p1, .string n1, .int .i64 N1, .slice q1 l1 c1] 24)).alloc (.cells #[.int .i64 k2, .string p2, .string n2, .int .i64 N2, .slice q2 l2 c2] 24)).alloc (.cells #[.int .i64 k3, .string p3, .string n3, .int .i64 N3, .slice q3 l3 c3] 24)).alloc (.cells #[.int .i64 k4, .string p4, .string n4, .int .i64 N4, .slice q4 l4 c4] 24)).alloc (.cells #[.int .i64 k5, .string p5, .string n5, .int .i64 N5, .slice q5 l5 c5] 24)) = W0 at *
  go_cut [39] (fun v wx => ∃ r : Bool, v = .bool r ∧ Below W0.heap.size W0 wx ∧ (r = false → Gd d ta 40 600 ∧ Gd d tb 600 600 ∧ Gd d tc 600 600 ∧ Gd d tx 600 600 ∧ Gd d ty 600 600))
  case first =>
    skip
    have HQ0 := Lib.hid (Below.refl W0.heap.size W0)
    have x0 := hb_at (hb_below I1.out HQ0.out (hb_lt I1.out)) 0 rfl
    have x1 := hb_at (hb_below I1.out HQ0.out (hb_lt I1.out)) 1 rfl
    have x2 := hb_at (hb_below I1.out HQ0.out (hb_lt I1.out)) 2 rfl
    have x3 := hb_at (hb_below I1.out HQ0.out (hb_lt I1.out)) 3 rfl
    have x4 := hb_at (hb_below I1.out HQ0.out (hb_lt I1.out)) 4 rfl
    go_wp2_with fail
    clear x0 x1 x2 x3 x4
    (with_reducible refine (few4_any d _ ta _ (T1.out.below HQ0.out)).mono ?_)
    rintro e w1 ⟨r1, rfl, hr1, hb1⟩
    have HQ1 := Lib.hid (HQ0.out.trans (hb1.mono HQ0.out.size))
    have HR1 := Lib.hid hr1
    clear hb1 hr1
    cases r1
    · go_wp2_with fail
      go_meet
      exact ⟨true, rfl, HQ1.out, fun h => by cases h⟩
    · have x0 := hb_at (hb_below I2.out HQ1.out (hb_lt I2.out)) 0 rfl
      have x1 := hb_at (hb_below I2.out HQ1.out (hb_lt I2.out)) 1 rfl
      have x2 := hb_at (hb_below I2.out HQ1.out (hb_lt I2.out)) 2 rfl
      have x3 := hb_at (hb_below I2.out HQ1.out (hb_lt I2.out)) 3 rfl
      have x4 := hb_at (hb_below I2.out HQ1.out (hb_lt I2.out)) 4 rfl
      go_wp2_with fail
      clear x0 x1 x2 x3 x4
      (with_reducible refine (few4_any d _ tb _ (T2.out.below HQ1.out)).mono ?_)
      rintro e w2 ⟨r2, rfl, hr2, hb2⟩
      have HQ2 := Lib.hid (HQ1.out.trans (hb2.mono HQ1.out.size))
      have HR2 := Lib.hid hr2
      clear hb2 hr2
      cases r2
      · go_wp2_with fail
        go_meet
        exact ⟨true, rfl, HQ2.out, fun h => by cases h⟩
      · have x0 := hb_at (hb_below I3.out HQ2.out (hb_lt I3.out)) 0 rfl
        have x1 := hb_at (hb_below I3.out HQ2.out (hb_lt I3.out)) 1 rfl
        have x2 := hb_at (hb_below I3.out HQ2.out (hb_lt I3.out)) 2 rfl
        have x3 := hb_at (hb_below I3.out HQ2.out (hb_lt I3.out)) 3 rfl
        have x4 := hb_at (hb_below I3.out HQ2.out (hb_lt I3.out)) 4 rfl
        go_wp2_with fail
        clear x0 x1 x2 x3 x4
        (with_reducible refine (few4_any d _ tc _ (T3.out.below HQ2.out)).mono ?_)
        rintro e w3 ⟨r3, rfl, hr3, hb3⟩
        have HQ3 := Lib.hid (HQ2.out.trans (hb3.mono HQ2.out.size))
        have HR3 := Lib.hid hr3
        clear hb3 hr3
        cases r3
        · go_wp2_with fail
          go_meet
          exact ⟨true, rfl, HQ3.out, fun h => by cases h⟩
        · have x0 := hb_at (hb_below I4.out HQ3.out (hb_lt I4.out)) 0 rfl
          have x1 := hb_at (hb_below I4.out HQ3.out (hb_lt I4.out)) 1 rfl
          have x2 := hb_at (hb_below I4.out HQ3.out (hb_lt I4.out)) 2 rfl
          have x3 := hb_at (hb_below I4.out HQ3.out (hb_lt I4.out)) 3 rfl
          have x4 := hb_at (hb_below I4.out HQ3.out (hb_lt I4.out)) 4 rfl
          go_wp2_with fail
          clear x0 x1 x2 x3 x4
          (with_reducible refine (few4_any d _ tx _ (T4.out.below HQ3.out)).mono ?_)
          rintro e w4 ⟨r4, rfl, hr4, hb4⟩
          have HQ4 := Lib.hid (HQ3.out.trans (hb4.mono HQ3.out.size))
          have HR4 := Lib.hid hr4
          clear hb4 hr4
          cases r4
          · go_wp2_with fail
            go_meet
            exact ⟨true, rfl, HQ4.out, fun h => by cases h⟩
          · have x0 := hb_at (hb_below I5.out HQ4.out (hb_lt I5.out)) 0 rfl
            have x1 := hb_at (hb_below I5.out HQ4.out (hb_lt I5.out)) 1 rfl
            have x2 := hb_at (hb_below I5.out HQ4.out (hb_lt I5.out)) 2 rfl
            have x3 := hb_at (hb_below I5.out HQ4.out (hb_lt I5.out)) 3 rfl
            have x4 := hb_at (hb_below I5.out HQ4.out (hb_lt I5.out)) 4 rfl
            go_wp2_with fail
            clear x0 x1 x2 x3 x4
            (with_reducible refine (few4_any d _ ty _ (T5.out.below HQ4.out)).mono ?_)
            rintro e w5 ⟨r5, rfl, hr5, hb5⟩
            have HQ5 := Lib.hid (HQ4.out.trans (hb5.mono HQ4.out.size))
            have HR5 := Lib.hid hr5
            clear hb5 hr5
            cases r5
            · go_wp2_with fail
              go_meet
              exact ⟨true, rfl, HQ5.out, fun h => by cases h⟩
            · have GA : Gd d ta 600 600 := Gd.of_few (HR1.out trivial).1 (HR1.out trivial).2.1 (HR1.out trivial).2.2
              have hsz : sz d ta = ((tszN d ta : Nat) : Int) := sz_eq d ta (by have := GA.sz; omega)
              have HGA := Lib.hid GA
              clear GA
              have x0 := hb_at (hb_below I1.out HQ5.out (hb_lt I1.out)) 0 rfl
              have x1 := hb_at (hb_below I1.out HQ5.out (hb_lt I1.out)) 1 rfl
              have x2 := hb_at (hb_below I1.out HQ5.out (hb_lt I1.out)) 2 rfl
              have x3 := hb_at (hb_below I1.out HQ5.out (hb_lt I1.out)) 3 rfl
              have x4 := hb_at (hb_below I1.out HQ5.out (hb_lt I1.out)) 4 rfl
              go_wp2_with fail
              clear x0 x1 x2 x3 x4
              (with_reducible refine (rsize_any d _ ta _ (T1.out.below HQ5.out)).mono ?_)
              rintro e w6 ⟨rfl, hb6⟩
              have HQ6 := Lib.hid (HQ5.out.trans (hb6.mono HQ5.out.size))
              clear hb6
              rw [hsz]
              have HSZ := Lib.hid hsz
              clear hsz
              by_cases hz : (40 : Int) < ((tszN d ta : Nat) : Int)
              · go_wp2_with fail
                go_meet
                exact ⟨true, rfl, HQ6.out, fun h => by cases h⟩
              go_wp2_with fail
              go_meet
              exact ⟨_, rfl, HQ6.out, fun _ => ⟨⟨HGA.out.ty, HGA.out.sm, by omega, HGA.out.vs⟩, Gd.of_few (HR2.out trivial).1 (HR2.out trivial).2.1 (HR2.out trivial).2.2, Gd.of_few (HR3.out trivial).1 (HR3.out trivial).2.1 (HR3.out trivial).2.2, Gd.of_few (HR4.out trivial).1 (HR4.out trivial).2.1 (HR4.out trivial).2.2, Gd.of_few (HR5.out trivial).1 (HR5.out trivial).2.1 (HR5.out trivial).2.2⟩⟩
  case rest =>
    obtain ⟨r, rfl, hBc, hr⟩ := hcut
    have HBC := Lib.hid (HB0.out.trans (hBc.mono HB0.out.size))
    have J1 := Lib.hid (hb_below I1.out hBc (hb_lt I1.out))
    have HT1 := Lib.hid (T1.out.below hBc)
    have J2 := Lib.hid (hb_below I2.out hBc (hb_lt I2.out))
    have HT2 := Lib.hid (T2.out.below hBc)
    have J3 := Lib.hid (hb_below I3.out hBc (hb_lt I3.out))
    have HT3 := Lib.hid (T3.out.below hBc)
    have J4 := Lib.hid (hb_below I4.out hBc (hb_lt I4.out))
    have HT4 := Lib.hid (T4.out.below hBc)
    have J5 := Lib.hid (hb_below I5.out hBc (hb_lt I5.out))
    have HT5 := Lib.hid (T5.out.below hBc)
    clear hBc HB0 I1 T1 I2 T2 I3 T3 I4 T4 I5 T5
    cases r
    rotate_left
    · clear hr
      go_wp2_with (go_at_call 6; ((with_reducible refine (alive_any _).mono ?_); rintro e w9 ⟨rfl, hb⟩))
      go_ret
      exact ⟨rfl, HBC.out.trans (hb.mono HBC.out.size)⟩
    obtain ⟨g1, g2, g3, g4, g5⟩ := hr rfl
    clear hr
    have G1 := Lib.hid g1
    clear g1
    have G2 := Lib.hid g2
    clear g2
    have G3 := Lib.hid g3
    clear g3
    have G4 := Lib.hid g4
    clear g4
    have G5 := Lib.hid g5
    clear g5
    go_upto_region 3 with fail
    go_cut [60] (fun v wx => v = .bool false ∧ Below wc.heap.size wc wx)
    case first =>
      skip
      have hP0 : Below wc.heap.size wc wc := Below.refl _ _
      have HP0 := Lib.hid hP0
      clear hP0
      have haa : abB ta ta = true := abB_iff.2 (Ab.refl G1.out.ty)
      have x10 := hb_at (hb_below J1.out HP0.out (hb_lt J1.out)) 0 rfl
      have x11 := hb_at (hb_below J1.out HP0.out (hb_lt J1.out)) 1 rfl
      have x12 := hb_at (hb_below J1.out HP0.out (hb_lt J1.out)) 2 rfl
      have x13 := hb_at (hb_below J1.out HP0.out (hb_lt J1.out)) 3 rfl
      have x14 := hb_at (hb_below J1.out HP0.out (hb_lt J1.out)) 4 rfl
      go_wp2_with fail
      clear x10 x11 x12 x13 x14
      (with_reducible refine (aboveB_any d _ _ ta ta _ (G1.out.two G1.out (HT1.out.below HP0.out) (HT1.out.below HP0.out) (Nat.le_refl _) (Nat.le_refl _) (by omega) (by omega))).mono ?_)
      rintro e w1 ⟨rfl, hb1⟩
      have HP1 := Lib.hid (HP0.out.trans (hb1.mono HP0.out.size))
      clear hb1
      rw [haa]
      have x10 := hb_at (hb_below J1.out HP1.out (hb_lt J1.out)) 0 rfl
      have x11 := hb_at (hb_below J1.out HP1.out (hb_lt J1.out)) 1 rfl
      have x12 := hb_at (hb_below J1.out HP1.out (hb_lt J1.out)) 2 rfl
      have x13 := hb_at (hb_below J1.out HP1.out (hb_lt J1.out)) 3 rfl
      have x14 := hb_at (hb_below J1.out HP1.out (hb_lt J1.out)) 4 rfl
      have x20 := hb_at (hb_below J2.out HP1.out (hb_lt J2.out)) 0 rfl
      have x21 := hb_at (hb_below J2.out HP1.out (hb_lt J2.out)) 1 rfl
      have x22 := hb_at (hb_below J2.out HP1.out (hb_lt J2.out)) 2 rfl
      have x23 := hb_at (hb_below J2.out HP1.out (hb_lt J2.out)) 3 rfl
      have x24 := hb_at (hb_below J2.out HP1.out (hb_lt J2.out)) 4 rfl
      go_wp2_with fail
      clear x10 x11 x12 x13 x14 x20 x21 x22 x23 x24
      cases hab : abB ta tb
      · (with_reducible refine (aboveB_any d _ _ ta tb _ (G1.out.two G2.out (HT1.out.below HP1.out) (HT2.out.below HP1.out) (Nat.le_refl _) (Nat.le_refl _) (by omega) (by omega))).mono ?_)
        rintro e w2 ⟨rfl, hb2⟩
        have HP2 := Lib.hid (HP1.out.trans (hb2.mono HP1.out.size))
        clear hb2
        rw [hab]
        go_wp2_with fail
        go_meet
        exact ⟨rfl, HP2.out⟩
      · (with_reducible refine (aboveB_any d _ _ ta tb _ (G1.out.two G2.out (HT1.out.below HP1.out) (HT2.out.below HP1.out) (Nat.le_refl _) (Nat.le_refl _) (by omega) (by omega))).mono ?_)
        rintro e w2 ⟨rfl, hb2⟩
        have HP2 := Lib.hid (HP1.out.trans (hb2.mono HP1.out.size))
        clear hb2
        rw [hab]
        have x20 := hb_at (hb_below J2.out HP2.out (hb_lt J2.out)) 0 rfl
        have x21 := hb_at (hb_below J2.out HP2.out (hb_lt J2.out)) 1 rfl
        have x22 := hb_at (hb_below J2.out HP2.out (hb_lt J2.out)) 2 rfl
        have x23 := hb_at (hb_below J2.out HP2.out (hb_lt J2.out)) 3 rfl
        have x24 := hb_at (hb_below J2.out HP2.out (hb_lt J2.out)) 4 rfl
        have x30 := hb_at (hb_below J3.out HP2.out (hb_lt J3.out)) 0 rfl
        have x31 := hb_at (hb_below J3.out HP2.out (hb_lt J3.out)) 1 rfl
        have x32 := hb_at (hb_below J3.out HP2.out (hb_lt J3.out)) 2 rfl
        have x33 := hb_at (hb_below J3.out HP2.out (hb_lt J3.out)) 3 rfl
        have x34 := hb_at (hb_below J3.out HP2.out (hb_lt J3.out)) 4 rfl
        go_wp2_with fail
        clear x20 x21 x22 x23 x24 x30 x31 x32 x33 x34
        cases hbc : abB tb tc
        · (with_reducible refine (aboveB_any d _ _ tb tc _ (G2.out.two G3.out (HT2.out.below HP2.out) (HT3.out.below HP2.out) (Nat.le_refl _) (Nat.le_refl _) (by omega) (by omega))).mono ?_)
          rintro e w3 ⟨rfl, hb3⟩
          have HP3 := Lib.hid (HP2.out.trans (hb3.mono HP2.out.size))
          clear hb3
          rw [hbc]
          go_wp2_with fail
          go_meet
          exact ⟨rfl, HP3.out⟩
        · (with_reducible refine (aboveB_any d _ _ tb tc _ (G2.out.two G3.out (HT2.out.below HP2.out) (HT3.out.below HP2.out) (Nat.le_refl _) (Nat.le_refl _) (by omega) (by omega))).mono ?_)
          rintro e w3 ⟨rfl, hb3⟩
          have HP3 := Lib.hid (HP2.out.trans (hb3.mono HP2.out.size))
          clear hb3
          rw [hbc]
          have hac : abB ta tc = true := abB_iff.2 ((abB_iff.1 hab).trans (abB_iff.1 hbc))
          have x10 := hb_at (hb_below J1.out HP3.out (hb_lt J1.out)) 0 rfl
          have x11 := hb_at (hb_below J1.out HP3.out (hb_lt J1.out)) 1 rfl
          have x12 := hb_at (hb_below J1.out HP3.out (hb_lt J1.out)) 2 rfl
          have x13 := hb_at (hb_below J1.out HP3.out (hb_lt J1.out)) 3 rfl
          have x14 := hb_at (hb_below J1.out HP3.out (hb_lt J1.out)) 4 rfl
          have x30 := hb_at (hb_below J3.out HP3.out (hb_lt J3.out)) 0 rfl
          have x31 := hb_at (hb_below J3.out HP3.out (hb_lt J3.out)) 1 rfl
          have x32 := hb_at (hb_below J3.out HP3.out (hb_lt J3.out)) 2 rfl
          have x33 := hb_at (hb_below J3.out HP3.out (hb_lt J3.out)) 3 rfl
          have x34 := hb_at (hb_below J3.out HP3.out (hb_lt J3.out)) 4 rfl
          go_wp2_with fail
          clear x10 x11 x12 x13 x14 x30 x31 x32 x33 x34
          (with_reducible refine (aboveB_any d _ _ ta tc _ (G1.out.two G3.out (HT1.out.below HP3.out) (HT3.out.below HP3.out) (Nat.le_refl _) (Nat.le_refl _) (by omega) (by omega))).mono ?_)
          rintro e w4 ⟨rfl, hb4⟩
          have HP4 := Lib.hid (HP3.out.trans (hb4.mono HP3.out.size))
          clear hb4
          rw [hac]
          go_wp2_with fail
          go_meet
          exact ⟨rfl, HP4.out⟩
    case rest =>
      obtain ⟨rfl, hBx⟩ := hcut
      have J1 := Lib.hid (hb_below J1.out hBx (hb_lt J1.out))
      have HT1 := Lib.hid (HT1.out.below hBx)
      have J2 := Lib.hid (hb_below J2.out hBx (hb_lt J2.out))
      have HT2 := Lib.hid (HT2.out.below hBx)
      have J3 := Lib.hid (hb_below J3.out hBx (hb_lt J3.out))
      have HT3 := Lib.hid (HT3.out.below hBx)
      have J4 := Lib.hid (hb_below J4.out hBx (hb_lt J4.out))
      have HT4 := Lib.hid (HT4.out.below hBx)
      have J5 := Lib.hid (hb_below J5.out hBx (hb_lt J5.out))
      have HT5 := Lib.hid (HT5.out.below hBx)
      have HBC := Lib.hid (HBC.out.trans (hBx.mono HBC.out.size))
      clear hBx
      go_upto_region 5 with fail
      have x10 := hb_at J1.out 0 rfl
      have x11 := hb_at J1.out 1 rfl
      have x12 := hb_at J1.out 2 rfl
      have x13 := hb_at J1.out 3 rfl
      have x14 := hb_at J1.out 4 rfl
      have x40 := hb_at J4.out 0 rfl
      have x41 := hb_at J4.out 1 rfl
      have x42 := hb_at J4.out 2 rfl
      have x43 := hb_at J4.out 3 rfl
      have x44 := hb_at J4.out 4 rfl
      have x50 := hb_at J5.out 0 rfl
      have x51 := hb_at J5.out 1 rfl
      have x52 := hb_at J5.out 2 rfl
      have x53 := hb_at J5.out 3 rfl
      have x54 := hb_at J5.out 4 rfl
      have hra := hb_alloc (hb_new wc (.cells #[.string ⟨#[97]⟩, .string ⟨#[98]⟩] 9)) (.cells #[.int .i64 k4, .string p4, .string n4, .int .i64 N4, .slice q4 l4 c4, .int .i64 k5, .string p5, .string n5, .int .i64 N5, .slice q5 l5 c5] 24)
      have hka := hb_new (wc.alloc (.cells #[.string ⟨#[97]⟩, .string ⟨#[98]⟩] 9)) (.cells #[.int .i64 k4, .string p4, .string n4, .int .i64 N4, .slice q4 l4 c4, .int .i64 k5, .string p5, .string n5, .int .i64 N5, .slice q5 l5 c5] 24)
      have hbb := below2 wc (.cells #[.string ⟨#[97]⟩, .string ⟨#[98]⟩] 9) (.cells #[.int .i64 k4, .string p4, .string n4, .int .i64 N4, .slice q4 l4 c4, .int .i64 k5, .string p5, .string n5, .int .i64 N5, .slice q5 l5 c5] 24)
      rw [World.size_alloc] at hka
      have hlt := hb_lt J1.out
      have hlt4 := hb_lt J4.out
      have hlt5 := hb_lt J5.out
      go_wp2_with fail
      clear x10 x11 x12 x13 x14 x40 x41 x42 x43 x44 x50 x51 x52 x53 x54
      have HC5 := rsubst_any [⟨#[97]⟩, ⟨#[98]⟩] _ [tx, ty] _ d (by simp) d ta _ _ wc.heap.size hbb.size (HT1.out.below hbb) (SRowO.two hra) (KidsE.two hka hbb HT4.out HT5.out) G1.out.sm
      (with_reducible refine HC5.mono ?_)
      rintro e w3 ⟨v3, rfl, hx3, hb3⟩
      obtain ⟨k9, p9, n9, N9, q9, l9, c9, rfl⟩ := hx3.shape
      have hw3 : Below wc.heap.size wc w3 := hbb.trans (hb3.mono hbb.size)
      have hxt : IsT w3 (d + d) (tv k9 p9 n9 N9 (.slice q9 l9 c9)) (putT d ta tx ty) := hx3.isT
      clear hra hka hbb HC5 hx3 hb3
      go_upto_region 6 with fail
      have hbn : Below wc.heap.size wc (w3.alloc (.cells #[.int .i64 k9, .string p9, .string n9, .int .i64 N9, .slice q9 l9 c9] 24)) := hw3.trans ((below_alloc _ _).mono hw3.size)
      have HG9 := Lib.hid (hb_new w3 (.cells #[.int .i64 k9, .string p9, .string n9, .int .i64 N9, .slice q9 l9 c9] 24))
      have HX9 := Lib.hid (hxt.below (below_alloc w3 (.cells #[.int .i64 k9, .string p9, .string n9, .int .i64 N9, .slice q9 l9 c9] 24)))
      clear hw3 hxt
      generalize w3.alloc (.cells #[.int .i64 k9, .string p9, .string n9, .int .i64 N9, .slice q9 l9 c9] 24) = W4 at *
      have J1 := Lib.hid (hb_below J1.out hbn (hb_lt J1.out))
      have HT1 := Lib.hid (HT1.out.below hbn)
      have J2 := Lib.hid (hb_below J2.out hbn (hb_lt J2.out))
      have HT2 := Lib.hid (HT2.out.below hbn)
      have J3 := Lib.hid (hb_below J3.out hbn (hb_lt J3.out))
      have HT3 := Lib.hid (HT3.out.below hbn)
      have J4 := Lib.hid (hb_below J4.out hbn (hb_lt J4.out))
      have HT4 := Lib.hid (HT4.out.below hbn)
      have J5 := Lib.hid (hb_below J5.out hbn (hb_lt J5.out))
      have HT5 := Lib.hid (HT5.out.below hbn)
      have HBC := Lib.hid (HBC.out.trans (hbn.mono HBC.out.size))
      clear hbn
      have G9 : RowKit.Hid (Gd (d + d) (putT d ta tx ty) 24000 2600) := Lib.hid (G1.out.put G4.out G5.out)
      have GE : RowKit.Hid (Gd (d + d) ta 600 600) := Lib.hid (G1.out.more (by omega) (by omega) (by omega))
      have HAD : RowKit.Hid (abB ta (putT d ta tx ty) = true) := Lib.hid (abB_iff.2 (Ab.of_sub G1.out.ty))
      have HSC : RowKit.Hid ((abB ta (canonT d ta) && abB (canonT d ta) ta) = true) := Lib.hid (by
        have h := canon_ab G1.out.ty (Nat.le_trans G1.out.vs (by omega))
        rw [abB_iff.2 h.1, abB_iff.2 h.2]; rfl)
      have HS1 : RowKit.Hid ((abB ta tb && abB tb ta) = same (canonT d ta) (canonT d tb)) := Lib.hid (same_eq G1.out G2.out (by omega) (by omega))
      have HS2 : RowKit.Hid ((abB ta (putT d ta tx ty) && abB (putT d ta tx ty) ta) = same (canonT (d + d) ta) (canonT (d + d) (putT d ta tx ty))) := Lib.hid (same_eq GE.out G9.out (by omega) (by omega))
      refine Inr.region (by kernel_rfl) 11 [some 67, some 68, some 69, some 70, some 71, some 72, some 73, some 74, some 75, some 76, some 77] [[], [], [0, 1], [2], [3, 2], [4], [4], [6, 4, 4], [5, 7, 7, 4], [8, 4], [4, 9]] (by kernel_rfl) (by kernel_rfl) (by kernel_rfl) (by kernel_rfl) [Inr.MP.is (tv k1 p1 n1 N1 (.slice q1 l1 c1)), Inr.MP.is (tv k9 p9 n9 N9 (.slice q9 l9 c9)), Inr.MP.is (.bool true), Inr.MP.is (.bool false), Inr.MP.is (.bool false), Inr.MP.is (tv k1 p1 n1 N1 (.slice q1 l1 c1)), Inr.MP.is (tv k1 p1 n1 N1 (.slice q1 l1 c1)), Inr.MP.term (1 + d) (canonT d ta), Inr.MP.is (.bool true), Inr.MP.is (.bool false), Inr.MP.is (.bool false)] [] (by intro x hx; cases hx) ⟨?_, ?_, ?_, ?_, ?_, ?_, ?_, ?_, ?_, ?_, ?_, trivial⟩ (fun vs wq hbq hv htie => ?_)
      · intro vs w' hb hv K hK
        clear hv
        have hK2 := hK.out
        clear hK
        simp only [Inr.putD, Inr.dst, List.foldl_cons, List.foldl_nil, List.getD_cons_zero, List.getD_cons_succ, Act.put, List.setIfInBounds_toArray, List.set_cons_zero, List.set_cons_succ] at hK2 ⊢
        have hK := Lib.hid hK2
        clear hK2
        have x0 := hb_at (hb_below J1.out hb (hb_lt J1.out)) 0 rfl
        have x1 := hb_at (hb_below J1.out hb (hb_lt J1.out)) 1 rfl
        have x2 := hb_at (hb_below J1.out hb (hb_lt J1.out)) 2 rfl
        have x3 := hb_at (hb_below J1.out hb (hb_lt J1.out)) 3 rfl
        have x4 := hb_at (hb_below J1.out hb (hb_lt J1.out)) 4 rfl
        simp only [Region.wanted, Inr.yieldedD, Inr.dst, List.getD_cons_zero, List.getD_cons_succ]
        go_simp
        refine hK.out _ _ (Eq.refl _) (Below.refl _ _) (Inr.noTies _ _ _ _ _)
      · intro vs w' hb hv K hK
        clear hv
        have hK2 := hK.out
        clear hK
        simp only [Inr.putD, Inr.dst, List.foldl_cons, List.foldl_nil, List.getD_cons_zero, List.getD_cons_succ, Act.put, List.setIfInBounds_toArray, List.set_cons_zero, List.set_cons_succ] at hK2 ⊢
        have hK := Lib.hid hK2
        clear hK2
        have x0 := hb_at (hb_below HG9.out hb (hb_lt HG9.out)) 0 rfl
        have x1 := hb_at (hb_below HG9.out hb (hb_lt HG9.out)) 1 rfl
        have x2 := hb_at (hb_below HG9.out hb (hb_lt HG9.out)) 2 rfl
        have x3 := hb_at (hb_below HG9.out hb (hb_lt HG9.out)) 3 rfl
        have x4 := hb_at (hb_below HG9.out hb (hb_lt HG9.out)) 4 rfl
        simp only [Region.wanted, Inr.yieldedD, Inr.dst, List.getD_cons_zero, List.getD_cons_succ]
        go_simp
        refine hK.out _ _ (Eq.refl _) (Below.refl _ _) (Inr.noTies _ _ _ _ _)
      · intro vs w' hb hv K hK
        have h0 : (Inr.MP.is (tv k1 p1 n1 N1 (.slice q1 l1 c1))).p (vs 0) w' := hv 0 (by simp)
        have h1 : (Inr.MP.is (tv k9 p9 n9 N9 (.slice q9 l9 c9))).p (vs 1) w' := hv 1 (by simp)
        clear hv
        have hK2 := hK.out
        clear hK
        simp only [Inr.putD, Inr.dst, List.foldl_cons, List.foldl_nil, List.getD_cons_zero, List.getD_cons_succ, Act.put, List.setIfInBounds_toArray, List.set_cons_zero, List.set_cons_succ] at hK2 ⊢
        have hK := Lib.hid hK2
        clear hK2
        generalize vs 0 = y0 at *
        generalize vs 1 = y1 at *
        have h0 : y0 = _ := h0
        subst h0
        have h1 : y1 = _ := h1
        subst h1
        simp only [Region.wanted, Inr.yieldedD, Inr.dst, List.getD_cons_zero, List.getD_cons_succ]
        go_simp
        ((with_reducible refine (aboveB_any (d + d) _ _ ta (putT d ta tx ty) w' (G1.out.two G9.out (HT1.out.below hb) (HX9.out.below hb) (by omega) (by omega) (by omega) (by omega))).mono ?_); rintro e w3 ⟨rfl, hb3⟩)
        go_wp2_with fail
        refine hK.out _ _ (show Value.bool _ = Value.bool _ from congrArg Value.bool HAD.out) hb3 (Inr.noTies _ _ _ _ _)
      · intro vs w' hb hv K hK
        have h2 : (Inr.MP.is (.bool true)).p (vs 2) w' := hv 2 (by simp)
        clear hv
        have hK2 := hK.out
        clear hK
        simp only [Inr.putD, Inr.dst, List.foldl_cons, List.foldl_nil, List.getD_cons_zero, List.getD_cons_succ, Act.put, List.setIfInBounds_toArray, List.set_cons_zero, List.set_cons_succ] at hK2 ⊢
        have hK := Lib.hid hK2
        clear hK2
        generalize vs 2 = y2 at *
        have h2 : y2 = _ := h2
        subst h2
        simp only [Region.wanted, Inr.yieldedD, Inr.dst, List.getD_cons_zero, List.getD_cons_succ]
        go_simp
        refine hK.out _ _ (Eq.refl _) (Below.refl _ _) (Inr.noTies _ _ _ _ _)
      · intro vs w' hb hv K hK
        have h2 : (Inr.MP.is (.bool true)).p (vs 2) w' := hv 2 (by simp)
        have h3 : (Inr.MP.is (.bool false)).p (vs 3) w' := hv 3 (by simp)
        clear hv
        have hK2 := hK.out
        clear hK
        simp only [Inr.putD, Inr.dst, List.foldl_cons, List.foldl_nil, List.getD_cons_zero, List.getD_cons_succ, Act.put, List.setIfInBounds_toArray, List.set_cons_zero, List.set_cons_succ] at hK2 ⊢
        have hK := Lib.hid hK2
        clear hK2
        generalize vs 2 = y2 at *
        generalize vs 3 = y3 at *
        have h2 : y2 = _ := h2
        subst h2
        have h3 : y3 = _ := h3
        subst h3
        simp only [Region.wanted, Inr.yieldedD, Inr.dst, List.getD_cons_zero, List.getD_cons_succ]
        go_simp
        refine hK.out _ _ (Eq.refl _) (Below.refl _ _) (Inr.noTies _ _ _ _ _)
      · intro vs w' hb hv K hK
        have h4 : (Inr.MP.is (.bool false)).p (vs 4) w' := hv 4 (by simp)
        clear hv
        have hK2 := hK.out
        clear hK
        simp only [Inr.putD, Inr.dst, List.foldl_cons, List.foldl_nil, List.getD_cons_zero, List.getD_cons_succ, Act.put, List.setIfInBounds_toArray, List.set_cons_zero, List.set_cons_succ] at hK2 ⊢
        have hK := Lib.hid hK2
        clear hK2
        generalize vs 4 = y4 at *
        have h4 : y4 = _ := h4
        subst h4
        have x0 := hb_at (hb_below J1.out hb (hb_lt J1.out)) 0 rfl
        have x1 := hb_at (hb_below J1.out hb (hb_lt J1.out)) 1 rfl
        have x2 := hb_at (hb_below J1.out hb (hb_lt J1.out)) 2 rfl
        have x3 := hb_at (hb_below J1.out hb (hb_lt J1.out)) 3 rfl
        have x4 := hb_at (hb_below J1.out hb (hb_lt J1.out)) 4 rfl
        simp only [Region.wanted, Inr.yieldedD, Inr.dst, List.getD_cons_zero, List.getD_cons_succ]
        go_simp
        refine hK.out _ _ (Eq.refl _) (Below.refl _ _) (Inr.noTies _ _ _ _ _)
      · intro vs w' hb hv K hK
        have h4 : (Inr.MP.is (.bool false)).p (vs 4) w' := hv 4 (by simp)
        clear hv
        have hK2 := hK.out
        clear hK
        simp only [Inr.putD, Inr.dst, List.foldl_cons, List.foldl_nil, List.getD_cons_zero, List.getD_cons_succ, Act.put, List.setIfInBounds_toArray, List.set_cons_zero, List.set_cons_succ] at hK2 ⊢
        have hK := Lib.hid hK2
        clear hK2
        generalize vs 4 = y4 at *
        have h4 : y4 = _ := h4
        subst h4
        have x0 := hb_at (hb_below J1.out hb (hb_lt J1.out)) 0 rfl
        have x1 := hb_at (hb_below J1.out hb (hb_lt J1.out)) 1 rfl
        have x2 := hb_at (hb_below J1.out hb (hb_lt J1.out)) 2 rfl
        have x3 := hb_at (hb_below J1.out hb (hb_lt J1.out)) 3 rfl
        have x4 := hb_at (hb_below J1.out hb (hb_lt J1.out)) 4 rfl
        simp only [Region.wanted, Inr.yieldedD, Inr.dst, List.getD_cons_zero, List.getD_cons_succ]
        go_simp
        refine hK.out _ _ (Eq.refl _) (Below.refl _ _) (Inr.noTies _ _ _ _ _)
      · intro vs w' hb hv K hK
        have h4 : (Inr.MP.is (.bool false)).p (vs 4) w' := hv 4 (by simp)
        have h6 : (Inr.MP.is (tv k1 p1 n1 N1 (.slice q1 l1 c1))).p (vs 6) w' := hv 6 (by simp)
        clear hv
        have hK2 := hK.out
        clear hK
        simp only [Inr.putD, Inr.dst, List.foldl_cons, List.foldl_nil, List.getD_cons_zero, List.getD_cons_succ, Act.put, List.setIfInBounds_toArray, List.set_cons_zero, List.set_cons_succ] at hK2 ⊢
        have hK := Lib.hid hK2
        clear hK2
        generalize vs 4 = y4 at *
        generalize vs 6 = y6 at *
        have h4 : y4 = _ := h4
        subst h4
        have h6 : y6 = _ := h6
        subst h6
        simp only [Region.wanted, Inr.yieldedD, Inr.dst, List.getD_cons_zero, List.getD_cons_succ]
        go_simp
        ((with_reducible refine (canonB_any d _ _ _ ta w' G1.out (by omega) (by omega) ((HT1.out.below hb))).mono ?_); rintro e w3 ⟨v3, rfl, hx3, hb3⟩)
        go_wp2_with fail
        refine hK.out _ _ hx3 hb3 (Inr.noTies _ _ _ _ _)
      · intro vs w' hb hv K hK
        have h4 : (Inr.MP.is (.bool false)).p (vs 4) w' := hv 4 (by simp)
        have h5 : (Inr.MP.is (tv k1 p1 n1 N1 (.slice q1 l1 c1))).p (vs 5) w' := hv 5 (by simp)
        have h7 : IsT w' (1 + d) (vs 7) (canonT d ta) := hv 7 (by simp)
        clear hv
        have hK2 := hK.out
        clear hK
        simp only [Inr.putD, Inr.dst, List.foldl_cons, List.foldl_nil, List.getD_cons_zero, List.getD_cons_succ, Act.put, List.setIfInBounds_toArray, List.set_cons_zero, List.set_cons_succ] at hK2 ⊢
        have hK := Lib.hid hK2
        clear hK2
        generalize vs 4 = y4 at *
        generalize vs 5 = y5 at *
        generalize vs 7 = y7 at *
        have h4 : y4 = _ := h4
        subst h4
        have h5 : y5 = _ := h5
        subst h5
        obtain ⟨k07, p07, n07, N07, q07, l07, c07, rfl⟩ := IsT.shp h7
        simp only [Region.wanted, Inr.yieldedD, Inr.dst, List.getD_cons_zero, List.getD_cons_succ]
        go_simp
        ((with_reducible refine (sameB_any (1 + d) _ _ ta (canonT d ta) w' (G1.out.two G1.out.canon' (HT1.out.below hb) h7 (by omega) (by omega) (by omega) (by omega))).mono ?_); rintro e w3 ⟨rfl, hb3⟩)
        go_wp2_with fail
        refine hK.out _ _ (show Value.bool _ = Value.bool _ from congrArg Value.bool HSC.out) hb3 (Inr.noTies _ _ _ _ _)
      · intro vs w' hb hv K hK
        have h4 : (Inr.MP.is (.bool false)).p (vs 4) w' := hv 4 (by simp)
        have h8 : (Inr.MP.is (.bool true)).p (vs 8) w' := hv 8 (by simp)
        clear hv
        have hK2 := hK.out
        clear hK
        simp only [Inr.putD, Inr.dst, List.foldl_cons, List.foldl_nil, List.getD_cons_zero, List.getD_cons_succ, Act.put, List.setIfInBounds_toArray, List.set_cons_zero, List.set_cons_succ] at hK2 ⊢
        have hK := Lib.hid hK2
        clear hK2
        generalize vs 4 = y4 at *
        generalize vs 8 = y8 at *
        have h4 : y4 = _ := h4
        subst h4
        have h8 : y8 = _ := h8
        subst h8
        simp only [Region.wanted, Inr.yieldedD, Inr.dst, List.getD_cons_zero, List.getD_cons_succ]
        go_simp
        refine hK.out _ _ (Eq.refl _) (Below.refl _ _) (Inr.noTies _ _ _ _ _)
      · intro vs w' hb hv K hK
        have h4 : (Inr.MP.is (.bool false)).p (vs 4) w' := hv 4 (by simp)
        have h9 : (Inr.MP.is (.bool false)).p (vs 9) w' := hv 9 (by simp)
        clear hv
        have hK2 := hK.out
        clear hK
        simp only [Inr.putD, Inr.dst, List.foldl_cons, List.foldl_nil, List.getD_cons_zero, List.getD_cons_succ, Act.put, List.setIfInBounds_toArray, List.set_cons_zero, List.set_cons_succ] at hK2 ⊢
        have hK := Lib.hid hK2
        clear hK2
        generalize vs 4 = y4 at *
        generalize vs 9 = y9 at *
        have h4 : y4 = _ := h4
        subst h4
        have h9 : y9 = _ := h9
        subst h9
        simp only [Region.wanted, Inr.yieldedD, Inr.dst, List.getD_cons_zero, List.getD_cons_succ]
        go_simp
        refine hK.out _ _ (Eq.refl _) (Below.refl _ _) (Inr.noTies _ _ _ _ _)
      · have hl : vs 10 = .bool false := hv 10 (by omega)
        clear hv
        simp only [List.range, List.range.loop, Inr.putD, Inr.dst, List.foldl_cons, List.foldl_nil, List.getD_cons_zero, List.getD_cons_succ, Act.put, List.setIfInBounds_toArray, List.set_cons_zero, List.set_cons_succ]
        simp only [List.drop_succ_cons, List.drop_zero]
        generalize vs 0 = yy0 at *
        generalize vs 1 = yy1 at *
        generalize vs 2 = yy2 at *
        generalize vs 3 = yy3 at *
        generalize vs 4 = yy4 at *
        generalize vs 5 = yy5 at *
        generalize vs 6 = yy6 at *
        generalize vs 7 = yy7 at *
        generalize vs 8 = yy8 at *
        generalize vs 9 = yy9 at *
        generalize vs 10 = yy10 at *
        subst hl
        have J1 := Lib.hid (hb_below J1.out hbq (hb_lt J1.out))
        have HT1 := Lib.hid (HT1.out.below hbq)
        have J2 := Lib.hid (hb_below J2.out hbq (hb_lt J2.out))
        have HT2 := Lib.hid (HT2.out.below hbq)
        have J3 := Lib.hid (hb_below J3.out hbq (hb_lt J3.out))
        have HT3 := Lib.hid (HT3.out.below hbq)
        have J4 := Lib.hid (hb_below J4.out hbq (hb_lt J4.out))
        have HT4 := Lib.hid (HT4.out.below hbq)
        have J5 := Lib.hid (hb_below J5.out hbq (hb_lt J5.out))
        have HT5 := Lib.hid (HT5.out.below hbq)
        have HG9 := Lib.hid (hb_below HG9.out hbq (hb_lt HG9.out))
        have HX9 := Lib.hid (HX9.out.below hbq)
        have HBC := Lib.hid (HBC.out.trans (hbq.mono HBC.out.size))
        clear hbq
        go_upto_region 8 with fail
        refine Inr.region (by kernel_rfl) 24 [some 78, some 79, some 80, some 81, some 82, some 83, some 84, some 85, some 86, some 87, some 88, some 89, some 90, some 91, some 92, some 93, some 94, some 95, some 96, some 97, some 98, some 99, some 100, some 10] [[], [], [0, 1], [], [3, 2], [], [5, 4], [4, 6, 6], [2, 7], [8, 7], [9], [9], [10, 11, 9, 9], [9], [13, 12, 9], [9], [15, 14, 9], [14, 16, 16, 9], [12, 17, 9], [9, 18], [19, 17], [20, 20], [20, 21], [22, 21, 0, 1, 2, 3, 4, 5, 6, 7, 8, 9, 10, 11, 12, 13, 14, 15, 16, 17, 18, 19, 20, 21, 22]] (by kernel_rfl) (by kernel_rfl) (by kernel_rfl) (by kernel_rfl) [Inr.MP.is (tv k1 p1 n1 N1 (.slice q1 l1 c1)), Inr.MP.is (tv k2 p2 n2 N2 (.slice q2 l2 c2)), Inr.MP.is (.bool (same (canonT d ta) (canonT d tb))), Inr.MP.is (tv k1 p1 n1 N1 (.slice q1 l1 c1)), Inr.MP.term (1 + d) (canonT d ta), Inr.MP.is (tv k2 p2 n2 N2 (.slice q2 l2 c2)), Inr.MP.term (1 + d) (canonT d tb), Inr.MP.is (.bool (same (canonT d ta) (canonT d tb))), Inr.MP.is (.bool true), Inr.MP.is (.bool true), Inr.MP.is (tv k1 p1 n1 N1 (.slice q1 l1 c1)), Inr.MP.is (tv k9 p9 n9 N9 (.slice q9 l9 c9)), Inr.MP.is (.bool (same (canonT (d + d) ta) (canonT (d + d) (putT d ta tx ty)))), Inr.MP.is (tv k1 p1 n1 N1 (.slice q1 l1 c1)), Inr.MP.term (1 + (d + d)) (canonT (d + d) ta), Inr.MP.is (tv k9 p9 n9 N9 (.slice q9 l9 c9)), Inr.MP.term (1 + (d + d)) (canonT (d + d) (putT d ta tx ty)), Inr.MP.is (.bool (same (canonT (d + d) ta) (canonT (d + d) (putT d ta tx ty)))), Inr.MP.is (.bool true), Inr.MP.is (.bool true), Inr.MP.is (.bool true), Inr.MP.is (.bool true), Inr.MP.is (.bool true), Inr.MP.is (.bool true)] [] (by intro x hx; cases hx) ⟨?_, ?_, ?_, ?_, ?_, ?_, ?_, ?_, ?_, ?_, ?_, ?_, ?_, ?_, ?_, ?_, ?_, ?_, ?_, ?_, ?_, ?_, ?_, ?_, trivial⟩ (fun vs wq hbq hv htie => ?_)
        · intro vs w' hb hv K hK
          clear hv
          have hK2 := hK.out
          clear hK
          simp only [Inr.putD, Inr.dst, List.foldl_cons, List.foldl_nil, List.getD_cons_zero, List.getD_cons_succ, Act.put, List.setIfInBounds_toArray, List.set_cons_zero, List.set_cons_succ] at hK2 ⊢
          have hK := Lib.hid hK2
          clear hK2
          have x0 := hb_at (hb_below J1.out hb (hb_lt J1.out)) 0 rfl
          have x1 := hb_at (hb_below J1.out hb (hb_lt J1.out)) 1 rfl
          have x2 := hb_at (hb_below J1.out hb (hb_lt J1.out)) 2 rfl
          have x3 := hb_at (hb_below J1.out hb (hb_lt J1.out)) 3 rfl
          have x4 := hb_at (hb_below J1.out hb (hb_lt J1.out)) 4 rfl
          simp only [Region.wanted, Inr.yieldedD, Inr.dst, List.getD_cons_zero, List.getD_cons_succ]
          go_simp
          refine hK.out _ _ (Eq.refl _) (Below.refl _ _) (Inr.noTies _ _ _ _ _)
        · intro vs w' hb hv K hK
          clear hv
          have hK2 := hK.out
          clear hK
          simp only [Inr.putD, Inr.dst, List.foldl_cons, List.foldl_nil, List.getD_cons_zero, List.getD_cons_succ, Act.put, List.setIfInBounds_toArray, List.set_cons_zero, List.set_cons_succ] at hK2 ⊢
          have hK := Lib.hid hK2
          clear hK2
          have x0 := hb_at (hb_below J2.out hb (hb_lt J2.out)) 0 rfl
          have x1 := hb_at (hb_below J2.out hb (hb_lt J2.out)) 1 rfl
          have x2 := hb_at (hb_below J2.out hb (hb_lt J2.out)) 2 rfl
          have x3 := hb_at (hb_below J2.out hb (hb_lt J2.out)) 3 rfl
          have x4 := hb_at (hb_below J2.out hb (hb_lt J2.out)) 4 rfl
          simp only [Region.wanted, Inr.yieldedD, Inr.dst, List.getD_cons_zero, List.getD_cons_succ]
          go_simp
          refine hK.out _ _ (Eq.refl _) (Below.refl _ _) (Inr.noTies _ _ _ _ _)
        · intro vs w' hb hv K hK
          have h0 : (Inr.MP.is (tv k1 p1 n1 N1 (.slice q1 l1 c1))).p (vs 0) w' := hv 0 (by simp)
          have h1 : (Inr.MP.is (tv k2 p2 n2 N2 (.slice q2 l2 c2))).p (vs 1) w' := hv 1 (by simp)
          clear hv
          have hK2 := hK.out
          clear hK
          simp only [Inr.putD, Inr.dst, List.foldl_cons, List.foldl_nil, List.getD_cons_zero, List.getD_cons_succ, Act.put, List.setIfInBounds_toArray, List.set_cons_zero, List.set_cons_succ] at hK2 ⊢
          have hK := Lib.hid hK2
          clear hK2
          generalize vs 0 = y0 at *
          generalize vs 1 = y1 at *
          have h0 : y0 = _ := h0
          subst h0
          have h1 : y1 = _ := h1
          subst h1
          simp only [Region.wanted, Inr.yieldedD, Inr.dst, List.getD_cons_zero, List.getD_cons_succ]
          go_simp
          ((with_reducible refine (sameB_any d _ _ ta tb w' (G1.out.two G2.out (HT1.out.below hb) (HT2.out.below hb) (by omega) (by omega) (by omega) (by omega))).mono ?_); rintro e w3 ⟨rfl, hb3⟩)
          go_wp2_with fail
          refine hK.out _ _ (show Value.bool _ = Value.bool _ from congrArg Value.bool HS1.out) hb3 (Inr.noTies _ _ _ _ _)
        · intro vs w' hb hv K hK
          clear hv
          have hK2 := hK.out
          clear hK
          simp only [Inr.putD, Inr.dst, List.foldl_cons, List.foldl_nil, List.getD_cons_zero, List.getD_cons_succ, Act.put, List.setIfInBounds_toArray, List.set_cons_zero, List.set_cons_succ] at hK2 ⊢
          have hK := Lib.hid hK2
          clear hK2
          have x0 := hb_at (hb_below J1.out hb (hb_lt J1.out)) 0 rfl
          have x1 := hb_at (hb_below J1.out hb (hb_lt J1.out)) 1 rfl
          have x2 := hb_at (hb_below J1.out hb (hb_lt J1.out)) 2 rfl
          have x3 := hb_at (hb_below J1.out hb (hb_lt J1.out)) 3 rfl
          have x4 := hb_at (hb_below J1.out hb (hb_lt J1.out)) 4 rfl
          simp only [Region.wanted, Inr.yieldedD, Inr.dst, List.getD_cons_zero, List.getD_cons_succ]
          go_simp
          refine hK.out _ _ (Eq.refl _) (Below.refl _ _) (Inr.noTies _ _ _ _ _)
        · intro vs w' hb hv K hK
          have h2 : (Inr.MP.is (.bool (same (canonT d ta) (canonT d tb)))).p (vs 2) w' := hv 2 (by simp)
          have h3 : (Inr.MP.is (tv k1 p1 n1 N1 (.slice q1 l1 c1))).p (vs 3) w' := hv 3 (by simp)
          clear hv
          have hK2 := hK.out
          clear hK
          simp only [Inr.putD, Inr.dst, List.foldl_cons, List.foldl_nil, List.getD_cons_zero, List.getD_cons_succ, Act.put, List.setIfInBounds_toArray, List.set_cons_zero, List.set_cons_succ] at hK2 ⊢
          have hK := Lib.hid hK2
          clear hK2
          generalize vs 2 = y2 at *
          generalize vs 3 = y3 at *
          have h2 : y2 = _ := h2
          subst h2
          have h3 : y3 = _ := h3
          subst h3
          simp only [Region.wanted, Inr.yieldedD, Inr.dst, List.getD_cons_zero, List.getD_cons_succ]
          go_simp
          ((with_reducible refine (canonB_any d _ _ _ ta w' G1.out (by omega) (by omega) ((HT1.out.below hb))).mono ?_); rintro e w3 ⟨v3, rfl, hx3, hb3⟩)
          go_wp2_with fail
          refine hK.out _ _ hx3 hb3 (Inr.noTies _ _ _ _ _)
        · intro vs w' hb hv K hK
          clear hv
          have hK2 := hK.out
          clear hK
          simp only [Inr.putD, Inr.dst, List.foldl_cons, List.foldl_nil, List.getD_cons_zero, List.getD_cons_succ, Act.put, List.setIfInBounds_toArray, List.set_cons_zero, List.set_cons_succ] at hK2 ⊢
          have hK := Lib.hid hK2
          clear hK2
          have x0 := hb_at (hb_below J2.out hb (hb_lt J2.out)) 0 rfl
          have x1 := hb_at (hb_below J2.out hb (hb_lt J2.out)) 1 rfl
          have x2 := hb_at (hb_below J2.out hb (hb_lt J2.out)) 2 rfl
          have x3 := hb_at (hb_below J2.out hb (hb_lt J2.out)) 3 rfl
          have x4 := hb_at (hb_below J2.out hb (hb_lt J2.out)) 4 rfl
          simp only [Region.wanted, Inr.yieldedD, Inr.dst, List.getD_cons_zero, List.getD_cons_succ]
          go_simp
          refine hK.out _ _ (Eq.refl _) (Below.refl _ _) (Inr.noTies _ _ _ _ _)
        · intro vs w' hb hv K hK
          have h4 : IsT w' (1 + d) (vs 4) (canonT d ta) := hv 4 (by simp)
          have h5 : (Inr.MP.is (tv k2 p2 n2 N2 (.slice q2 l2 c2))).p (vs 5) w' := hv 5 (by simp)
          clear hv
          have hK2 := hK.out
          clear hK
          simp only [Inr.putD, Inr.dst, List.foldl_cons, List.foldl_nil, List.getD_cons_zero, List.getD_cons_succ, Act.put, List.setIfInBounds_toArray, List.set_cons_zero, List.set_cons_succ] at hK2 ⊢
          have hK := Lib.hid hK2
          clear hK2
          generalize vs 4 = y4 at *
          generalize vs 5 = y5 at *
          have h5 : y5 = _ := h5
          subst h5
          simp only [Region.wanted, Inr.yieldedD, Inr.dst, List.getD_cons_zero, List.getD_cons_succ]
          go_simp
          ((with_reducible refine (canonB_any d _ _ _ tb w' G2.out (by omega) (by omega) ((HT2.out.below hb))).mono ?_); rintro e w3 ⟨v3, rfl, hx3, hb3⟩)
          go_wp2_with fail
          refine hK.out _ _ hx3 hb3 (Inr.noTies _ _ _ _ _)
        · intro vs w' hb hv K hK
          have h4 : IsT w' (1 + d) (vs 4) (canonT d ta) := hv 4 (by simp)
          have h6 : IsT w' (1 + d) (vs 6) (canonT d tb) := hv 6 (by simp)
          clear hv
          have hK2 := hK.out
          clear hK
          simp only [Inr.putD, Inr.dst, List.foldl_cons, List.foldl_nil, List.getD_cons_zero, List.getD_cons_succ, Act.put, List.setIfInBounds_toArray, List.set_cons_zero, List.set_cons_succ] at hK2 ⊢
          have hK := Lib.hid hK2
          clear hK2
          generalize vs 4 = y4 at *
          generalize vs 6 = y6 at *
          obtain ⟨k0a, p0a, n0a, N0a, q0a, l0a, c0a, rfl⟩ := IsT.shp h4
          obtain ⟨k0b, p0b, n0b, N0b, q0b, l0b, c0b, rfl⟩ := IsT.shp h6
          simp only [Region.wanted, Inr.yieldedD, Inr.dst, List.getD_cons_zero, List.getD_cons_succ]
          go_simp
          ((with_reducible refine (refSame_any (1 + d) _ _ _ _ w' h4 h6).mono ?_); rintro e w3 ⟨rfl, hb3⟩)
          go_wp2_with fail
          refine hK.out _ _ (Eq.refl _) hb3 (Inr.noTies _ _ _ _ _)
        · intro vs w' hb hv K hK
          have h2 : (Inr.MP.is (.bool (same (canonT d ta) (canonT d tb)))).p (vs 2) w' := hv 2 (by simp)
          have h7 : (Inr.MP.is (.bool (same (canonT d ta) (canonT d tb)))).p (vs 7) w' := hv 7 (by simp)
          clear hv
          have hK2 := hK.out
          clear hK
          simp only [Inr.putD, Inr.dst, List.foldl_cons, List.foldl_nil, List.getD_cons_zero, List.getD_cons_succ, Act.put, List.setIfInBounds_toArray, List.set_cons_zero, List.set_cons_succ] at hK2 ⊢
          have hK := Lib.hid hK2
          clear hK2
          generalize vs 2 = y2 at *
          generalize vs 7 = y7 at *
          have h2 : y2 = _ := h2
          subst h2
          have h7 : y7 = _ := h7
          subst h7
          simp only [Region.wanted, Inr.yieldedD, Inr.dst, List.getD_cons_zero, List.getD_cons_succ]
          go_simp
          refine hK.out _ _ (Eq.refl _) (Below.refl _ _) (Inr.noTies _ _ _ _ _)
        · intro vs w' hb hv K hK
          have h7 : (Inr.MP.is (.bool (same (canonT d ta) (canonT d tb)))).p (vs 7) w' := hv 7 (by simp)
          have h8 : (Inr.MP.is (.bool true)).p (vs 8) w' := hv 8 (by simp)
          clear hv
          have hK2 := hK.out
          clear hK
          simp only [Inr.putD, Inr.dst, List.foldl_cons, List.foldl_nil, List.getD_cons_zero, List.getD_cons_succ, Act.put, List.setIfInBounds_toArray, List.set_cons_zero, List.set_cons_succ] at hK2 ⊢
          have hK := Lib.hid hK2
          clear hK2
          generalize vs 7 = y7 at *
          generalize vs 8 = y8 at *
          have h7 : y7 = _ := h7
          subst h7
          have h8 : y8 = _ := h8
          subst h8
          simp only [Region.wanted, Inr.yieldedD, Inr.dst, List.getD_cons_zero, List.getD_cons_succ]
          go_simp
          refine hK.out _ _ (Eq.refl _) (Below.refl _ _) (Inr.noTies _ _ _ _ _)
        · intro vs w' hb hv K hK
          have h9 : (Inr.MP.is (.bool true)).p (vs 9) w' := hv 9 (by simp)
          clear hv
          have hK2 := hK.out
          clear hK
          simp only [Inr.putD, Inr.dst, List.foldl_cons, List.foldl_nil, List.getD_cons_zero, List.getD_cons_succ, Act.put, List.setIfInBounds_toArray, List.set_cons_zero, List.set_cons_succ] at hK2 ⊢
          have hK := Lib.hid hK2
          clear hK2
          generalize vs 9 = y9 at *
          have h9 : y9 = _ := h9
          subst h9
          have x0 := hb_at (hb_below J1.out hb (hb_lt J1.out)) 0 rfl
          have x1 := hb_at (hb_below J1.out hb (hb_lt J1.out)) 1 rfl
          have x2 := hb_at (hb_below J1.out hb (hb_lt J1.out)) 2 rfl
          have x3 := hb_at (hb_below J1.out hb (hb_lt J1.out)) 3 rfl
          have x4 := hb_at (hb_below J1.out hb (hb_lt J1.out)) 4 rfl
          simp only [Region.wanted, Inr.yieldedD, Inr.dst, List.getD_cons_zero, List.getD_cons_succ]
          go_simp
          refine hK.out _ _ (Eq.refl _) (Below.refl _ _) (Inr.noTies _ _ _ _ _)
        · intro vs w' hb hv K hK
          have h9 : (Inr.MP.is (.bool true)).p (vs 9) w' := hv 9 (by simp)
          clear hv
          have hK2 := hK.out
          clear hK
          simp only [Inr.putD, Inr.dst, List.foldl_cons, List.foldl_nil, List.getD_cons_zero, List.getD_cons_succ, Act.put, List.setIfInBounds_toArray, List.set_cons_zero, List.set_cons_succ] at hK2 ⊢
          have hK := Lib.hid hK2
          clear hK2
          generalize vs 9 = y9 at *
          have h9 : y9 = _ := h9
          subst h9
          have x0 := hb_at (hb_below HG9.out hb (hb_lt HG9.out)) 0 rfl
          have x1 := hb_at (hb_below HG9.out hb (hb_lt HG9.out)) 1 rfl
          have x2 := hb_at (hb_below HG9.out hb (hb_lt HG9.out)) 2 rfl
          have x3 := hb_at (hb_below HG9.out hb (hb_lt HG9.out)) 3 rfl
          have x4 := hb_at (hb_below HG9.out hb (hb_lt HG9.out)) 4 rfl
          simp only [Region.wanted, Inr.yieldedD, Inr.dst, List.getD_cons_zero, List.getD_cons_succ]
          go_simp
          refine hK.out _ _ (Eq.refl _) (Below.refl _ _) (Inr.noTies _ _ _ _ _)
        · intro vs w' hb hv K hK
          have h9 : (Inr.MP.is (.bool true)).p (vs 9) w' := hv 9 (by simp)
          have h10 : (Inr.MP.is (tv k1 p1 n1 N1 (.slice q1 l1 c1))).p (vs 10) w' := hv 10 (by simp)
          have h11 : (Inr.MP.is (tv k9 p9 n9 N9 (.slice q9 l9 c9))).p (vs 11) w' := hv 11 (by simp)
          clear hv
          have hK2 := hK.out
          clear hK
          simp only [Inr.putD, Inr.dst, List.foldl_cons, List.foldl_nil, List.getD_cons_zero, List.getD_cons_succ, Act.put, List.setIfInBounds_toArray, List.set_cons_zero, List.set_cons_succ] at hK2 ⊢
          have hK := Lib.hid hK2
          clear hK2
          generalize vs 9 = y9 at *
          generalize vs 10 = y10 at *
          generalize vs 11 = y11 at *
          have h9 : y9 = _ := h9
          subst h9
          have h10 : y10 = _ := h10
          subst h10
          have h11 : y11 = _ := h11
          subst h11
          simp only [Region.wanted, Inr.yieldedD, Inr.dst, List.getD_cons_zero, List.getD_cons_succ]
          go_simp
          ((with_reducible refine (sameB_any (d + d) _ _ ta (putT d ta tx ty) w' (G1.out.two G9.out (HT1.out.below hb) (HX9.out.below hb) (by omega) (by omega) (by omega) (by omega))).mono ?_); rintro e w3 ⟨rfl, hb3⟩)
          go_wp2_with fail
          refine hK.out _ _ (show Value.bool _ = Value.bool _ from congrArg Value.bool HS2.out) hb3 (Inr.noTies _ _ _ _ _)
        · intro vs w' hb hv K hK
          have h9 : (Inr.MP.is (.bool true)).p (vs 9) w' := hv 9 (by simp)
          clear hv
          have hK2 := hK.out
          clear hK
          simp only [Inr.putD, Inr.dst, List.foldl_cons, List.foldl_nil, List.getD_cons_zero, List.getD_cons_succ, Act.put, List.setIfInBounds_toArray, List.set_cons_zero, List.set_cons_succ] at hK2 ⊢
          have hK := Lib.hid hK2
          clear hK2
          generalize vs 9 = y9 at *
          have h9 : y9 = _ := h9
          subst h9
          have x0 := hb_at (hb_below J1.out hb (hb_lt J1.out)) 0 rfl
          have x1 := hb_at (hb_below J1.out hb (hb_lt J1.out)) 1 rfl
          have x2 := hb_at (hb_below J1.out hb (hb_lt J1.out)) 2 rfl
          have x3 := hb_at (hb_below J1.out hb (hb_lt J1.out)) 3 rfl
          have x4 := hb_at (hb_below J1.out hb (hb_lt J1.out)) 4 rfl
          simp only [Region.wanted, Inr.yieldedD, Inr.dst, List.getD_cons_zero, List.getD_cons_succ]
          go_simp
          refine hK.out _ _ (Eq.refl _) (Below.refl _ _) (Inr.noTies _ _ _ _ _)
        · intro vs w' hb hv K hK
          have h9 : (Inr.MP.is (.bool true)).p (vs 9) w' := hv 9 (by simp)
          have h12 : (Inr.MP.is (.bool (same (canonT (d + d) ta) (canonT (d + d) (putT d ta tx ty))))).p (vs 12) w' := hv 12 (by simp)
          have h13 : (Inr.MP.is (tv k1 p1 n1 N1 (.slice q1 l1 c1))).p (vs 13) w' := hv 13 (by simp)
          clear hv
          have hK2 := hK.out
          clear hK
          simp only [Inr.putD, Inr.dst, List.foldl_cons, List.foldl_nil, List.getD_cons_zero, List.getD_cons_succ, Act.put, List.setIfInBounds_toArray, List.set_cons_zero, List.set_cons_succ] at hK2 ⊢
          have hK := Lib.hid hK2
          clear hK2
          generalize vs 9 = y9 at *
          generalize vs 12 = y12 at *
          generalize vs 13 = y13 at *
          have h9 : y9 = _ := h9
          subst h9
          have h12 : y12 = _ := h12
          subst h12
          have h13 : y13 = _ := h13
          subst h13
          simp only [Region.wanted, Inr.yieldedD, Inr.dst, List.getD_cons_zero, List.getD_cons_succ]
          go_simp
          ((with_reducible refine (canonB_any (d + d) _ _ _ ta w' GE.out (by omega) (by omega) ((HT1.out.below hb).more (by omega))).mono ?_); rintro e w3 ⟨v3, rfl, hx3, hb3⟩)
          go_wp2_with fail
          refine hK.out _ _ hx3 hb3 (Inr.noTies _ _ _ _ _)
        · intro vs w' hb hv K hK
          have h9 : (Inr.MP.is (.bool true)).p (vs 9) w' := hv 9 (by simp)
          clear hv
          have hK2 := hK.out
          clear hK
          simp only [Inr.putD, Inr.dst, List.foldl_cons, List.foldl_nil, List.getD_cons_zero, List.getD_cons_succ, Act.put, List.setIfInBounds_toArray, List.set_cons_zero, List.set_cons_succ] at hK2 ⊢
          have hK := Lib.hid hK2
          clear hK2
          generalize vs 9 = y9 at *
          have h9 : y9 = _ := h9
          subst h9
          have x0 := hb_at (hb_below HG9.out hb (hb_lt HG9.out)) 0 rfl
          have x1 := hb_at (hb_below HG9.out hb (hb_lt HG9.out)) 1 rfl
          have x2 := hb_at (hb_below HG9.out hb (hb_lt HG9.out)) 2 rfl
          have x3 := hb_at (hb_below HG9.out hb (hb_lt HG9.out)) 3 rfl
          have x4 := hb_at (hb_below HG9.out hb (hb_lt HG9.out)) 4 rfl
          simp only [Region.wanted, Inr.yieldedD, Inr.dst, List.getD_cons_zero, List.getD_cons_succ]
          go_simp
          refine hK.out _ _ (Eq.refl _) (Below.refl _ _) (Inr.noTies _ _ _ _ _)
        · intro vs w' hb hv K hK
          have h9 : (Inr.MP.is (.bool true)).p (vs 9) w' := hv 9 (by simp)
          have h14 : IsT w' (1 + (d + d)) (vs 14) (canonT (d + d) ta) := hv 14 (by simp)
          have h15 : (Inr.MP.is (tv k9 p9 n9 N9 (.slice q9 l9 c9))).p (vs 15) w' := hv 15 (by simp)
          clear hv
          have hK2 := hK.out
          clear hK
          simp only [Inr.putD, Inr.dst, List.foldl_cons, List.foldl_nil, List.getD_cons_zero, List.getD_cons_succ, Act.put, List.setIfInBounds_toArray, List.set_cons_zero, List.set_cons_succ] at hK2 ⊢
          have hK := Lib.hid hK2
          clear hK2
          generalize vs 9 = y9 at *
          generalize vs 14 = y14 at *
          generalize vs 15 = y15 at *
          have h9 : y9 = _ := h9
          subst h9
          have h15 : y15 = _ := h15
          subst h15
          simp only [Region.wanted, Inr.yieldedD, Inr.dst, List.getD_cons_zero, List.getD_cons_succ]
          go_simp
          ((with_reducible refine (canonB_any (d + d) _ _ _ (putT d ta tx ty) w' G9.out (by omega) (by omega) ((HX9.out.below hb))).mono ?_); rintro e w3 ⟨v3, rfl, hx3, hb3⟩)
          go_wp2_with fail
          refine hK.out _ _ hx3 hb3 (Inr.noTies _ _ _ _ _)
        · intro vs w' hb hv K hK
          have h9 : (Inr.MP.is (.bool true)).p (vs 9) w' := hv 9 (by simp)
          have h14 : IsT w' (1 + (d + d)) (vs 14) (canonT (d + d) ta) := hv 14 (by simp)
          have h16 : IsT w' (1 + (d + d)) (vs 16) (canonT (d + d) (putT d ta tx ty)) := hv 16 (by simp)
          clear hv
          have hK2 := hK.out
          clear hK
          simp only [Inr.putD, Inr.dst, List.foldl_cons, List.foldl_nil, List.getD_cons_zero, List.getD_cons_succ, Act.put, List.setIfInBounds_toArray, List.set_cons_zero, List.set_cons_succ] at hK2 ⊢
          have hK := Lib.hid hK2
          clear hK2
          generalize vs 9 = y9 at *
          generalize vs 14 = y14 at *
          generalize vs 16 = y16 at *
          have h9 : y9 = _ := h9
          subst h9
          obtain ⟨k0a, p0a, n0a, N0a, q0a, l0a, c0a, rfl⟩ := IsT.shp h14
          obtain ⟨k0b, p0b, n0b, N0b, q0b, l0b, c0b, rfl⟩ := IsT.shp h16
          simp only [Region.wanted, Inr.yieldedD, Inr.dst, List.getD_cons_zero, List.getD_cons_succ]
          go_simp
          ((with_reducible refine (refSame_any (1 + (d + d)) _ _ _ _ w' h14 h16).mono ?_); rintro e w3 ⟨rfl, hb3⟩)
          go_wp2_with fail
          refine hK.out _ _ (Eq.refl _) hb3 (Inr.noTies _ _ _ _ _)
        · intro vs w' hb hv K hK
          have h9 : (Inr.MP.is (.bool true)).p (vs 9) w' := hv 9 (by simp)
          have h12 : (Inr.MP.is (.bool (same (canonT (d + d) ta) (canonT (d + d) (putT d ta tx ty))))).p (vs 12) w' := hv 12 (by simp)
          have h17 : (Inr.MP.is (.bool (same (canonT (d + d) ta) (canonT (d + d) (putT d ta tx ty))))).p (vs 17) w' := hv 17 (by simp)
          clear hv
          have hK2 := hK.out
          clear hK
          simp only [Inr.putD, Inr.dst, List.foldl_cons, List.foldl_nil, List.getD_cons_zero, List.getD_cons_succ, Act.put, List.setIfInBounds_toArray, List.set_cons_zero, List.set_cons_succ] at hK2 ⊢
          have hK := Lib.hid hK2
          clear hK2
          generalize vs 9 = y9 at *
          generalize vs 12 = y12 at *
          generalize vs 17 = y17 at *
          have h9 : y9 = _ := h9
          subst h9
          have h12 : y12 = _ := h12
          subst h12
          have h17 : y17 = _ := h17
          subst h17
          simp only [Region.wanted, Inr.yieldedD, Inr.dst, List.getD_cons_zero, List.getD_cons_succ]
          go_simp
          refine hK.out _ _ (Eq.refl _) (Below.refl _ _) (Inr.noTies _ _ _ _ _)
        · intro vs w' hb hv K hK
          have h9 : (Inr.MP.is (.bool true)).p (vs 9) w' := hv 9 (by simp)
          have h18 : (Inr.MP.is (.bool true)).p (vs 18) w' := hv 18 (by simp)
          clear hv
          have hK2 := hK.out
          clear hK
          simp only [Inr.putD, Inr.dst, List.foldl_cons, List.foldl_nil, List.getD_cons_zero, List.getD_cons_succ, Act.put, List.setIfInBounds_toArray, List.set_cons_zero, List.set_cons_succ] at hK2 ⊢
          have hK := Lib.hid hK2
          clear hK2
          generalize vs 9 = y9 at *
          generalize vs 18 = y18 at *
          have h9 : y9 = _ := h9
          subst h9
          have h18 : y18 = _ := h18
          subst h18
          simp only [Region.wanted, Inr.yieldedD, Inr.dst, List.getD_cons_zero, List.getD_cons_succ]
          go_simp
          refine hK.out _ _ (Eq.refl _) (Below.refl _ _) (Inr.noTies _ _ _ _ _)
        · intro vs w' hb hv K hK
          have h17 : (Inr.MP.is (.bool (same (canonT (d + d) ta) (canonT (d + d) (putT d ta tx ty))))).p (vs 17) w' := hv 17 (by simp)
          have h19 : (Inr.MP.is (.bool true)).p (vs 19) w' := hv 19 (by simp)
          clear hv
          have hK2 := hK.out
          clear hK
          simp only [Inr.putD, Inr.dst, List.foldl_cons, List.foldl_nil, List.getD_cons_zero, List.getD_cons_succ, Act.put, List.setIfInBounds_toArray, List.set_cons_zero, List.set_cons_succ] at hK2 ⊢
          have hK := Lib.hid hK2
          clear hK2
          generalize vs 17 = y17 at *
          generalize vs 19 = y19 at *
          have h17 : y17 = _ := h17
          subst h17
          have h19 : y19 = _ := h19
          subst h19
          simp only [Region.wanted, Inr.yieldedD, Inr.dst, List.getD_cons_zero, List.getD_cons_succ]
          go_simp
          refine hK.out _ _ (Eq.refl _) (Below.refl _ _) (Inr.noTies _ _ _ _ _)
        · intro vs w' hb hv K hK
          have h20 : (Inr.MP.is (.bool true)).p (vs 20) w' := hv 20 (by simp)
          clear hv
          have hK2 := hK.out
          clear hK
          simp only [Inr.putD, Inr.dst, List.foldl_cons, List.foldl_nil, List.getD_cons_zero, List.getD_cons_succ, Act.put, List.setIfInBounds_toArray, List.set_cons_zero, List.set_cons_succ] at hK2 ⊢
          have hK := Lib.hid hK2
          clear hK2
          generalize vs 20 = y20 at *
          have h20 : y20 = _ := h20
          subst h20
          simp only [Region.wanted, Inr.yieldedD, Inr.dst, List.getD_cons_zero, List.getD_cons_succ]
          go_simp
          ((with_reducible refine (alive_any _).mono ?_); rintro e w3 ⟨rfl, hb3⟩)
          go_wp2_with fail
          refine hK.out _ _ (Eq.refl _) hb3 (Inr.noTies _ _ _ _ _)
        · intro vs w' hb hv K hK
          have h20 : (Inr.MP.is (.bool true)).p (vs 20) w' := hv 20 (by simp)
          have h21 : (Inr.MP.is (.bool true)).p (vs 21) w' := hv 21 (by simp)
          clear hv
          have hK2 := hK.out
          clear hK
          simp only [Inr.putD, Inr.dst, List.foldl_cons, List.foldl_nil, List.getD_cons_zero, List.getD_cons_succ, Act.put, List.setIfInBounds_toArray, List.set_cons_zero, List.set_cons_succ] at hK2 ⊢
          have hK := Lib.hid hK2
          clear hK2
          generalize vs 20 = y20 at *
          generalize vs 21 = y21 at *
          have h20 : y20 = _ := h20
          subst h20
          have h21 : y21 = _ := h21
          subst h21
          simp only [Region.wanted, Inr.yieldedD, Inr.dst, List.getD_cons_zero, List.getD_cons_succ]
          go_simp
          refine hK.out _ _ (Eq.refl _) (Below.refl _ _) (Inr.noTies _ _ _ _ _)
        · intro vs w' hb hv K hK
          have h0 : (Inr.MP.is (tv k1 p1 n1 N1 (.slice q1 l1 c1))).p (vs 0) w' := hv 0 (by simp)
          have h1 : (Inr.MP.is (tv k2 p2 n2 N2 (.slice q2 l2 c2))).p (vs 1) w' := hv 1 (by simp)
          have h2 : (Inr.MP.is (.bool (same (canonT d ta) (canonT d tb)))).p (vs 2) w' := hv 2 (by simp)
          have h3 : (Inr.MP.is (tv k1 p1 n1 N1 (.slice q1 l1 c1))).p (vs 3) w' := hv 3 (by simp)
          have h4 : IsT w' (1 + d) (vs 4) (canonT d ta) := hv 4 (by simp)
          have h5 : (Inr.MP.is (tv k2 p2 n2 N2 (.slice q2 l2 c2))).p (vs 5) w' := hv 5 (by simp)
          have h6 : IsT w' (1 + d) (vs 6) (canonT d tb) := hv 6 (by simp)
          have h7 : (Inr.MP.is (.bool (same (canonT d ta) (canonT d tb)))).p (vs 7) w' := hv 7 (by simp)
          have h8 : (Inr.MP.is (.bool true)).p (vs 8) w' := hv 8 (by simp)
          have h9 : (Inr.MP.is (.bool true)).p (vs 9) w' := hv 9 (by simp)
          have h10 : (Inr.MP.is (tv k1 p1 n1 N1 (.slice q1 l1 c1))).p (vs 10) w' := hv 10 (by simp)
          have h11 : (Inr.MP.is (tv k9 p9 n9 N9 (.slice q9 l9 c9))).p (vs 11) w' := hv 11 (by simp)
          have h12 : (Inr.MP.is (.bool (same (canonT (d + d) ta) (canonT (d + d) (putT d ta tx ty))))).p (vs 12) w' := hv 12 (by simp)
          have h13 : (Inr.MP.is (tv k1 p1 n1 N1 (.slice q1 l1 c1))).p (vs 13) w' := hv 13 (by simp)
          have h14 : IsT w' (1 + (d + d)) (vs 14) (canonT (d + d) ta) := hv 14 (by simp)
          have h15 : (Inr.MP.is (tv k9 p9 n9 N9 (.slice q9 l9 c9))).p (vs 15) w' := hv 15 (by simp)
          have h16 : IsT w' (1 + (d + d)) (vs 16) (canonT (d + d) (putT d ta tx ty)) := hv 16 (by simp)
          have h17 : (Inr.MP.is (.bool (same (canonT (d + d) ta) (canonT (d + d) (putT d ta tx ty))))).p (vs 17) w' := hv 17 (by simp)
          have h18 : (Inr.MP.is (.bool true)).p (vs 18) w' := hv 18 (by simp)
          have h19 : (Inr.MP.is (.bool true)).p (vs 19) w' := hv 19 (by simp)
          have h20 : (Inr.MP.is (.bool true)).p (vs 20) w' := hv 20 (by simp)
          have h21 : (Inr.MP.is (.bool true)).p (vs 21) w' := hv 21 (by simp)
          have h22 : (Inr.MP.is (.bool true)).p (vs 22) w' := hv 22 (by simp)
          clear hv
          have hK2 := hK.out
          clear hK
          simp only [Inr.putD, Inr.dst, List.foldl_cons, List.foldl_nil, List.getD_cons_zero, List.getD_cons_succ, Act.put, List.setIfInBounds_toArray, List.set_cons_zero, List.set_cons_succ] at hK2 ⊢
          have hK := Lib.hid hK2
          clear hK2
          generalize vs 0 = y0 at *
          generalize vs 1 = y1 at *
          generalize vs 2 = y2 at *
          generalize vs 3 = y3 at *
          generalize vs 4 = y4 at *
          generalize vs 5 = y5 at *
          generalize vs 6 = y6 at *
          generalize vs 7 = y7 at *
          generalize vs 8 = y8 at *
          generalize vs 9 = y9 at *
          generalize vs 10 = y10 at *
          generalize vs 11 = y11 at *
          generalize vs 12 = y12 at *
          generalize vs 13 = y13 at *
          generalize vs 14 = y14 at *
          generalize vs 15 = y15 at *
          generalize vs 16 = y16 at *
          generalize vs 17 = y17 at *
          generalize vs 18 = y18 at *
          generalize vs 19 = y19 at *
          generalize vs 20 = y20 at *
          generalize vs 21 = y21 at *
          generalize vs 22 = y22 at *
          have h0 : y0 = _ := h0
          subst h0
          have h1 : y1 = _ := h1
          subst h1
          have h2 : y2 = _ := h2
          subst h2
          have h3 : y3 = _ := h3
          subst h3
          have h5 : y5 = _ := h5
          subst h5
          have h7 : y7 = _ := h7
          subst h7
          have h8 : y8 = _ := h8
          subst h8
          have h9 : y9 = _ := h9
          subst h9
          have h10 : y10 = _ := h10
          subst h10
          have h11 : y11 = _ := h11
          subst h11
          have h12 : y12 = _ := h12
          subst h12
          have h13 : y13 = _ := h13
          subst h13
          have h15 : y15 = _ := h15
          subst h15
          have h17 : y17 = _ := h17
          subst h17
          have h18 : y18 = _ := h18
          subst h18
          have h19 : y19 = _ := h19
          subst h19
          have h20 : y20 = _ := h20
          subst h20
          have h21 : y21 = _ := h21
          subst h21
          have h22 : y22 = _ := h22
          subst h22
          simp only [Region.wanted, Inr.yieldedD, Inr.dst, List.getD_cons_zero, List.getD_cons_succ]
          go_simp
          refine hK.out _ _ (Eq.refl _) (Below.refl _ _) (Inr.noTies _ _ _ _ _)
        · have hl : vs 23 = .bool true := hv 23 (by omega)
          clear hv
          simp only [List.range, List.range.loop, Inr.putD, Inr.dst, List.foldl_cons, List.foldl_nil, List.getD_cons_zero, List.getD_cons_succ, Act.put, List.setIfInBounds_toArray, List.set_cons_zero, List.set_cons_succ]
          simp only [List.drop_succ_cons, List.drop_zero]
          generalize vs 0 = yy0 at *
          generalize vs 1 = yy1 at *
          generalize vs 2 = yy2 at *
          generalize vs 3 = yy3 at *
          generalize vs 4 = yy4 at *
          generalize vs 5 = yy5 at *
          generalize vs 6 = yy6 at *
          generalize vs 7 = yy7 at *
          generalize vs 8 = yy8 at *
          generalize vs 9 = yy9 at *
          generalize vs 10 = yy10 at *
          generalize vs 11 = yy11 at *
          generalize vs 12 = yy12 at *
          generalize vs 13 = yy13 at *
          generalize vs 14 = yy14 at *
          generalize vs 15 = yy15 at *
          generalize vs 16 = yy16 at *
          generalize vs 17 = yy17 at *
          generalize vs 18 = yy18 at *
          generalize vs 19 = yy19 at *
          generalize vs 20 = yy20 at *
          generalize vs 21 = yy21 at *
          generalize vs 22 = yy22 at *
          generalize vs 23 = yy23 at *
          subst hl
          go_wp2
          go_ret
          exact ⟨rfl, HBC.out.trans (hbq.mono HBC.out.size)⟩
end Go.Proofs.YtknbhnicmgglbaaDoor
