/- TermTwice: its walk. -/
import Derived.Test.YthcpmdgdbceeiaaGreatDoorUg
import Derived.Outline
namespace Go.Proofs.YthcpmdgdbceeiaaGreatDoor
open Go.RowKit
set_option linter.unusedSimpArgs false
set_option linter.unusedVariables false
theorem Sm.all' {d : Nat} {t : Tm} (h : Sm d t) (hd : Dp d t) : ∀ d', Sm d' t := Sm.all hd h
set_option maxRecDepth 100000 in
set_option maxHeartbeats 4000000 in
theorem twice_walk (d : Nat) (vt vx vy : Value) (tt tx ty : Tm) (a b : ByteArray) (w : World) (ht : IsT w d vt tt) (hx : IsT w d vx tx) (hy : IsT w d vy ty) (ha : a.size ≤ maxLen) (hb : b.size ≤ maxLen) :
    Calls Tryz.prog 6 #[vt, vx, vy, .string a, .string b] w fun e w' => e = .returned (.bool true) ∧ Below w.heap.size w w' := by
  obtain ⟨d1, k1, p1, n1, N1, s1, kk1, e1, eq1, rfl, _, _, hk1⟩ := ht.open
  obtain ⟨d2, k2, p2, n2, N2, s2, kk2, e2, eq2, rfl, _, _, hk2⟩ := hx.open
  obtain ⟨d3, k3, p3, n3, N3, s3, kk3, e3, eq3, rfl, _, _, hk3⟩ := hy.open
  obtain ⟨q1, l1, c1, rfl⟩ := hk1.slice
  obtain ⟨q2, l2, c2, rfl⟩ := hk2.slice
  obtain ⟨q3, l3, c3, rfl⟩ := hk3.slice
  clear e1 eq1 e2 eq2 e3 eq3 hk1 hk2 hk3
  have HSA := Lib.hid ha
  have HSB := Lib.hid hb
  have hB0 : Below w.heap.size w (((w.alloc (.cells #[.int .i64 k1, .string p1, .string n1, .int .i64 N1, .slice q1 l1 c1] 24)).alloc (.cells #[.int .i64 k2, .string p2, .string n2, .int .i64 N2, .slice q2 l2 c2] 24)).alloc (.cells #[.int .i64 k3, .string p3, .string n3, .int .i64 N3, .slice q3 l3 c3] 24)) := (below2 w _ _).trans ((below_alloc _ _).mono (by simp; omega))
  have b1 := hb_alloc (hb_alloc (hb_new w (.cells #[.int .i64 k1, .string p1, .string n1, .int .i64 N1, .slice q1 l1 c1] 24)) (.cells #[.int .i64 k2, .string p2, .string n2, .int .i64 N2, .slice q2 l2 c2] 24)) (.cells #[.int .i64 k3, .string p3, .string n3, .int .i64 N3, .slice q3 l3 c3] 24)
  have b2 := hb_alloc (hb_new (w.alloc (.cells #[.int .i64 k1, .string p1, .string n1, .int .i64 N1, .slice q1 l1 c1] 24)) (.cells #[.int .i64 k2, .string p2, .string n2, .int .i64 N2, .slice q2 l2 c2] 24)) (.cells #[.int .i64 k3, .string p3, .string n3, .int .i64 N3, .slice q3 l3 c3] 24)
  have b3 := hb_new ((w.alloc (.cells #[.int .i64 k1, .string p1, .string n1, .int .i64 N1, .slice q1 l1 c1] 24)).alloc (.cells #[.int .i64 k2, .string p2, .string n2, .int .i64 N2, .slice q2 l2 c2] 24)) (.cells #[.int .i64 k3, .string p3, .string n3, .int .i64 N3, .slice q3 l3 c3] 24)
  simp only [World.size_alloc] at b2 b3
  have I1 := Lib.hid b1
  have I2 := Lib.hid b2
  have I3 := Lib.hid b3
  have HB0 := Lib.hid hB0
  have T1 := Lib.hid (ht.below hB0)
  have T2 := Lib.hid (hx.below hB0)
  have T3 := Lib.hid (hy.below hB0)
  have DP := Lib.hid (And.intro ht.dp (And.intro hx.dp hy.dp))
  clear ht hx hy ha hb b1 b2 b3 hB0
  go_enter Tryz.func6, Tryz.ntmps6
  go_upto_region 1 with fail
  generalize (((w.alloc (.cells #[.int .i64 k1, .string p1, .string n1, .int .i64 N1, .slice q1 l1 c1] 24)).alloc (.cells #[.int .i64 k2, .string p2, .string n2, .int .i64 N2, .slice q2 l2 c2] 24)).alloc (.cells #[.int .i64 k3, .string p3, .string n3, .int .i64 N3, .slice q3 l3 c3] 24)) = W0 at *
  go_cut [41] (fun v wx => ∃ r : Bool, v = .bool r ∧ Below W0.heap.size W0 wx ∧ (r = false → (∀ d', Sm d' tt) ∧ (∀ d', Sm d' tx) ∧ (∀ d', Sm d' ty) ∧ a ≠ b ∧ tszN d ty ≤ 600 ∧ inN b (varsT d [] tx) = false))
  case first =>
    have HQ0 := Lib.hid (Below.refl W0.heap.size W0)
    have x0 := hb_at (hb_below I1.out HQ0.out (hb_lt I1.out)) 0 rfl
    have x1 := hb_at (hb_below I1.out HQ0.out (hb_lt I1.out)) 1 rfl
    have x2 := hb_at (hb_below I1.out HQ0.out (hb_lt I1.out)) 2 rfl
    have x3 := hb_at (hb_below I1.out HQ0.out (hb_lt I1.out)) 3 rfl
    have x4 := hb_at (hb_below I1.out HQ0.out (hb_lt I1.out)) 4 rfl
    go_wp2_with fail
    clear x0 x1 x2 x3 x4
    (with_reducible refine (few2_any d _ tt _ (T1.out.below HQ0.out)).mono ?_)
    rintro e w1 ⟨r1, rfl, hr1, hb1⟩
    have HQ1 := Lib.hid (HQ0.out.trans (hb1.mono HQ0.out.size))
    have HR1 := Lib.hid hr1
    clear hb1 hr1
    cases r1
    · go_wp2_with fail
      go_meet
      exact ⟨true, rfl, HQ1.out, fun h => by cases h⟩
    · have HF1 := Lib.hid (HR1.out rfl)
      clear HR1
      have x0 := hb_at (hb_below I1.out HQ1.out (hb_lt I1.out)) 0 rfl
      have x1 := hb_at (hb_below I1.out HQ1.out (hb_lt I1.out)) 1 rfl
      have x2 := hb_at (hb_below I1.out HQ1.out (hb_lt I1.out)) 2 rfl
      have x3 := hb_at (hb_below I1.out HQ1.out (hb_lt I1.out)) 3 rfl
      have x4 := hb_at (hb_below I1.out HQ1.out (hb_lt I1.out)) 4 rfl
      go_wp2_with fail
      clear x0 x1 x2 x3 x4
      (with_reducible refine (rsize_any d _ tt _ (T1.out.below HQ1.out)).mono ?_)
      rintro e w2 ⟨rfl, hb2⟩
      have HQ2 := Lib.hid (HQ1.out.trans (hb2.mono HQ1.out.size))
      clear hb2
      generalize sz d tt = zz
      by_cases hz : 60 < zz
      · go_wp2_with fail
        go_meet
        exact ⟨true, rfl, HQ2.out, fun h => by cases h⟩
      · have x0 := hb_at (hb_below I2.out HQ2.out (hb_lt I2.out)) 0 rfl
        have x1 := hb_at (hb_below I2.out HQ2.out (hb_lt I2.out)) 1 rfl
        have x2 := hb_at (hb_below I2.out HQ2.out (hb_lt I2.out)) 2 rfl
        have x3 := hb_at (hb_below I2.out HQ2.out (hb_lt I2.out)) 3 rfl
        have x4 := hb_at (hb_below I2.out HQ2.out (hb_lt I2.out)) 4 rfl
        go_wp2_with fail
        clear x0 x1 x2 x3 x4
        (with_reducible refine (few2_any d _ tx _ (T2.out.below HQ2.out)).mono ?_)
        rintro e w3 ⟨r3, rfl, hr3, hb3⟩
        have HQ3 := Lib.hid (HQ2.out.trans (hb3.mono HQ2.out.size))
        have HR3 := Lib.hid hr3
        clear hb3 hr3
        cases r3
        · go_wp2_with fail
          go_meet
          exact ⟨true, rfl, HQ3.out, fun h => by cases h⟩
        · have HF3 := Lib.hid (HR3.out rfl)
          clear HR3
          have x0 := hb_at (hb_below I3.out HQ3.out (hb_lt I3.out)) 0 rfl
          have x1 := hb_at (hb_below I3.out HQ3.out (hb_lt I3.out)) 1 rfl
          have x2 := hb_at (hb_below I3.out HQ3.out (hb_lt I3.out)) 2 rfl
          have x3 := hb_at (hb_below I3.out HQ3.out (hb_lt I3.out)) 3 rfl
          have x4 := hb_at (hb_below I3.out HQ3.out (hb_lt I3.out)) 4 rfl
          go_wp2_with fail
          clear x0 x1 x2 x3 x4
          (with_reducible refine (few2_any d _ ty _ (T3.out.below HQ3.out)).mono ?_)
          rintro e w4 ⟨r4, rfl, hr4, hb4⟩
          have HQ4 := Lib.hid (HQ3.out.trans (hb4.mono HQ3.out.size))
          have HR4 := Lib.hid hr4
          clear hb4 hr4
          cases r4
          · go_wp2_with fail
            go_meet
            exact ⟨true, rfl, HQ4.out, fun h => by cases h⟩
          · have HF4 := Lib.hid (HR4.out rfl)
            clear HR4
            by_cases hab : a = b
            · have hee : (a.toList == b.toList) = true := by rw [hab]; simp
              clear hab
              go_wp2_with fail
              go_meet
              exact ⟨true, rfl, HQ4.out, fun h => by cases h⟩
            have hee : (a.toList == b.toList) = false := by
              rw [beq_eq_false_iff_ne]
              intro h
              exact hab (toList_inj h)
            have HNE := Lib.hid hab
            clear hab
            have x0 := hb_at (hb_below I2.out HQ4.out (hb_lt I2.out)) 0 rfl
            have x1 := hb_at (hb_below I2.out HQ4.out (hb_lt I2.out)) 1 rfl
            have x2 := hb_at (hb_below I2.out HQ4.out (hb_lt I2.out)) 2 rfl
            have x3 := hb_at (hb_below I2.out HQ4.out (hb_lt I2.out)) 3 rfl
            have x4 := hb_at (hb_below I2.out HQ4.out (hb_lt I2.out)) 4 rfl
            go_wp2_with fail
            clear x0 x1 x2 x3 x4
            (with_reducible refine (rvars_any d (.slice none 0 0) _ [] tx _ (T2.out.below HQ4.out) (SRow.nil _) (by have := HF3.out.2; simp; omega)).mono ?_)
            rintro e w5 ⟨v5, rfl, hs5, hb5⟩
            have HQ5 := Lib.hid (HQ4.out.trans (hb5.mono HQ4.out.size))
            clear hb5
            have HL := Lib.hid (varsT_length d [] tx)
            go_wp2_with fail
            (with_reducible refine (in_any b _ _ _ hs5 (by have := HL.out; have := HF3.out.2; simp at *; omega)).mono ?_)
            rintro e w6 ⟨rfl, rfl⟩
            go_wp2_with fail
            go_meet
            exact ⟨_, rfl, HQ5.out, fun h => ⟨HF1.out.1.all' DP.out.1, HF3.out.1.all' DP.out.2.1, HF4.out.1.all' DP.out.2.2, HNE.out, HF4.out.2, by cases hh : inN b (varsT d [] tx) with | false => rfl | true => rw [hh] at h; simp at h⟩⟩
  case rest =>
    obtain ⟨r, rfl, hBc, hr⟩ := hcut
    have HBC := Lib.hid (HB0.out.trans (hBc.mono HB0.out.size))
    have J1 := Lib.hid (hb_below I1.out hBc (hb_lt I1.out))
    have J2 := Lib.hid (hb_below I2.out hBc (hb_lt I2.out))
    have J3 := Lib.hid (hb_below I3.out hBc (hb_lt I3.out))
    have HT1 := Lib.hid (T1.out.below hBc)
    have HT2 := Lib.hid (T2.out.below hBc)
    have HT3 := Lib.hid (T3.out.below hBc)
    clear hBc I1 I2 I3 T1 T2 T3 HB0
    cases r
    rotate_left
    · go_wp2_with (go_at_call 8; ((with_reducible refine (alive_ok _).mono ?_); rintro e w9 ⟨rfl, hb⟩))
      go_ret
      exact ⟨rfl, HBC.out.trans (hb.mono HBC.out.size)⟩
    · obtain ⟨hs1, hs2, hs3, hab, hty, hvx⟩ := hr rfl
      have HTY := Lib.hid hty
      have HS1 := Lib.hid hs1
      have HS2 := Lib.hid hs2
      have HS3 := Lib.hid hs3
      have HAB := Lib.hid hab
      have HVX := Lib.hid hvx
      clear hr hs1 hs2 hs3 hab hvx hty
      have HONE : RowKit.Hid ((sub (byOf (fg [b] [b].length) [ty]) (d + d) (sub (byOf (fg [a] [a].length) [tx]) d tt)) = sub (two2 a tx b ty) d tt) := Lib.hid (by
        rw [show ([a] : List ByteArray).length = 1 from rfl, show ([b] : List ByteArray).length = 1 from rfl, byOf_one, byOf_one]
        exact sub_sub HAB.out DP.out.2.1 HVX.out d (d + d) tt DP.out.1 (by omega))
      have HTWO : RowKit.Hid ((sub (byOf (fg [a, b] [a, b].length) [tx, ty]) d tt) = sub (two2 a tx b ty) d tt) := Lib.hid (by
        rw [show ([a, b] : List ByteArray).length = 2 from rfl, byOf_two])
      have HS4 : RowKit.Hid (∀ d', Sm d' (sub (byOf (fg [a] [a].length) [tx]) d tt)) := Lib.hid (by
        rw [show ([a] : List ByteArray).length = 1 from rfl, byOf_one]
        exact sub_sm (one1_sm HS2.out) DP.out.1 (HS1.out d))
      go_upto_region 3 with fail
      refine Inv.region (by kernel_rfl) 12 [some 43, some 44, some 45, some 46, some 47, some 48, some 49, some 50, some 51, some 52, some 53, some 11, none] [[], [], [1], [], [3], [0, 2, 4], [], [6], [], [8], [5, 7, 9, 5], []] (by kernel_rfl) (by kernel_rfl) (by kernel_rfl) (by kernel_rfl) [Inv.MP.is (tv k1 p1 n1 N1 (.slice q1 l1 c1)), Inv.MP.is (.string a), Inv.MP.row [a], Inv.MP.is (tv k2 p2 n2 N2 (.slice q2 l2 c2)), Inv.MP.kids d [tx], Inv.MP.term (d + d) (sub (byOf (fg [a] [a].length) [tx]) d tt), Inv.MP.is (.string b), Inv.MP.row [b], Inv.MP.is (tv k3 p3 n3 N3 (.slice q3 l3 c3)), Inv.MP.kids d [ty], Inv.MP.term (d + (d + d)) (sub (byOf (fg [b] [b].length) [ty]) (d + d) (sub (byOf (fg [a] [a].length) [tx]) d tt)), Inv.MP.box wc.heap.size] [Inv.Tie.apart 10 11 (d + (d + d)) (sub (byOf (fg [b] [b].length) [ty]) (d + d) (sub (byOf (fg [a] [a].length) [tx]) d tt))] (by intro x hx; simp at hx; subst hx; refine ⟨?_, ?_, ?_⟩ <;> simp [Inv.Tie.apart]) ⟨?_, ?_, ?_, ?_, ?_, ?_, ?_, ?_, ?_, ?_, ?_, ?_, trivial⟩ (fun vs wq hbq hv htie => ?_)
      · intro vs w' hb hv K hK
        clear hv
        have hK2 := hK.out
        clear hK
        simp only [Inv.putD, Inv.dst, List.foldl_cons, List.foldl_nil, List.getD_cons_zero, List.getD_cons_succ, Act.put, List.setIfInBounds_toArray, List.set_cons_zero, List.set_cons_succ] at hK2 ⊢
        have hK := Lib.hid hK2
        clear hK2
        have x0 := hb_at (hb_below J1.out hb (hb_lt J1.out)) 0 rfl
        have x1 := hb_at (hb_below J1.out hb (hb_lt J1.out)) 1 rfl
        have x2 := hb_at (hb_below J1.out hb (hb_lt J1.out)) 2 rfl
        have x3 := hb_at (hb_below J1.out hb (hb_lt J1.out)) 3 rfl
        have x4 := hb_at (hb_below J1.out hb (hb_lt J1.out)) 4 rfl
        simp only [Region.wanted, Inv.yieldedD, Inv.dst, List.getD_cons_zero, List.getD_cons_succ]
        go_simp
        refine hK.out _ _ (Eq.refl _) (Below.refl _ _) (Inv.tie_none rfl)
      · intro vs w' hb hv K hK
        clear hv
        have hK2 := hK.out
        clear hK
        simp only [Inv.putD, Inv.dst, List.foldl_cons, List.foldl_nil, List.getD_cons_zero, List.getD_cons_succ, Act.put, List.setIfInBounds_toArray, List.set_cons_zero, List.set_cons_succ] at hK2 ⊢
        have hK := Lib.hid hK2
        clear hK2
        simp only [Region.wanted, Inv.yieldedD, Inv.dst, List.getD_cons_zero, List.getD_cons_succ]
        go_simp
        refine hK.out _ _ (Eq.refl _) (Below.refl _ _) (Inv.tie_none rfl)
      · intro vs w' hb hv K hK
        have h1 : (Inv.MP.is (.string a)).p (vs 1) w' := hv 1 (by simp)
        clear hv
        have hK2 := hK.out
        clear hK
        simp only [Inv.putD, Inv.dst, List.foldl_cons, List.foldl_nil, List.getD_cons_zero, List.getD_cons_succ, Act.put, List.setIfInBounds_toArray, List.set_cons_zero, List.set_cons_succ] at hK2 ⊢
        have hK := Lib.hid hK2
        clear hK2
        generalize vs 1 = y1 at *
        have h1 : y1 = _ := h1
        subst h1
        simp only [Region.wanted, Inv.yieldedD, Inv.dst, List.getD_cons_zero, List.getD_cons_succ]
        go_simp
        refine hK.out _ _ (SRow.one (hb_new _ _)) (below_alloc _ _) (Inv.tie_none rfl)
      · intro vs w' hb hv K hK
        clear hv
        have hK2 := hK.out
        clear hK
        simp only [Inv.putD, Inv.dst, List.foldl_cons, List.foldl_nil, List.getD_cons_zero, List.getD_cons_succ, Act.put, List.setIfInBounds_toArray, List.set_cons_zero, List.set_cons_succ] at hK2 ⊢
        have hK := Lib.hid hK2
        clear hK2
        have x0 := hb_at (hb_below J2.out hb (hb_lt J2.out)) 0 rfl
        have x1 := hb_at (hb_below J2.out hb (hb_lt J2.out)) 1 rfl
        have x2 := hb_at (hb_below J2.out hb (hb_lt J2.out)) 2 rfl
        have x3 := hb_at (hb_below J2.out hb (hb_lt J2.out)) 3 rfl
        have x4 := hb_at (hb_below J2.out hb (hb_lt J2.out)) 4 rfl
        simp only [Region.wanted, Inv.yieldedD, Inv.dst, List.getD_cons_zero, List.getD_cons_succ]
        go_simp
        refine hK.out _ _ (Eq.refl _) (Below.refl _ _) (Inv.tie_none rfl)
      · intro vs w' hb hv K hK
        have h3 : (Inv.MP.is (tv k2 p2 n2 N2 (.slice q2 l2 c2))).p (vs 3) w' := hv 3 (by simp)
        clear hv
        have hK2 := hK.out
        clear hK
        simp only [Inv.putD, Inv.dst, List.foldl_cons, List.foldl_nil, List.getD_cons_zero, List.getD_cons_succ, Act.put, List.setIfInBounds_toArray, List.set_cons_zero, List.set_cons_succ] at hK2 ⊢
        have hK := Lib.hid hK2
        clear hK2
        generalize vs 3 = y3 at *
        have h3 : y3 = _ := h3
        subst h3
        simp only [Region.wanted, Inv.yieldedD, Inv.dst, List.getD_cons_zero, List.getD_cons_succ]
        go_simp
        refine hK.out _ _ (KidsT.one (hb_new _ _) (HT2.out.below (hb.trans (below_alloc _ _ |>.mono hb.size)))) (below_alloc _ _) (Inv.tie_none rfl)
      · intro vs w' hb hv K hK
        have h0 : (Inv.MP.is (tv k1 p1 n1 N1 (.slice q1 l1 c1))).p (vs 0) w' := hv 0 (by simp)
        have h2 : SRow w' (vs 2) [a] := hv 2 (by simp)
        have h4 : KidsT w' d (vs 4) [tx] := hv 4 (by simp)
        clear hv
        have hK2 := hK.out
        clear hK
        simp only [Inv.putD, Inv.dst, List.foldl_cons, List.foldl_nil, List.getD_cons_zero, List.getD_cons_succ, Act.put, List.setIfInBounds_toArray, List.set_cons_zero, List.set_cons_succ] at hK2 ⊢
        have hK := Lib.hid hK2
        clear hK2
        generalize vs 0 = y0 at *
        generalize vs 2 = y2 at *
        generalize vs 4 = y4 at *
        have h0 : y0 = _ := h0
        subst h0
        simp only [Region.wanted, Inv.yieldedD, Inv.dst, List.getD_cons_zero, List.getD_cons_succ]
        go_simp
        ((with_reducible refine (subst_any d d tt _ [a] _ [tx] _ w' (HT1.out.below hb) h2 (by simp) (fun s hs => by simp at hs; subst hs; exact HSA.out) h4 (HS1.out d) (fun x hx => by simp at hx; subst hx; exact HS2.out d)).mono ?_); rintro e w3 ⟨v3, rfl, hx3, hb3⟩)
        go_wp2_with fail
        refine hK.out _ _ hx3.isT hb3 (Inv.tie_none rfl)
      · intro vs w' hb hv K hK
        clear hv
        have hK2 := hK.out
        clear hK
        simp only [Inv.putD, Inv.dst, List.foldl_cons, List.foldl_nil, List.getD_cons_zero, List.getD_cons_succ, Act.put, List.setIfInBounds_toArray, List.set_cons_zero, List.set_cons_succ] at hK2 ⊢
        have hK := Lib.hid hK2
        clear hK2
        simp only [Region.wanted, Inv.yieldedD, Inv.dst, List.getD_cons_zero, List.getD_cons_succ]
        go_simp
        refine hK.out _ _ (Eq.refl _) (Below.refl _ _) (Inv.tie_none rfl)
      · intro vs w' hb hv K hK
        have h6 : (Inv.MP.is (.string b)).p (vs 6) w' := hv 6 (by simp)
        clear hv
        have hK2 := hK.out
        clear hK
        simp only [Inv.putD, Inv.dst, List.foldl_cons, List.foldl_nil, List.getD_cons_zero, List.getD_cons_succ, Act.put, List.setIfInBounds_toArray, List.set_cons_zero, List.set_cons_succ] at hK2 ⊢
        have hK := Lib.hid hK2
        clear hK2
        generalize vs 6 = y6 at *
        have h6 : y6 = _ := h6
        subst h6
        simp only [Region.wanted, Inv.yieldedD, Inv.dst, List.getD_cons_zero, List.getD_cons_succ]
        go_simp
        refine hK.out _ _ (SRow.one (hb_new _ _)) (below_alloc _ _) (Inv.tie_none rfl)
      · intro vs w' hb hv K hK
        clear hv
        have hK2 := hK.out
        clear hK
        simp only [Inv.putD, Inv.dst, List.foldl_cons, List.foldl_nil, List.getD_cons_zero, List.getD_cons_succ, Act.put, List.setIfInBounds_toArray, List.set_cons_zero, List.set_cons_succ] at hK2 ⊢
        have hK := Lib.hid hK2
        clear hK2
        have x0 := hb_at (hb_below J3.out hb (hb_lt J3.out)) 0 rfl
        have x1 := hb_at (hb_below J3.out hb (hb_lt J3.out)) 1 rfl
        have x2 := hb_at (hb_below J3.out hb (hb_lt J3.out)) 2 rfl
        have x3 := hb_at (hb_below J3.out hb (hb_lt J3.out)) 3 rfl
        have x4 := hb_at (hb_below J3.out hb (hb_lt J3.out)) 4 rfl
        simp only [Region.wanted, Inv.yieldedD, Inv.dst, List.getD_cons_zero, List.getD_cons_succ]
        go_simp
        refine hK.out _ _ (Eq.refl _) (Below.refl _ _) (Inv.tie_none rfl)
      · intro vs w' hb hv K hK
        have h8 : (Inv.MP.is (tv k3 p3 n3 N3 (.slice q3 l3 c3))).p (vs 8) w' := hv 8 (by simp)
        clear hv
        have hK2 := hK.out
        clear hK
        simp only [Inv.putD, Inv.dst, List.foldl_cons, List.foldl_nil, List.getD_cons_zero, List.getD_cons_succ, Act.put, List.setIfInBounds_toArray, List.set_cons_zero, List.set_cons_succ] at hK2 ⊢
        have hK := Lib.hid hK2
        clear hK2
        generalize vs 8 = y8 at *
        have h8 : y8 = _ := h8
        subst h8
        simp only [Region.wanted, Inv.yieldedD, Inv.dst, List.getD_cons_zero, List.getD_cons_succ]
        go_simp
        refine hK.out _ _ (KidsT.one (hb_new _ _) (HT3.out.below (hb.trans (below_alloc _ _ |>.mono hb.size)))) (below_alloc _ _) (Inv.tie_none rfl)
      · intro vs w' hb hv K hK
        have h5 : IsT w' (d + d) (vs 5) (sub (byOf (fg [a] [a].length) [tx]) d tt) := hv 5 (by simp)
        have h7 : SRow w' (vs 7) [b] := hv 7 (by simp)
        have h9 : KidsT w' d (vs 9) [ty] := hv 9 (by simp)
        clear hv
        have hK2 := hK.out
        clear hK
        simp only [Inv.putD, Inv.dst, List.foldl_cons, List.foldl_nil, List.getD_cons_zero, List.getD_cons_succ, Act.put, List.setIfInBounds_toArray, List.set_cons_zero, List.set_cons_succ] at hK2 ⊢
        have hK := Lib.hid hK2
        clear hK2
        generalize vs 5 = y5 at *
        generalize vs 7 = y7 at *
        generalize vs 9 = y9 at *
        obtain ⟨_, k0, p0, n0, N0, s0, kk0, _, _, rfl, _, _, q0, c0, rfl, _⟩ := h5.open
        simp only [Region.wanted, Inv.yieldedD, Inv.dst, List.getD_cons_zero, List.getD_cons_succ]
        go_simp
        ((with_reducible refine (subst_any (d + d) d (sub (byOf (fg [a] [a].length) [tx]) d tt) _ [b] _ [ty] _ w' h5 h7 (by simp) (fun s hs => by simp at hs; subst hs; exact HSB.out) h9 (HS4.out (d + d)) (fun x hx => by simp at hx; subst hx; exact HS3.out d)).mono ?_); rintro e w3 ⟨v3, rfl, hx3, hb3⟩)
        go_wp2_with fail
        refine hK.out _ _ hx3.isT hb3 (Inv.tie_left rfl (fun u hu => apart_left hu hx3))
      · intro vs w' hb hv K hK
        clear hv
        have hK2 := hK.out
        clear hK
        simp only [Inv.putD, Inv.dst, List.foldl_cons, List.foldl_nil, List.getD_cons_zero, List.getD_cons_succ, Act.put, List.setIfInBounds_toArray, List.set_cons_zero, List.set_cons_succ] at hK2 ⊢
        have hK := Lib.hid hK2
        clear hK2
        simp only [Region.wanted, Inv.yieldedD, Inv.dst, List.getD_cons_zero, List.getD_cons_succ]
        go_simp
        refine hK.out _ _ ⟨_, rfl, hb.size, hb_new _ _⟩ (below_alloc _ _) (Inv.tie_right rfl (fun u hu => apart_right _ hu))
      · have hT := htie _ (List.mem_singleton.2 rfl)
        have h11 : (Inv.MP.box wc.heap.size).p (vs 11) wq := hv 11 (by omega)
        simp only [List.range, List.range.loop, Inv.putD, Inv.dst, List.foldl_cons, List.foldl_nil, List.getD_cons_zero, List.getD_cons_succ, Act.put, List.setIfInBounds_toArray, List.set_cons_zero, List.set_cons_succ]
        simp only [List.drop_succ_cons, List.drop_zero]
        have hT2 : ∃ g9, vs 11 = .pointer (some ⟨g9, 0, none⟩) ∧ IsX (fun b => b ≠ g9) wq (d + (d + d)) (vs 10) (sub (byOf (fg [b] [b].length) [ty]) (d + d) (sub (byOf (fg [a] [a].length) [tx]) d tt)) := hT
        clear hv hT htie
        generalize vs 0 = yy0 at *
        generalize vs 1 = yy1 at *
        generalize vs 2 = yy2 at *
        generalize vs 3 = yy3 at *
        generalize vs 4 = yy4 at *
        generalize vs 5 = yy5 at *
        generalize vs 6 = yy6 at *
        generalize vs 7 = yy7 at *
        generalize vs 8 = yy8 at *
        generalize vs 9 = yy9 at *
        generalize vs 10 = yy10 at *
        generalize vs 11 = yy11 at *
        obtain ⟨g9, rfl, hg1, hg2⟩ := h11
        obtain ⟨g', hg', hx⟩ := hT2
        cases hg'
        obtain ⟨k9, p9, n9, N9, q9, l9, c9, rfl⟩ := hx.shape
        have f0 := hb_free hg2 0
        have f1 := hb_free hg2 1
        have f2 := hb_free hg2 2
        have f3 := hb_free hg2 3
        have f4 := hb_free hg2 4
        have e0 := hb_at hg2 0 rfl
        have e1 := hb_at hg2 1 rfl
        have e2 := hb_at hg2 2 rfl
        have e3 := hb_at hg2 3 rfl
        have e4 := hb_at hg2 4 rfl
        go_upto_region 4 with fail
        obtain ⟨u1, u2, u3⟩ := box_set hg1 hg2 (.int .i64 k9) (.string p9) (.string n9) (.int .i64 N9) (.slice q9 l9 c9)
        have hxt : IsT _ (d + (d + d)) (tv k9 p9 n9 N9 (.slice q9 l9 c9)) (sub (byOf (fg [b] [b].length) [ty]) (d + d) (sub (byOf (fg [a] [a].length) [tx]) d tt)) := (hx.move (Y := fun _ => True) fun b hb _ => ⟨trivial, u2 b hb⟩).isT
        clear f0 f1 f2 f3 f4 e0 e1 e2 e3 e4 u2 hg2 hx
        generalize (((((wq.setCell ⟨g9, 0, none⟩ (.int .i64 k9)).setCell ⟨g9, 1, none⟩ (.string p9)).setCell ⟨g9, 2, none⟩ (.string n9)).setCell ⟨g9, 3, none⟩ (.int .i64 N9)).setCell ⟨g9, 4, none⟩ (.slice q9 l9 c9)) = W4 at *
        have hbn : Below wc.heap.size wc W4 := hbq.trans u3
        have HG9 : RowKit.Hid (W4.heap[g9]? = some (.cells #[.int .i64 k9, .string p9, .string n9, .int .i64 N9, .slice q9 l9 c9] 24 (0, 0))) := Lib.hid u1
        have HX9 := Lib.hid hxt
        clear u1 u3 hxt hbq hg1
        have J1 := Lib.hid (hb_below J1.out hbn (hb_lt J1.out))
        have HT1 := Lib.hid (HT1.out.below hbn)
        have J2 := Lib.hid (hb_below J2.out hbn (hb_lt J2.out))
        have HT2 := Lib.hid (HT2.out.below hbn)
        have J3 := Lib.hid (hb_below J3.out hbn (hb_lt J3.out))
        have HT3 := Lib.hid (HT3.out.below hbn)
        have HBC := Lib.hid (HBC.out.trans (hbn.mono HBC.out.size))
        clear hbn
        have HS5 : RowKit.Hid (∀ d', Sm d' (sub (byOf (fg [b] [b].length) [ty]) d tt)) := Lib.hid (by
          rw [show ([b] : List ByteArray).length = 1 from rfl, byOf_one]
          exact sub_sm (one1_sm HS3.out) DP.out.1 (HS1.out d))
        have HSM1 : RowKit.Hid (same (sub (byOf (fg [a, b] [a, b].length) [tx, ty]) d tt) (sub (byOf (fg [b] [b].length) [ty]) (d + d) (sub (byOf (fg [a] [a].length) [tx]) d tt)) = true) := Lib.hid (by rw [HTWO.out, HONE.out, same_self])
        have HSM2 : RowKit.Hid (same (sub (byOf (fg [b] [b].length) [ty]) (d + d) (sub (byOf (fg [a] [a].length) [tx]) d tt)) (sub (byOf (fg [a, b] [a, b].length) [tx, ty]) d tt) = true) := Lib.hid (by rw [HTWO.out, HONE.out, same_self])
        have x0 := hb_at J3.out 0 rfl
        have x1 := hb_at J3.out 1 rfl
        have x2 := hb_at J3.out 2 rfl
        have x3 := hb_at J3.out 3 rfl
        have x4 := hb_at J3.out 4 rfl
        go_wp2_with fail
        clear x0 x1 x2 x3 x4
        (with_reducible refine (rvars_any d (.slice none 0 0) _ [] ty _ HT3.out (SRow.nil _) (by have := HTY.out; simp; omega)).mono ?_)
        rintro e w5 ⟨v5, rfl, hs5, hb5⟩
        have J1 := Lib.hid (hb_below J1.out hb5 (hb_lt J1.out))
        have HT1 := Lib.hid (HT1.out.below hb5)
        have J2 := Lib.hid (hb_below J2.out hb5 (hb_lt J2.out))
        have HT2 := Lib.hid (HT2.out.below hb5)
        have J3 := Lib.hid (hb_below J3.out hb5 (hb_lt J3.out))
        have HT3 := Lib.hid (HT3.out.below hb5)
        have HG9 := Lib.hid (hb_below HG9.out hb5 (hb_lt HG9.out))
        have HX9 := Lib.hid (HX9.out.below hb5)
        have HBC := Lib.hid (HBC.out.trans (hb5.mono HBC.out.size))
        clear hb5
        have HL := Lib.hid (varsT_length d [] ty)
        go_wp2_with fail
        (with_reducible refine (in_any a _ _ _ hs5 (by have := HL.out; have := HTY.out; simp at *; omega)).mono ?_)
        rintro e w6 ⟨rfl, rfl⟩
        clear hs5
        cases hin : inN a (varsT d [] ty)
        · have HOTH : RowKit.Hid ((sub (byOf (fg [a] [a].length) [tx]) (d + d) (sub (byOf (fg [b] [b].length) [ty]) d tt)) = sub (two2 a tx b ty) d tt) := Lib.hid (by
            rw [show ([a] : List ByteArray).length = 1 from rfl, show ([b] : List ByteArray).length = 1 from rfl, byOf_one, byOf_one, sub_sub (Ne.symm HAB.out) DP.out.2.2 hin d (d + d) tt DP.out.1 (by omega), two_comm HAB.out])
          have HSM3 : RowKit.Hid (same (sub (byOf (fg [b] [b].length) [ty]) (d + d) (sub (byOf (fg [a] [a].length) [tx]) d tt)) (sub (byOf (fg [a] [a].length) [tx]) (d + d) (sub (byOf (fg [b] [b].length) [ty]) d tt)) = true) := Lib.hid (by rw [HOTH.out, HONE.out, same_self])
          clear hin
          go_upto_region 6 with fail
          refine Inv.region (by kernel_rfl) 12 [some 71, some 72, some 73, some 74, some 75, some 76, some 77, some 78, some 79, some 80, some 81, some 12, none] [[], [], [1], [], [3], [0, 2, 4], [], [6], [], [8], [5, 7, 9, 5], []] (by kernel_rfl) (by kernel_rfl) (by kernel_rfl) (by kernel_rfl) [Inv.MP.is (tv k1 p1 n1 N1 (.slice q1 l1 c1)), Inv.MP.is (.string b), Inv.MP.row [b], Inv.MP.is (tv k3 p3 n3 N3 (.slice q3 l3 c3)), Inv.MP.kids d [ty], Inv.MP.term (d + d) (sub (byOf (fg [b] [b].length) [ty]) d tt), Inv.MP.is (.string a), Inv.MP.row [a], Inv.MP.is (tv k2 p2 n2 N2 (.slice q2 l2 c2)), Inv.MP.kids d [tx], Inv.MP.term (d + (d + d)) (sub (byOf (fg [a] [a].length) [tx]) (d + d) (sub (byOf (fg [b] [b].length) [ty]) d tt)), Inv.MP.box w5.heap.size] [Inv.Tie.apart 10 11 (d + (d + d)) (sub (byOf (fg [a] [a].length) [tx]) (d + d) (sub (byOf (fg [b] [b].length) [ty]) d tt))] (by intro x hx; simp at hx; subst hx; refine ⟨?_, ?_, ?_⟩ <;> simp [Inv.Tie.apart]) ⟨?_, ?_, ?_, ?_, ?_, ?_, ?_, ?_, ?_, ?_, ?_, ?_, trivial⟩ (fun vs wq hbq hv htie => ?_)
          · intro vs w' hb hv K hK
            clear hv
            have hK2 := hK.out
            clear hK
            simp only [Inv.putD, Inv.dst, List.foldl_cons, List.foldl_nil, List.getD_cons_zero, List.getD_cons_succ, Act.put, List.setIfInBounds_toArray, List.set_cons_zero, List.set_cons_succ] at hK2 ⊢
            have hK := Lib.hid hK2
            clear hK2
            have x0 := hb_at (hb_below J1.out hb (hb_lt J1.out)) 0 rfl
            have x1 := hb_at (hb_below J1.out hb (hb_lt J1.out)) 1 rfl
            have x2 := hb_at (hb_below J1.out hb (hb_lt J1.out)) 2 rfl
            have x3 := hb_at (hb_below J1.out hb (hb_lt J1.out)) 3 rfl
            have x4 := hb_at (hb_below J1.out hb (hb_lt J1.out)) 4 rfl
            simp only [Region.wanted, Inv.yieldedD, Inv.dst, List.getD_cons_zero, List.getD_cons_succ]
            go_simp
            refine hK.out _ _ (Eq.refl _) (Below.refl _ _) (Inv.tie_none rfl)
          · intro vs w' hb hv K hK
            clear hv
            have hK2 := hK.out
            clear hK
            simp only [Inv.putD, Inv.dst, List.foldl_cons, List.foldl_nil, List.getD_cons_zero, List.getD_cons_succ, Act.put, List.setIfInBounds_toArray, List.set_cons_zero, List.set_cons_succ] at hK2 ⊢
            have hK := Lib.hid hK2
            clear hK2
            simp only [Region.wanted, Inv.yieldedD, Inv.dst, List.getD_cons_zero, List.getD_cons_succ]
            go_simp
            refine hK.out _ _ (Eq.refl _) (Below.refl _ _) (Inv.tie_none rfl)
          · intro vs w' hb hv K hK
            have h1 : (Inv.MP.is (.string b)).p (vs 1) w' := hv 1 (by simp)
            clear hv
            have hK2 := hK.out
            clear hK
            simp only [Inv.putD, Inv.dst, List.foldl_cons, List.foldl_nil, List.getD_cons_zero, List.getD_cons_succ, Act.put, List.setIfInBounds_toArray, List.set_cons_zero, List.set_cons_succ] at hK2 ⊢
            have hK := Lib.hid hK2
            clear hK2
            generalize vs 1 = y1 at *
            have h1 : y1 = _ := h1
            subst h1
            simp only [Region.wanted, Inv.yieldedD, Inv.dst, List.getD_cons_zero, List.getD_cons_succ]
            go_simp
            refine hK.out _ _ (SRow.one (hb_new _ _)) (below_alloc _ _) (Inv.tie_none rfl)
          · intro vs w' hb hv K hK
            clear hv
            have hK2 := hK.out
            clear hK
            simp only [Inv.putD, Inv.dst, List.foldl_cons, List.foldl_nil, List.getD_cons_zero, List.getD_cons_succ, Act.put, List.setIfInBounds_toArray, List.set_cons_zero, List.set_cons_succ] at hK2 ⊢
            have hK := Lib.hid hK2
            clear hK2
            have x0 := hb_at (hb_below J3.out hb (hb_lt J3.out)) 0 rfl
            have x1 := hb_at (hb_below J3.out hb (hb_lt J3.out)) 1 rfl
            have x2 := hb_at (hb_below J3.out hb (hb_lt J3.out)) 2 rfl
            have x3 := hb_at (hb_below J3.out hb (hb_lt J3.out)) 3 rfl
            have x4 := hb_at (hb_below J3.out hb (hb_lt J3.out)) 4 rfl
            simp only [Region.wanted, Inv.yieldedD, Inv.dst, List.getD_cons_zero, List.getD_cons_succ]
            go_simp
            refine hK.out _ _ (Eq.refl _) (Below.refl _ _) (Inv.tie_none rfl)
          · intro vs w' hb hv K hK
            have h3 : (Inv.MP.is (tv k3 p3 n3 N3 (.slice q3 l3 c3))).p (vs 3) w' := hv 3 (by simp)
            clear hv
            have hK2 := hK.out
            clear hK
            simp only [Inv.putD, Inv.dst, List.foldl_cons, List.foldl_nil, List.getD_cons_zero, List.getD_cons_succ, Act.put, List.setIfInBounds_toArray, List.set_cons_zero, List.set_cons_succ] at hK2 ⊢
            have hK := Lib.hid hK2
            clear hK2
            generalize vs 3 = y3 at *
            have h3 : y3 = _ := h3
            subst h3
            simp only [Region.wanted, Inv.yieldedD, Inv.dst, List.getD_cons_zero, List.getD_cons_succ]
            go_simp
            refine hK.out _ _ (KidsT.one (hb_new _ _) (HT3.out.below (hb.trans (below_alloc _ _ |>.mono hb.size)))) (below_alloc _ _) (Inv.tie_none rfl)
          · intro vs w' hb hv K hK
            have h0 : (Inv.MP.is (tv k1 p1 n1 N1 (.slice q1 l1 c1))).p (vs 0) w' := hv 0 (by simp)
            have h2 : SRow w' (vs 2) [b] := hv 2 (by simp)
            have h4 : KidsT w' d (vs 4) [ty] := hv 4 (by simp)
            clear hv
            have hK2 := hK.out
            clear hK
            simp only [Inv.putD, Inv.dst, List.foldl_cons, List.foldl_nil, List.getD_cons_zero, List.getD_cons_succ, Act.put, List.setIfInBounds_toArray, List.set_cons_zero, List.set_cons_succ] at hK2 ⊢
            have hK := Lib.hid hK2
            clear hK2
            generalize vs 0 = y0 at *
            generalize vs 2 = y2 at *
            generalize vs 4 = y4 at *
            have h0 : y0 = _ := h0
            subst h0
            simp only [Region.wanted, Inv.yieldedD, Inv.dst, List.getD_cons_zero, List.getD_cons_succ]
            go_simp
            ((with_reducible refine (subst_any d d tt _ [b] _ [ty] _ w' (HT1.out.below hb) h2 (by simp) (fun s hs => by simp at hs; subst hs; exact HSB.out) h4 (HS1.out d) (fun x hx => by simp at hx; subst hx; exact HS3.out d)).mono ?_); rintro e w3 ⟨v3, rfl, hx3, hb3⟩)
            go_wp2_with fail
            refine hK.out _ _ hx3.isT hb3 (Inv.tie_none rfl)
          · intro vs w' hb hv K hK
            clear hv
            have hK2 := hK.out
            clear hK
            simp only [Inv.putD, Inv.dst, List.foldl_cons, List.foldl_nil, List.getD_cons_zero, List.getD_cons_succ, Act.put, List.setIfInBounds_toArray, List.set_cons_zero, List.set_cons_succ] at hK2 ⊢
            have hK := Lib.hid hK2
            clear hK2
            simp only [Region.wanted, Inv.yieldedD, Inv.dst, List.getD_cons_zero, List.getD_cons_succ]
            go_simp
            refine hK.out _ _ (Eq.refl _) (Below.refl _ _) (Inv.tie_none rfl)
          · intro vs w' hb hv K hK
            have h6 : (Inv.MP.is (.string a)).p (vs 6) w' := hv 6 (by simp)
            clear hv
            have hK2 := hK.out
            clear hK
            simp only [Inv.putD, Inv.dst, List.foldl_cons, List.foldl_nil, List.getD_cons_zero, List.getD_cons_succ, Act.put, List.setIfInBounds_toArray, List.set_cons_zero, List.set_cons_succ] at hK2 ⊢
            have hK := Lib.hid hK2
            clear hK2
            generalize vs 6 = y6 at *
            have h6 : y6 = _ := h6
            subst h6
            simp only [Region.wanted, Inv.yieldedD, Inv.dst, List.getD_cons_zero, List.getD_cons_succ]
            go_simp
            refine hK.out _ _ (SRow.one (hb_new _ _)) (below_alloc _ _) (Inv.tie_none rfl)
          · intro vs w' hb hv K hK
            clear hv
            have hK2 := hK.out
            clear hK
            simp only [Inv.putD, Inv.dst, List.foldl_cons, List.foldl_nil, List.getD_cons_zero, List.getD_cons_succ, Act.put, List.setIfInBounds_toArray, List.set_cons_zero, List.set_cons_succ] at hK2 ⊢
            have hK := Lib.hid hK2
            clear hK2
            have x0 := hb_at (hb_below J2.out hb (hb_lt J2.out)) 0 rfl
            have x1 := hb_at (hb_below J2.out hb (hb_lt J2.out)) 1 rfl
            have x2 := hb_at (hb_below J2.out hb (hb_lt J2.out)) 2 rfl
            have x3 := hb_at (hb_below J2.out hb (hb_lt J2.out)) 3 rfl
            have x4 := hb_at (hb_below J2.out hb (hb_lt J2.out)) 4 rfl
            simp only [Region.wanted, Inv.yieldedD, Inv.dst, List.getD_cons_zero, List.getD_cons_succ]
            go_simp
            refine hK.out _ _ (Eq.refl _) (Below.refl _ _) (Inv.tie_none rfl)
          · intro vs w' hb hv K hK
            have h8 : (Inv.MP.is (tv k2 p2 n2 N2 (.slice q2 l2 c2))).p (vs 8) w' := hv 8 (by simp)
            clear hv
            have hK2 := hK.out
            clear hK
            simp only [Inv.putD, Inv.dst, List.foldl_cons, List.foldl_nil, List.getD_cons_zero, List.getD_cons_succ, Act.put, List.setIfInBounds_toArray, List.set_cons_zero, List.set_cons_succ] at hK2 ⊢
            have hK := Lib.hid hK2
            clear hK2
            generalize vs 8 = y8 at *
            have h8 : y8 = _ := h8
            subst h8
            simp only [Region.wanted, Inv.yieldedD, Inv.dst, List.getD_cons_zero, List.getD_cons_succ]
            go_simp
            refine hK.out _ _ (KidsT.one (hb_new _ _) (HT2.out.below (hb.trans (below_alloc _ _ |>.mono hb.size)))) (below_alloc _ _) (Inv.tie_none rfl)
          · intro vs w' hb hv K hK
            have h5 : IsT w' (d + d) (vs 5) (sub (byOf (fg [b] [b].length) [ty]) d tt) := hv 5 (by simp)
            have h7 : SRow w' (vs 7) [a] := hv 7 (by simp)
            have h9 : KidsT w' d (vs 9) [tx] := hv 9 (by simp)
            clear hv
            have hK2 := hK.out
            clear hK
            simp only [Inv.putD, Inv.dst, List.foldl_cons, List.foldl_nil, List.getD_cons_zero, List.getD_cons_succ, Act.put, List.setIfInBounds_toArray, List.set_cons_zero, List.set_cons_succ] at hK2 ⊢
            have hK := Lib.hid hK2
            clear hK2
            generalize vs 5 = y5 at *
            generalize vs 7 = y7 at *
            generalize vs 9 = y9 at *
            obtain ⟨_, k0, p0, n0, N0, s0, kk0, _, _, rfl, _, _, q0, c0, rfl, _⟩ := h5.open
            simp only [Region.wanted, Inv.yieldedD, Inv.dst, List.getD_cons_zero, List.getD_cons_succ]
            go_simp
            ((with_reducible refine (subst_any (d + d) d (sub (byOf (fg [b] [b].length) [ty]) d tt) _ [a] _ [tx] _ w' h5 h7 (by simp) (fun s hs => by simp at hs; subst hs; exact HSA.out) h9 (HS5.out (d + d)) (fun x hx => by simp at hx; subst hx; exact HS2.out d)).mono ?_); rintro e w3 ⟨v3, rfl, hx3, hb3⟩)
            go_wp2_with fail
            refine hK.out _ _ hx3.isT hb3 (Inv.tie_left rfl (fun u hu => apart_left hu hx3))
          · intro vs w' hb hv K hK
            clear hv
            have hK2 := hK.out
            clear hK
            simp only [Inv.putD, Inv.dst, List.foldl_cons, List.foldl_nil, List.getD_cons_zero, List.getD_cons_succ, Act.put, List.setIfInBounds_toArray, List.set_cons_zero, List.set_cons_succ] at hK2 ⊢
            have hK := Lib.hid hK2
            clear hK2
            simp only [Region.wanted, Inv.yieldedD, Inv.dst, List.getD_cons_zero, List.getD_cons_succ]
            go_simp
            refine hK.out _ _ ⟨_, rfl, hb.size, hb_new _ _⟩ (below_alloc _ _) (Inv.tie_right rfl (fun u hu => apart_right _ hu))
          · have hT := htie _ (List.mem_singleton.2 rfl)
            have h11 : (Inv.MP.box w5.heap.size).p (vs 11) wq := hv 11 (by omega)
            simp only [List.range, List.range.loop, Inv.putD, Inv.dst, List.foldl_cons, List.foldl_nil, List.getD_cons_zero, List.getD_cons_succ, Act.put, List.setIfInBounds_toArray, List.set_cons_zero, List.set_cons_succ]
            simp only [List.drop_succ_cons, List.drop_zero]
            have hT2 : ∃ g8, vs 11 = .pointer (some ⟨g8, 0, none⟩) ∧ IsX (fun b => b ≠ g8) wq (d + (d + d)) (vs 10) (sub (byOf (fg [a] [a].length) [tx]) (d + d) (sub (byOf (fg [b] [b].length) [ty]) d tt)) := hT
            clear hv hT htie
            generalize vs 0 = yy0 at *
            generalize vs 1 = yy1 at *
            generalize vs 2 = yy2 at *
            generalize vs 3 = yy3 at *
            generalize vs 4 = yy4 at *
            generalize vs 5 = yy5 at *
            generalize vs 6 = yy6 at *
            generalize vs 7 = yy7 at *
            generalize vs 8 = yy8 at *
            generalize vs 9 = yy9 at *
            generalize vs 10 = yy10 at *
            generalize vs 11 = yy11 at *
            obtain ⟨g8, rfl, hg1, hg2⟩ := h11
            obtain ⟨g', hg', hx⟩ := hT2
            cases hg'
            obtain ⟨k8, p8, n8, N8, q8, l8, c8, rfl⟩ := hx.shape
            have f0 := hb_free hg2 0
            have f1 := hb_free hg2 1
            have f2 := hb_free hg2 2
            have f3 := hb_free hg2 3
            have f4 := hb_free hg2 4
            have e0 := hb_at hg2 0 rfl
            have e1 := hb_at hg2 1 rfl
            have e2 := hb_at hg2 2 rfl
            have e3 := hb_at hg2 3 rfl
            have e4 := hb_at hg2 4 rfl
            go_upto_region 7 with fail
            obtain ⟨u1, u2, u3⟩ := box_set hg1 hg2 (.int .i64 k8) (.string p8) (.string n8) (.int .i64 N8) (.slice q8 l8 c8)
            have hxt : IsT _ (d + (d + d)) (tv k8 p8 n8 N8 (.slice q8 l8 c8)) (sub (byOf (fg [a] [a].length) [tx]) (d + d) (sub (byOf (fg [b] [b].length) [ty]) d tt)) := (hx.move (Y := fun _ => True) fun b hb _ => ⟨trivial, u2 b hb⟩).isT
            clear f0 f1 f2 f3 f4 e0 e1 e2 e3 e4 u2 hg2 hx
            generalize (((((wq.setCell ⟨g8, 0, none⟩ (.int .i64 k8)).setCell ⟨g8, 1, none⟩ (.string p8)).setCell ⟨g8, 2, none⟩ (.string n8)).setCell ⟨g8, 3, none⟩ (.int .i64 N8)).setCell ⟨g8, 4, none⟩ (.slice q8 l8 c8)) = W4 at *
            have hbn : Below w5.heap.size w5 W4 := hbq.trans u3
            have HG8 : RowKit.Hid (W4.heap[g8]? = some (.cells #[.int .i64 k8, .string p8, .string n8, .int .i64 N8, .slice q8 l8 c8] 24 (0, 0))) := Lib.hid u1
            have HX8 := Lib.hid hxt
            clear u1 u3 hxt hbq hg1
            have J1 := Lib.hid (hb_below J1.out hbn (hb_lt J1.out))
            have HT1 := Lib.hid (HT1.out.below hbn)
            have J2 := Lib.hid (hb_below J2.out hbn (hb_lt J2.out))
            have HT2 := Lib.hid (HT2.out.below hbn)
            have J3 := Lib.hid (hb_below J3.out hbn (hb_lt J3.out))
            have HT3 := Lib.hid (HT3.out.below hbn)
            have HG9 := Lib.hid (hb_below HG9.out hbn (hb_lt HG9.out))
            have HX9 := Lib.hid (HX9.out.below hbn)
            have HBC := Lib.hid (HBC.out.trans (hbn.mono HBC.out.size))
            clear hbn
            refine Inv.region (by kernel_rfl) 18 [some 82, some 83, some 84, some 85, some 86, some 87, some 88, some 89, some 90, some 91, some 92, some 93, some 94, some 95, some 96, some 97, some 98, some 99, some 10] [[], [], [], [], [2, 3], [], [], [5, 6], [1, 4, 7], [0, 8, 8], [9, 9], [10], [10], [11, 12, 10, 10], [10, 13], [14, 13], [15, 15], [15, 16]] (by kernel_rfl) (by kernel_rfl) (by kernel_rfl) (by kernel_rfl) [Inv.MP.is (tv k9 p9 n9 N9 (.slice q9 l9 c9)), Inv.MP.is (tv k1 p1 n1 N1 (.slice q1 l1 c1)), Inv.MP.is (.string a), Inv.MP.is (.string b), Inv.MP.row [a, b], Inv.MP.is (tv k2 p2 n2 N2 (.slice q2 l2 c2)), Inv.MP.is (tv k3 p3 n3 N3 (.slice q3 l3 c3)), Inv.MP.kids d [tx, ty], Inv.MP.term (d + d) (sub (byOf (fg [a, b] [a, b].length) [tx, ty]) d tt), Inv.MP.is (.bool true), Inv.MP.is (.bool true), Inv.MP.is (tv k9 p9 n9 N9 (.slice q9 l9 c9)), Inv.MP.is (tv k8 p8 n8 N8 (.slice q8 l8 c8)), Inv.MP.is (.bool true), Inv.MP.is (.bool true), Inv.MP.is (.bool true), Inv.MP.is (.bool true), Inv.MP.is (.bool true)] [] (by intro x hx; cases hx) ⟨?_, ?_, ?_, ?_, ?_, ?_, ?_, ?_, ?_, ?_, ?_, ?_, ?_, ?_, ?_, ?_, ?_, ?_, trivial⟩ (fun vs wq hbq hv htie => ?_)
            · intro vs w' hb hv K hK
              clear hv
              have hK2 := hK.out
              clear hK
              simp only [Inv.putD, Inv.dst, List.foldl_cons, List.foldl_nil, List.getD_cons_zero, List.getD_cons_succ, Act.put, List.setIfInBounds_toArray, List.set_cons_zero, List.set_cons_succ] at hK2 ⊢
              have hK := Lib.hid hK2
              clear hK2
              have x0 := hb_at (hb_below HG9.out hb (hb_lt HG9.out)) 0 rfl
              have x1 := hb_at (hb_below HG9.out hb (hb_lt HG9.out)) 1 rfl
              have x2 := hb_at (hb_below HG9.out hb (hb_lt HG9.out)) 2 rfl
              have x3 := hb_at (hb_below HG9.out hb (hb_lt HG9.out)) 3 rfl
              have x4 := hb_at (hb_below HG9.out hb (hb_lt HG9.out)) 4 rfl
              simp only [Region.wanted, Inv.yieldedD, Inv.dst, List.getD_cons_zero, List.getD_cons_succ]
              go_simp
              refine hK.out _ _ (Eq.refl _) (Below.refl _ _) (Inv.noTies _ _ _ _ _)
            · intro vs w' hb hv K hK
              clear hv
              have hK2 := hK.out
              clear hK
              simp only [Inv.putD, Inv.dst, List.foldl_cons, List.foldl_nil, List.getD_cons_zero, List.getD_cons_succ, Act.put, List.setIfInBounds_toArray, List.set_cons_zero, List.set_cons_succ] at hK2 ⊢
              have hK := Lib.hid hK2
              clear hK2
              have x0 := hb_at (hb_below J1.out hb (hb_lt J1.out)) 0 rfl
              have x1 := hb_at (hb_below J1.out hb (hb_lt J1.out)) 1 rfl
              have x2 := hb_at (hb_below J1.out hb (hb_lt J1.out)) 2 rfl
              have x3 := hb_at (hb_below J1.out hb (hb_lt J1.out)) 3 rfl
              have x4 := hb_at (hb_below J1.out hb (hb_lt J1.out)) 4 rfl
              simp only [Region.wanted, Inv.yieldedD, Inv.dst, List.getD_cons_zero, List.getD_cons_succ]
              go_simp
              refine hK.out _ _ (Eq.refl _) (Below.refl _ _) (Inv.noTies _ _ _ _ _)
            · intro vs w' hb hv K hK
              clear hv
              have hK2 := hK.out
              clear hK
              simp only [Inv.putD, Inv.dst, List.foldl_cons, List.foldl_nil, List.getD_cons_zero, List.getD_cons_succ, Act.put, List.setIfInBounds_toArray, List.set_cons_zero, List.set_cons_succ] at hK2 ⊢
              have hK := Lib.hid hK2
              clear hK2
              simp only [Region.wanted, Inv.yieldedD, Inv.dst, List.getD_cons_zero, List.getD_cons_succ]
              go_simp
              refine hK.out _ _ (Eq.refl _) (Below.refl _ _) (Inv.noTies _ _ _ _ _)
            · intro vs w' hb hv K hK
              clear hv
              have hK2 := hK.out
              clear hK
              simp only [Inv.putD, Inv.dst, List.foldl_cons, List.foldl_nil, List.getD_cons_zero, List.getD_cons_succ, Act.put, List.setIfInBounds_toArray, List.set_cons_zero, List.set_cons_succ] at hK2 ⊢
              have hK := Lib.hid hK2
              clear hK2
              simp only [Region.wanted, Inv.yieldedD, Inv.dst, List.getD_cons_zero, List.getD_cons_succ]
              go_simp
              refine hK.out _ _ (Eq.refl _) (Below.refl _ _) (Inv.noTies _ _ _ _ _)
            · intro vs w' hb hv K hK
              have h2 : (Inv.MP.is (.string a)).p (vs 2) w' := hv 2 (by simp)
              have h3 : (Inv.MP.is (.string b)).p (vs 3) w' := hv 3 (by simp)
              clear hv
              have hK2 := hK.out
              clear hK
              simp only [Inv.putD, Inv.dst, List.foldl_cons, List.foldl_nil, List.getD_cons_zero, List.getD_cons_succ, Act.put, List.setIfInBounds_toArray, List.set_cons_zero, List.set_cons_succ] at hK2 ⊢
              have hK := Lib.hid hK2
              clear hK2
              generalize vs 2 = y2 at *
              generalize vs 3 = y3 at *
              have h2 : y2 = _ := h2
              subst h2
              have h3 : y3 = _ := h3
              subst h3
              simp only [Region.wanted, Inv.yieldedD, Inv.dst, List.getD_cons_zero, List.getD_cons_succ]
              go_simp
              refine hK.out _ _ (SRow.two (hb_new _ _)) (below_alloc _ _) (Inv.noTies _ _ _ _ _)
            · intro vs w' hb hv K hK
              clear hv
              have hK2 := hK.out
              clear hK
              simp only [Inv.putD, Inv.dst, List.foldl_cons, List.foldl_nil, List.getD_cons_zero, List.getD_cons_succ, Act.put, List.setIfInBounds_toArray, List.set_cons_zero, List.set_cons_succ] at hK2 ⊢
              have hK := Lib.hid hK2
              clear hK2
              have x0 := hb_at (hb_below J2.out hb (hb_lt J2.out)) 0 rfl
              have x1 := hb_at (hb_below J2.out hb (hb_lt J2.out)) 1 rfl
              have x2 := hb_at (hb_below J2.out hb (hb_lt J2.out)) 2 rfl
              have x3 := hb_at (hb_below J2.out hb (hb_lt J2.out)) 3 rfl
              have x4 := hb_at (hb_below J2.out hb (hb_lt J2.out)) 4 rfl
              simp only [Region.wanted, Inv.yieldedD, Inv.dst, List.getD_cons_zero, List.getD_cons_succ]
              go_simp
              refine hK.out _ _ (Eq.refl _) (Below.refl _ _) (Inv.noTies _ _ _ _ _)
            · intro vs w' hb hv K hK
              clear hv
              have hK2 := hK.out
              clear hK
              simp only [Inv.putD, Inv.dst, List.foldl_cons, List.foldl_nil, List.getD_cons_zero, List.getD_cons_succ, Act.put, List.setIfInBounds_toArray, List.set_cons_zero, List.set_cons_succ] at hK2 ⊢
              have hK := Lib.hid hK2
              clear hK2
              have x0 := hb_at (hb_below J3.out hb (hb_lt J3.out)) 0 rfl
              have x1 := hb_at (hb_below J3.out hb (hb_lt J3.out)) 1 rfl
              have x2 := hb_at (hb_below J3.out hb (hb_lt J3.out)) 2 rfl
              have x3 := hb_at (hb_below J3.out hb (hb_lt J3.out)) 3 rfl
              have x4 := hb_at (hb_below J3.out hb (hb_lt J3.out)) 4 rfl
              simp only [Region.wanted, Inv.yieldedD, Inv.dst, List.getD_cons_zero, List.getD_cons_succ]
              go_simp
              refine hK.out _ _ (Eq.refl _) (Below.refl _ _) (Inv.noTies _ _ _ _ _)
            · intro vs w' hb hv K hK
              have h5 : (Inv.MP.is (tv k2 p2 n2 N2 (.slice q2 l2 c2))).p (vs 5) w' := hv 5 (by simp)
              have h6 : (Inv.MP.is (tv k3 p3 n3 N3 (.slice q3 l3 c3))).p (vs 6) w' := hv 6 (by simp)
              clear hv
              have hK2 := hK.out
              clear hK
              simp only [Inv.putD, Inv.dst, List.foldl_cons, List.foldl_nil, List.getD_cons_zero, List.getD_cons_succ, Act.put, List.setIfInBounds_toArray, List.set_cons_zero, List.set_cons_succ] at hK2 ⊢
              have hK := Lib.hid hK2
              clear hK2
              generalize vs 5 = y5 at *
              generalize vs 6 = y6 at *
              have h5 : y5 = _ := h5
              subst h5
              have h6 : y6 = _ := h6
              subst h6
              simp only [Region.wanted, Inv.yieldedD, Inv.dst, List.getD_cons_zero, List.getD_cons_succ]
              go_simp
              refine hK.out _ _ (KidsT.two (hb_new _ _) (HT2.out.below (hb.trans (below_alloc _ _ |>.mono hb.size))) (HT3.out.below (hb.trans (below_alloc _ _ |>.mono hb.size)))) (below_alloc _ _) (Inv.noTies _ _ _ _ _)
            · intro vs w' hb hv K hK
              have h1 : (Inv.MP.is (tv k1 p1 n1 N1 (.slice q1 l1 c1))).p (vs 1) w' := hv 1 (by simp)
              have h4 : SRow w' (vs 4) [a, b] := hv 4 (by simp)
              have h7 : KidsT w' d (vs 7) [tx, ty] := hv 7 (by simp)
              clear hv
              have hK2 := hK.out
              clear hK
              simp only [Inv.putD, Inv.dst, List.foldl_cons, List.foldl_nil, List.getD_cons_zero, List.getD_cons_succ, Act.put, List.setIfInBounds_toArray, List.set_cons_zero, List.set_cons_succ] at hK2 ⊢
              have hK := Lib.hid hK2
              clear hK2
              generalize vs 1 = y1 at *
              generalize vs 4 = y4 at *
              generalize vs 7 = y7 at *
              have h1 : y1 = _ := h1
              subst h1
              simp only [Region.wanted, Inv.yieldedD, Inv.dst, List.getD_cons_zero, List.getD_cons_succ]
              go_simp
              ((with_reducible refine (subst_any d d tt _ [a, b] _ [tx, ty] _ w' (HT1.out.below hb) h4 (by simp) (fun s hs => by simp at hs; rcases hs with rfl | rfl <;> first | exact HSA.out | exact HSB.out) h7 (HS1.out d) (fun x hx => by simp at hx; rcases hx with rfl | rfl <;> first | exact HS2.out d | exact HS3.out d)).mono ?_); rintro e w3 ⟨v3, rfl, hx3, hb3⟩)
              go_wp2_with fail
              refine hK.out _ _ hx3.isT hb3 (Inv.noTies _ _ _ _ _)
            · intro vs w' hb hv K hK
              have h0 : (Inv.MP.is (tv k9 p9 n9 N9 (.slice q9 l9 c9))).p (vs 0) w' := hv 0 (by simp)
              have h8 : IsT w' (d + d) (vs 8) (sub (byOf (fg [a, b] [a, b].length) [tx, ty]) d tt) := hv 8 (by simp)
              clear hv
              have hK2 := hK.out
              clear hK
              simp only [Inv.putD, Inv.dst, List.foldl_cons, List.foldl_nil, List.getD_cons_zero, List.getD_cons_succ, Act.put, List.setIfInBounds_toArray, List.set_cons_zero, List.set_cons_succ] at hK2 ⊢
              have hK := Lib.hid hK2
              clear hK2
              generalize vs 0 = y0 at *
              generalize vs 8 = y8 at *
              have h0 : y0 = _ := h0
              subst h0
              simp only [Region.wanted, Inv.yieldedD, Inv.dst, List.getD_cons_zero, List.getD_cons_succ]
              go_simp
              ((with_reducible refine (refSame_any (d + (d + d)) _ _ _ _ w' (HX9.out.below hb) (IsT.more (by omega) h8)).mono ?_); rintro e w3 ⟨rfl, hb3⟩)
              go_wp2_with fail
              refine hK.out _ _ (show Value.bool _ = Value.bool true from congrArg Value.bool HSM2.out) hb3 (Inv.noTies _ _ _ _ _)
            · intro vs w' hb hv K hK
              have h9 : (Inv.MP.is (.bool true)).p (vs 9) w' := hv 9 (by simp)
              clear hv
              have hK2 := hK.out
              clear hK
              simp only [Inv.putD, Inv.dst, List.foldl_cons, List.foldl_nil, List.getD_cons_zero, List.getD_cons_succ, Act.put, List.setIfInBounds_toArray, List.set_cons_zero, List.set_cons_succ] at hK2 ⊢
              have hK := Lib.hid hK2
              clear hK2
              generalize vs 9 = y9 at *
              have h9 : y9 = _ := h9
              subst h9
              simp only [Region.wanted, Inv.yieldedD, Inv.dst, List.getD_cons_zero, List.getD_cons_succ]
              go_simp
              refine hK.out _ _ (Eq.refl _) (Below.refl _ _) (Inv.noTies _ _ _ _ _)
            · intro vs w' hb hv K hK
              have h10 : (Inv.MP.is (.bool true)).p (vs 10) w' := hv 10 (by simp)
              clear hv
              have hK2 := hK.out
              clear hK
              simp only [Inv.putD, Inv.dst, List.foldl_cons, List.foldl_nil, List.getD_cons_zero, List.getD_cons_succ, Act.put, List.setIfInBounds_toArray, List.set_cons_zero, List.set_cons_succ] at hK2 ⊢
              have hK := Lib.hid hK2
              clear hK2
              generalize vs 10 = y10 at *
              have h10 : y10 = _ := h10
              subst h10
              have x0 := hb_at (hb_below HG9.out hb (hb_lt HG9.out)) 0 rfl
              have x1 := hb_at (hb_below HG9.out hb (hb_lt HG9.out)) 1 rfl
              have x2 := hb_at (hb_below HG9.out hb (hb_lt HG9.out)) 2 rfl
              have x3 := hb_at (hb_below HG9.out hb (hb_lt HG9.out)) 3 rfl
              have x4 := hb_at (hb_below HG9.out hb (hb_lt HG9.out)) 4 rfl
              simp only [Region.wanted, Inv.yieldedD, Inv.dst, List.getD_cons_zero, List.getD_cons_succ]
              go_simp
              refine hK.out _ _ (Eq.refl _) (Below.refl _ _) (Inv.noTies _ _ _ _ _)
            · intro vs w' hb hv K hK
              have h10 : (Inv.MP.is (.bool true)).p (vs 10) w' := hv 10 (by simp)
              clear hv
              have hK2 := hK.out
              clear hK
              simp only [Inv.putD, Inv.dst, List.foldl_cons, List.foldl_nil, List.getD_cons_zero, List.getD_cons_succ, Act.put, List.setIfInBounds_toArray, List.set_cons_zero, List.set_cons_succ] at hK2 ⊢
              have hK := Lib.hid hK2
              clear hK2
              generalize vs 10 = y10 at *
              have h10 : y10 = _ := h10
              subst h10
              have x0 := hb_at (hb_below HG8.out hb (hb_lt HG8.out)) 0 rfl
              have x1 := hb_at (hb_below HG8.out hb (hb_lt HG8.out)) 1 rfl
              have x2 := hb_at (hb_below HG8.out hb (hb_lt HG8.out)) 2 rfl
              have x3 := hb_at (hb_below HG8.out hb (hb_lt HG8.out)) 3 rfl
              have x4 := hb_at (hb_below HG8.out hb (hb_lt HG8.out)) 4 rfl
              simp only [Region.wanted, Inv.yieldedD, Inv.dst, List.getD_cons_zero, List.getD_cons_succ]
              go_simp
              refine hK.out _ _ (Eq.refl _) (Below.refl _ _) (Inv.noTies _ _ _ _ _)
            · intro vs w' hb hv K hK
              have h10 : (Inv.MP.is (.bool true)).p (vs 10) w' := hv 10 (by simp)
              have h11 : (Inv.MP.is (tv k9 p9 n9 N9 (.slice q9 l9 c9))).p (vs 11) w' := hv 11 (by simp)
              have h12 : (Inv.MP.is (tv k8 p8 n8 N8 (.slice q8 l8 c8))).p (vs 12) w' := hv 12 (by simp)
              clear hv
              have hK2 := hK.out
              clear hK
              simp only [Inv.putD, Inv.dst, List.foldl_cons, List.foldl_nil, List.getD_cons_zero, List.getD_cons_succ, Act.put, List.setIfInBounds_toArray, List.set_cons_zero, List.set_cons_succ] at hK2 ⊢
              have hK := Lib.hid hK2
              clear hK2
              generalize vs 10 = y10 at *
              generalize vs 11 = y11 at *
              generalize vs 12 = y12 at *
              have h10 : y10 = _ := h10
              subst h10
              have h11 : y11 = _ := h11
              subst h11
              have h12 : y12 = _ := h12
              subst h12
              simp only [Region.wanted, Inv.yieldedD, Inv.dst, List.getD_cons_zero, List.getD_cons_succ]
              go_simp
              ((with_reducible refine (refSame_any (d + (d + d)) _ _ _ _ w' (HX9.out.below hb) (HX8.out.below hb)).mono ?_); rintro e w3 ⟨rfl, hb3⟩)
              go_wp2_with fail
              refine hK.out _ _ (show Value.bool _ = Value.bool true from congrArg Value.bool HSM3.out) hb3 (Inv.noTies _ _ _ _ _)
            · intro vs w' hb hv K hK
              have h10 : (Inv.MP.is (.bool true)).p (vs 10) w' := hv 10 (by simp)
              have h13 : (Inv.MP.is (.bool true)).p (vs 13) w' := hv 13 (by simp)
              clear hv
              have hK2 := hK.out
              clear hK
              simp only [Inv.putD, Inv.dst, List.foldl_cons, List.foldl_nil, List.getD_cons_zero, List.getD_cons_succ, Act.put, List.setIfInBounds_toArray, List.set_cons_zero, List.set_cons_succ] at hK2 ⊢
              have hK := Lib.hid hK2
              clear hK2
              generalize vs 10 = y10 at *
              generalize vs 13 = y13 at *
              have h10 : y10 = _ := h10
              subst h10
              have h13 : y13 = _ := h13
              subst h13
              simp only [Region.wanted, Inv.yieldedD, Inv.dst, List.getD_cons_zero, List.getD_cons_succ]
              go_simp
              refine hK.out _ _ (Eq.refl _) (Below.refl _ _) (Inv.noTies _ _ _ _ _)
            · intro vs w' hb hv K hK
              have h13 : (Inv.MP.is (.bool true)).p (vs 13) w' := hv 13 (by simp)
              have h14 : (Inv.MP.is (.bool true)).p (vs 14) w' := hv 14 (by simp)
              clear hv
              have hK2 := hK.out
              clear hK
              simp only [Inv.putD, Inv.dst, List.foldl_cons, List.foldl_nil, List.getD_cons_zero, List.getD_cons_succ, Act.put, List.setIfInBounds_toArray, List.set_cons_zero, List.set_cons_succ] at hK2 ⊢
              have hK := Lib.hid hK2
              clear hK2
              generalize vs 13 = y13 at *
              generalize vs 14 = y14 at *
              have h13 : y13 = _ := h13
              subst h13
              have h14 : y14 = _ := h14
              subst h14
              simp only [Region.wanted, Inv.yieldedD, Inv.dst, List.getD_cons_zero, List.getD_cons_succ]
              go_simp
              refine hK.out _ _ (Eq.refl _) (Below.refl _ _) (Inv.noTies _ _ _ _ _)
            · intro vs w' hb hv K hK
              have h15 : (Inv.MP.is (.bool true)).p (vs 15) w' := hv 15 (by simp)
              clear hv
              have hK2 := hK.out
              clear hK
              simp only [Inv.putD, Inv.dst, List.foldl_cons, List.foldl_nil, List.getD_cons_zero, List.getD_cons_succ, Act.put, List.setIfInBounds_toArray, List.set_cons_zero, List.set_cons_succ] at hK2 ⊢
              have hK := Lib.hid hK2
              clear hK2
              generalize vs 15 = y15 at *
              have h15 : y15 = _ := h15
              subst h15
              simp only [Region.wanted, Inv.yieldedD, Inv.dst, List.getD_cons_zero, List.getD_cons_succ]
              go_simp
              ((with_reducible refine (alive_ok _).mono ?_); rintro e w3 ⟨rfl, hb3⟩)
              go_wp2_with fail
              refine hK.out _ _ (Eq.refl _) hb3 (Inv.noTies _ _ _ _ _)
            · intro vs w' hb hv K hK
              have h15 : (Inv.MP.is (.bool true)).p (vs 15) w' := hv 15 (by simp)
              have h16 : (Inv.MP.is (.bool true)).p (vs 16) w' := hv 16 (by simp)
              clear hv
              have hK2 := hK.out
              clear hK
              simp only [Inv.putD, Inv.dst, List.foldl_cons, List.foldl_nil, List.getD_cons_zero, List.getD_cons_succ, Act.put, List.setIfInBounds_toArray, List.set_cons_zero, List.set_cons_succ] at hK2 ⊢
              have hK := Lib.hid hK2
              clear hK2
              generalize vs 15 = y15 at *
              generalize vs 16 = y16 at *
              have h15 : y15 = _ := h15
              subst h15
              have h16 : y16 = _ := h16
              subst h16
              simp only [Region.wanted, Inv.yieldedD, Inv.dst, List.getD_cons_zero, List.getD_cons_succ]
              go_simp
              refine hK.out _ _ (Eq.refl _) (Below.refl _ _) (Inv.noTies _ _ _ _ _)
            · have hl : vs 17 = .bool true := hv 17 (by omega)
              clear hv
              simp only [List.range, List.range.loop, Inv.putD, Inv.dst, List.foldl_cons, List.foldl_nil, List.getD_cons_zero, List.getD_cons_succ, Act.put, List.setIfInBounds_toArray, List.set_cons_zero, List.set_cons_succ]
              simp only [List.drop_succ_cons, List.drop_zero]
              generalize vs 0 = yy0 at *
              generalize vs 1 = yy1 at *
              generalize vs 2 = yy2 at *
              generalize vs 3 = yy3 at *
              generalize vs 4 = yy4 at *
              generalize vs 5 = yy5 at *
              generalize vs 6 = yy6 at *
              generalize vs 7 = yy7 at *
              generalize vs 8 = yy8 at *
              generalize vs 9 = yy9 at *
              generalize vs 10 = yy10 at *
              generalize vs 11 = yy11 at *
              generalize vs 12 = yy12 at *
              generalize vs 13 = yy13 at *
              generalize vs 14 = yy14 at *
              generalize vs 15 = yy15 at *
              generalize vs 16 = yy16 at *
              generalize vs 17 = yy17 at *
              subst hl
              go_wp2
              go_ret
              exact ⟨rfl, HBC.out.trans (hbq.mono HBC.out.size)⟩
        · clear hin
          go_upto_region 5 with fail
          refine Inv.region (by kernel_rfl) 13 [some 58, some 59, some 60, some 61, some 62, some 63, some 64, some 65, some 66, some 67, some 68, some 69, some 70, some 10] [[], [], [], [1, 2], [], [], [4, 5], [0, 3, 6], [], [7, 8, 7], [9, 9], [10, 10], [10, 11]] (by kernel_rfl) (by kernel_rfl) (by kernel_rfl) (by kernel_rfl) [Inv.MP.is (tv k1 p1 n1 N1 (.slice q1 l1 c1)), Inv.MP.is (.string a), Inv.MP.is (.string b), Inv.MP.row [a, b], Inv.MP.is (tv k2 p2 n2 N2 (.slice q2 l2 c2)), Inv.MP.is (tv k3 p3 n3 N3 (.slice q3 l3 c3)), Inv.MP.kids d [tx, ty], Inv.MP.term (d + d) (sub (byOf (fg [a, b] [a, b].length) [tx, ty]) d tt), Inv.MP.is (tv k9 p9 n9 N9 (.slice q9 l9 c9)), Inv.MP.is (.bool true), Inv.MP.is (.bool true), Inv.MP.is (.bool true), Inv.MP.is (.bool true)] [] (by intro x hx; cases hx) ⟨?_, ?_, ?_, ?_, ?_, ?_, ?_, ?_, ?_, ?_, ?_, ?_, ?_, trivial⟩ (fun vs wq hbq hv htie => ?_)
          · intro vs w' hb hv K hK
            clear hv
            have hK2 := hK.out
            clear hK
            simp only [Inv.putD, Inv.dst, List.foldl_cons, List.foldl_nil, List.getD_cons_zero, List.getD_cons_succ, Act.put, List.setIfInBounds_toArray, List.set_cons_zero, List.set_cons_succ] at hK2 ⊢
            have hK := Lib.hid hK2
            clear hK2
            have x0 := hb_at (hb_below J1.out hb (hb_lt J1.out)) 0 rfl
            have x1 := hb_at (hb_below J1.out hb (hb_lt J1.out)) 1 rfl
            have x2 := hb_at (hb_below J1.out hb (hb_lt J1.out)) 2 rfl
            have x3 := hb_at (hb_below J1.out hb (hb_lt J1.out)) 3 rfl
            have x4 := hb_at (hb_below J1.out hb (hb_lt J1.out)) 4 rfl
            simp only [Region.wanted, Inv.yieldedD, Inv.dst, List.getD_cons_zero, List.getD_cons_succ]
            go_simp
            refine hK.out _ _ (Eq.refl _) (Below.refl _ _) (Inv.noTies _ _ _ _ _)
          · intro vs w' hb hv K hK
            clear hv
            have hK2 := hK.out
            clear hK
            simp only [Inv.putD, Inv.dst, List.foldl_cons, List.foldl_nil, List.getD_cons_zero, List.getD_cons_succ, Act.put, List.setIfInBounds_toArray, List.set_cons_zero, List.set_cons_succ] at hK2 ⊢
            have hK := Lib.hid hK2
            clear hK2
            simp only [Region.wanted, Inv.yieldedD, Inv.dst, List.getD_cons_zero, List.getD_cons_succ]
            go_simp
            refine hK.out _ _ (Eq.refl _) (Below.refl _ _) (Inv.noTies _ _ _ _ _)
          · intro vs w' hb hv K hK
            clear hv
            have hK2 := hK.out
            clear hK
            simp only [Inv.putD, Inv.dst, List.foldl_cons, List.foldl_nil, List.getD_cons_zero, List.getD_cons_succ, Act.put, List.setIfInBounds_toArray, List.set_cons_zero, List.set_cons_succ] at hK2 ⊢
            have hK := Lib.hid hK2
            clear hK2
            simp only [Region.wanted, Inv.yieldedD, Inv.dst, List.getD_cons_zero, List.getD_cons_succ]
            go_simp
            refine hK.out _ _ (Eq.refl _) (Below.refl _ _) (Inv.noTies _ _ _ _ _)
          · intro vs w' hb hv K hK
            have h1 : (Inv.MP.is (.string a)).p (vs 1) w' := hv 1 (by simp)
            have h2 : (Inv.MP.is (.string b)).p (vs 2) w' := hv 2 (by simp)
            clear hv
            have hK2 := hK.out
            clear hK
            simp only [Inv.putD, Inv.dst, List.foldl_cons, List.foldl_nil, List.getD_cons_zero, List.getD_cons_succ, Act.put, List.setIfInBounds_toArray, List.set_cons_zero, List.set_cons_succ] at hK2 ⊢
            have hK := Lib.hid hK2
            clear hK2
            generalize vs 1 = y1 at *
            generalize vs 2 = y2 at *
            have h1 : y1 = _ := h1
            subst h1
            have h2 : y2 = _ := h2
            subst h2
            simp only [Region.wanted, Inv.yieldedD, Inv.dst, List.getD_cons_zero, List.getD_cons_succ]
            go_simp
            refine hK.out _ _ (SRow.two (hb_new _ _)) (below_alloc _ _) (Inv.noTies _ _ _ _ _)
          · intro vs w' hb hv K hK
            clear hv
            have hK2 := hK.out
            clear hK
            simp only [Inv.putD, Inv.dst, List.foldl_cons, List.foldl_nil, List.getD_cons_zero, List.getD_cons_succ, Act.put, List.setIfInBounds_toArray, List.set_cons_zero, List.set_cons_succ] at hK2 ⊢
            have hK := Lib.hid hK2
            clear hK2
            have x0 := hb_at (hb_below J2.out hb (hb_lt J2.out)) 0 rfl
            have x1 := hb_at (hb_below J2.out hb (hb_lt J2.out)) 1 rfl
            have x2 := hb_at (hb_below J2.out hb (hb_lt J2.out)) 2 rfl
            have x3 := hb_at (hb_below J2.out hb (hb_lt J2.out)) 3 rfl
            have x4 := hb_at (hb_below J2.out hb (hb_lt J2.out)) 4 rfl
            simp only [Region.wanted, Inv.yieldedD, Inv.dst, List.getD_cons_zero, List.getD_cons_succ]
            go_simp
            refine hK.out _ _ (Eq.refl _) (Below.refl _ _) (Inv.noTies _ _ _ _ _)
          · intro vs w' hb hv K hK
            clear hv
            have hK2 := hK.out
            clear hK
            simp only [Inv.putD, Inv.dst, List.foldl_cons, List.foldl_nil, List.getD_cons_zero, List.getD_cons_succ, Act.put, List.setIfInBounds_toArray, List.set_cons_zero, List.set_cons_succ] at hK2 ⊢
            have hK := Lib.hid hK2
            clear hK2
            have x0 := hb_at (hb_below J3.out hb (hb_lt J3.out)) 0 rfl
            have x1 := hb_at (hb_below J3.out hb (hb_lt J3.out)) 1 rfl
            have x2 := hb_at (hb_below J3.out hb (hb_lt J3.out)) 2 rfl
            have x3 := hb_at (hb_below J3.out hb (hb_lt J3.out)) 3 rfl
            have x4 := hb_at (hb_below J3.out hb (hb_lt J3.out)) 4 rfl
            simp only [Region.wanted, Inv.yieldedD, Inv.dst, List.getD_cons_zero, List.getD_cons_succ]
            go_simp
            refine hK.out _ _ (Eq.refl _) (Below.refl _ _) (Inv.noTies _ _ _ _ _)
          · intro vs w' hb hv K hK
            have h4 : (Inv.MP.is (tv k2 p2 n2 N2 (.slice q2 l2 c2))).p (vs 4) w' := hv 4 (by simp)
            have h5 : (Inv.MP.is (tv k3 p3 n3 N3 (.slice q3 l3 c3))).p (vs 5) w' := hv 5 (by simp)
            clear hv
            have hK2 := hK.out
            clear hK
            simp only [Inv.putD, Inv.dst, List.foldl_cons, List.foldl_nil, List.getD_cons_zero, List.getD_cons_succ, Act.put, List.setIfInBounds_toArray, List.set_cons_zero, List.set_cons_succ] at hK2 ⊢
            have hK := Lib.hid hK2
            clear hK2
            generalize vs 4 = y4 at *
            generalize vs 5 = y5 at *
            have h4 : y4 = _ := h4
            subst h4
            have h5 : y5 = _ := h5
            subst h5
            simp only [Region.wanted, Inv.yieldedD, Inv.dst, List.getD_cons_zero, List.getD_cons_succ]
            go_simp
            refine hK.out _ _ (KidsT.two (hb_new _ _) (HT2.out.below (hb.trans (below_alloc _ _ |>.mono hb.size))) (HT3.out.below (hb.trans (below_alloc _ _ |>.mono hb.size)))) (below_alloc _ _) (Inv.noTies _ _ _ _ _)
          · intro vs w' hb hv K hK
            have h0 : (Inv.MP.is (tv k1 p1 n1 N1 (.slice q1 l1 c1))).p (vs 0) w' := hv 0 (by simp)
            have h3 : SRow w' (vs 3) [a, b] := hv 3 (by simp)
            have h6 : KidsT w' d (vs 6) [tx, ty] := hv 6 (by simp)
            clear hv
            have hK2 := hK.out
            clear hK
            simp only [Inv.putD, Inv.dst, List.foldl_cons, List.foldl_nil, List.getD_cons_zero, List.getD_cons_succ, Act.put, List.setIfInBounds_toArray, List.set_cons_zero, List.set_cons_succ] at hK2 ⊢
            have hK := Lib.hid hK2
            clear hK2
            generalize vs 0 = y0 at *
            generalize vs 3 = y3 at *
            generalize vs 6 = y6 at *
            have h0 : y0 = _ := h0
            subst h0
            simp only [Region.wanted, Inv.yieldedD, Inv.dst, List.getD_cons_zero, List.getD_cons_succ]
            go_simp
            ((with_reducible refine (subst_any d d tt _ [a, b] _ [tx, ty] _ w' (HT1.out.below hb) h3 (by simp) (fun s hs => by simp at hs; rcases hs with rfl | rfl <;> first | exact HSA.out | exact HSB.out) h6 (HS1.out d) (fun x hx => by simp at hx; rcases hx with rfl | rfl <;> first | exact HS2.out d | exact HS3.out d)).mono ?_); rintro e w3 ⟨v3, rfl, hx3, hb3⟩)
            go_wp2_with fail
            refine hK.out _ _ hx3.isT hb3 (Inv.noTies _ _ _ _ _)
          · intro vs w' hb hv K hK
            clear hv
            have hK2 := hK.out
            clear hK
            simp only [Inv.putD, Inv.dst, List.foldl_cons, List.foldl_nil, List.getD_cons_zero, List.getD_cons_succ, Act.put, List.setIfInBounds_toArray, List.set_cons_zero, List.set_cons_succ] at hK2 ⊢
            have hK := Lib.hid hK2
            clear hK2
            have x0 := hb_at (hb_below HG9.out hb (hb_lt HG9.out)) 0 rfl
            have x1 := hb_at (hb_below HG9.out hb (hb_lt HG9.out)) 1 rfl
            have x2 := hb_at (hb_below HG9.out hb (hb_lt HG9.out)) 2 rfl
            have x3 := hb_at (hb_below HG9.out hb (hb_lt HG9.out)) 3 rfl
            have x4 := hb_at (hb_below HG9.out hb (hb_lt HG9.out)) 4 rfl
            simp only [Region.wanted, Inv.yieldedD, Inv.dst, List.getD_cons_zero, List.getD_cons_succ]
            go_simp
            refine hK.out _ _ (Eq.refl _) (Below.refl _ _) (Inv.noTies _ _ _ _ _)
          · intro vs w' hb hv K hK
            have h7 : IsT w' (d + d) (vs 7) (sub (byOf (fg [a, b] [a, b].length) [tx, ty]) d tt) := hv 7 (by simp)
            have h8 : (Inv.MP.is (tv k9 p9 n9 N9 (.slice q9 l9 c9))).p (vs 8) w' := hv 8 (by simp)
            clear hv
            have hK2 := hK.out
            clear hK
            simp only [Inv.putD, Inv.dst, List.foldl_cons, List.foldl_nil, List.getD_cons_zero, List.getD_cons_succ, Act.put, List.setIfInBounds_toArray, List.set_cons_zero, List.set_cons_succ] at hK2 ⊢
            have hK := Lib.hid hK2
            clear hK2
            generalize vs 7 = y7 at *
            generalize vs 8 = y8 at *
            have h8 : y8 = _ := h8
            subst h8
            simp only [Region.wanted, Inv.yieldedD, Inv.dst, List.getD_cons_zero, List.getD_cons_succ]
            go_simp
            ((with_reducible refine (refSame_any (d + (d + d)) _ _ _ _ w' (IsT.more (by omega) h7) (HX9.out.below hb)).mono ?_); rintro e w3 ⟨rfl, hb3⟩)
            go_wp2_with fail
            refine hK.out _ _ (show Value.bool _ = Value.bool true from congrArg Value.bool HSM1.out) hb3 (Inv.noTies _ _ _ _ _)
          · intro vs w' hb hv K hK
            have h9 : (Inv.MP.is (.bool true)).p (vs 9) w' := hv 9 (by simp)
            clear hv
            have hK2 := hK.out
            clear hK
            simp only [Inv.putD, Inv.dst, List.foldl_cons, List.foldl_nil, List.getD_cons_zero, List.getD_cons_succ, Act.put, List.setIfInBounds_toArray, List.set_cons_zero, List.set_cons_succ] at hK2 ⊢
            have hK := Lib.hid hK2
            clear hK2
            generalize vs 9 = y9 at *
            have h9 : y9 = _ := h9
            subst h9
            simp only [Region.wanted, Inv.yieldedD, Inv.dst, List.getD_cons_zero, List.getD_cons_succ]
            go_simp
            refine hK.out _ _ (Eq.refl _) (Below.refl _ _) (Inv.noTies _ _ _ _ _)
          · intro vs w' hb hv K hK
            have h10 : (Inv.MP.is (.bool true)).p (vs 10) w' := hv 10 (by simp)
            clear hv
            have hK2 := hK.out
            clear hK
            simp only [Inv.putD, Inv.dst, List.foldl_cons, List.foldl_nil, List.getD_cons_zero, List.getD_cons_succ, Act.put, List.setIfInBounds_toArray, List.set_cons_zero, List.set_cons_succ] at hK2 ⊢
            have hK := Lib.hid hK2
            clear hK2
            generalize vs 10 = y10 at *
            have h10 : y10 = _ := h10
            subst h10
            simp only [Region.wanted, Inv.yieldedD, Inv.dst, List.getD_cons_zero, List.getD_cons_succ]
            go_simp
            ((with_reducible refine (alive_ok _).mono ?_); rintro e w3 ⟨rfl, hb3⟩)
            go_wp2_with fail
            refine hK.out _ _ (Eq.refl _) hb3 (Inv.noTies _ _ _ _ _)
          · intro vs w' hb hv K hK
            have h10 : (Inv.MP.is (.bool true)).p (vs 10) w' := hv 10 (by simp)
            have h11 : (Inv.MP.is (.bool true)).p (vs 11) w' := hv 11 (by simp)
            clear hv
            have hK2 := hK.out
            clear hK
            simp only [Inv.putD, Inv.dst, List.foldl_cons, List.foldl_nil, List.getD_cons_zero, List.getD_cons_succ, Act.put, List.setIfInBounds_toArray, List.set_cons_zero, List.set_cons_succ] at hK2 ⊢
            have hK := Lib.hid hK2
            clear hK2
            generalize vs 10 = y10 at *
            generalize vs 11 = y11 at *
            have h10 : y10 = _ := h10
            subst h10
            have h11 : y11 = _ := h11
            subst h11
            simp only [Region.wanted, Inv.yieldedD, Inv.dst, List.getD_cons_zero, List.getD_cons_succ]
            go_simp
            refine hK.out _ _ (Eq.refl _) (Below.refl _ _) (Inv.noTies _ _ _ _ _)
          · have hl : vs 12 = .bool true := hv 12 (by omega)
            clear hv
            simp only [List.range, List.range.loop, Inv.putD, Inv.dst, List.foldl_cons, List.foldl_nil, List.getD_cons_zero, List.getD_cons_succ, Act.put, List.setIfInBounds_toArray, List.set_cons_zero, List.set_cons_succ]
            simp only [List.drop_succ_cons, List.drop_zero]
            generalize vs 0 = yy0 at *
            generalize vs 1 = yy1 at *
            generalize vs 2 = yy2 at *
            generalize vs 3 = yy3 at *
            generalize vs 4 = yy4 at *
            generalize vs 5 = yy5 at *
            generalize vs 6 = yy6 at *
            generalize vs 7 = yy7 at *
            generalize vs 8 = yy8 at *
            generalize vs 9 = yy9 at *
            generalize vs 10 = yy10 at *
            generalize vs 11 = yy11 at *
            generalize vs 12 = yy12 at *
            subst hl
            go_wp2
            go_ret
            exact ⟨rfl, HBC.out.trans (hbq.mono HBC.out.size)⟩
end Go.Proofs.YthcpmdgdbceeiaaGreatDoor
