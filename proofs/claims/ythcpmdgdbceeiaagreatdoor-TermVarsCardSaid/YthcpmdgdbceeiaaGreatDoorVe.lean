/- TermVars: its walk. -/
import Derived.Test.YthcpmdgdbceeiaaGreatDoorVb
import Derived.Test.YthcpmdgdbceeiaaGreatDoorVc
import Derived.Test.YthcpmdgdbceeiaaGreatDoorVd
import Derived.Outline
namespace Go.Proofs.YthcpmdgdbceeiaaGreatDoor
open Go.RowKit
set_option linter.unusedSimpArgs false
set_option linter.unusedVariables false
theorem wrap64_small {n : Int} (h0 : 0 ≤ n) (h1 : n ≤ 2000000) : wrap64 n = n := by unfold wrap64; omega
theorem sz_eq : ∀ (d : Nat) (t : Tm), tszN d t ≤ 1000000 → sz d t = ((tszN d t : Nat) : Int) := by
  intro d
  induction d with
  | zero => intro t _; rfl
  | succ d ih =>
    intro t h
    obtain ⟨k, p, n, N, kids⟩ := t
    have key : ∀ (l : List Tm) (a : Nat), l.foldl (fun n t => n + tszN d t) a ≤ 1000000 → l.foldl (fun n t => wrap64 (n + sz d t)) (a : Int) = ((l.foldl (fun n t => n + tszN d t) a : Nat) : Int) := by
      intro l
      induction l with
      | nil => intro a _; rfl
      | cons x l ih2 =>
        intro a ha
        rw [List.foldl_cons] at ha
        have h2 := ha
        rw [foldl_add (tszN d)] at h2
        rw [List.foldl_cons, List.foldl_cons, ih x (by omega), wrap64_small (by omega) (by omega)]
        have := ih2 (a + tszN d x) ha
        simpa using this
    exact key kids 1 h
theorem KidsT.isX {w : World} {d : Nat} {s : Value} {kids : List Tm} (h : KidsT w d s kids) : KidsX (fun b => b < w.heap.size) w d s kids := by
  obtain ⟨q, c, h1, h4, h5⟩ := h
  refine ⟨q, c, h1, h4, fun i y hy => ?_⟩
  obtain ⟨b, o, k', p', n', N', s', e, ha, ht⟩ := h5 i y hy
  exact ⟨b, o, k', p', n', N', s', e, ha.lt, ha, ht.isX⟩
theorem KidsT.dp {w : World} {d : Nat} {s : Value} {kids : List Tm} (h : KidsT w d s kids) : ∀ x ∈ kids, Dp d x := by
  obtain ⟨q, c, h1, h4, h5⟩ := h
  intro x hx
  obtain ⟨i, hi, e⟩ := List.getElem_of_mem hx
  obtain ⟨_, _, _, _, _, _, _, _, _, ht⟩ := h5 i x (by rw [List.getElem?_eq_getElem hi, e])
  exact ht.dp
set_option maxRecDepth 100000 in
set_option maxHeartbeats 4000000 in
theorem vars_walk (e d : Nat) (vl vt vn : Value) (l : List Tm) (tt : Tm) (names : List ByteArray) (w : World) (hl : KidsT w e vl l) (ht : IsT w d vt tt) (hn : SRowO w vn names) (hns : ∀ s ∈ names, s.size ≤ maxLen) :
    Calls Tryz.prog 5 #[vl, vt, vn] w fun e w' => e = .returned (.bool true) ∧ Below w.heap.size w w' := by
  obtain ⟨d1, k1, p1, n1, N1, s1, kk1, e1, eq1, rfl, _, _, hk1⟩ := ht.open
  obtain ⟨q1, l1, c1, rfl⟩ := hk1.slice
  clear e1 eq1 hk1
  have hB0 : Below w.heap.size w (w.alloc (.cells #[.int .i64 k1, .string p1, .string n1, .int .i64 N1, .slice q1 l1 c1] 24)) := below_alloc _ _
  have b1 := hb_new w (.cells #[.int .i64 k1, .string p1, .string n1, .int .i64 N1, .slice q1 l1 c1] 24)
  have I1 := Lib.hid b1
  have HB0 := Lib.hid hB0
  have TL := Lib.hid (hl.below hB0)
  have TT := Lib.hid (ht.below hB0)
  have TN := Lib.hid (hn.below hB0)
  have DT := Lib.hid ht.dp
  have DL := Lib.hid hl.dp
  have HNS := Lib.hid hns
  obtain ⟨ql, cl, rfl, hlm, _⟩ := hl
  obtain ⟨qn, cn, rfl, _⟩ := hn
  unfold maxLen at hlm
  clear ht hns b1 hB0
  go_enter Tryz.func5, Tryz.ntmps5
  go_upto_region 1 with fail
  generalize (w.alloc (.cells #[.int .i64 k1, .string p1, .string n1, .int .i64 N1, .slice q1 l1 c1] 24)) = W0 at *
  go_cut [26] (fun v wx => ∃ r : Bool, v = .bool r ∧ Below W0.heap.size W0 wx ∧ (r = false → ((∀ x ∈ l, Sm e x) ∧ sumN e l ≤ 600) ∧ (Sm d tt ∧ tszN d tt ≤ 600) ∧ names.length ≤ 20))
  case first =>
    have x0 := hb_at I1.out 0 rfl
    have x1 := hb_at I1.out 1 rfl
    have x2 := hb_at I1.out 2 rfl
    have x3 := hb_at I1.out 3 rfl
    have x4 := hb_at I1.out 4 rfl
    go_wp2_with fail
    (with_reducible refine (fewAll_any e l _ _ TL.out).mono ?_)
    rintro e5 w1 ⟨r1, rfl, hr1, hb1⟩
    have HQ1 := Lib.hid hb1
    have HR1 := Lib.hid hr1
    clear hb1 hr1 x0 x1 x2 x3 x4
    cases r1
    · go_wp2_with fail
      go_meet
      exact ⟨true, rfl, HQ1.out, fun h => by cases h⟩
    · have HF1 := Lib.hid (HR1.out rfl)
      clear HR1
      have x0 := hb_at (hb_below I1.out HQ1.out (hb_lt I1.out)) 0 rfl
      have x1 := hb_at (hb_below I1.out HQ1.out (hb_lt I1.out)) 1 rfl
      have x2 := hb_at (hb_below I1.out HQ1.out (hb_lt I1.out)) 2 rfl
      have x3 := hb_at (hb_below I1.out HQ1.out (hb_lt I1.out)) 3 rfl
      have x4 := hb_at (hb_below I1.out HQ1.out (hb_lt I1.out)) 4 rfl
      go_wp2_with fail
      (with_reducible refine (few2_any d _ tt _ (TT.out.below HQ1.out)).mono ?_)
      rintro e5 w2 ⟨r2, rfl, hr2, hb2⟩
      have HQ2 := Lib.hid (HQ1.out.trans (hb2.mono HQ1.out.size))
      have HR2 := Lib.hid hr2
      clear hb2 hr2 x0 x1 x2 x3 x4
      cases r2
      · go_wp2_with fail
        go_meet
        exact ⟨true, rfl, HQ2.out, fun h => by cases h⟩
      · have HF2 := Lib.hid (HR2.out rfl)
        clear HR2
        by_cases h20 : (20 : Int) < (names.length : Int)
        · go_wp2_with fail
          go_meet
          exact ⟨true, rfl, HQ2.out, fun h => by cases h⟩
        · go_wp2_with fail
          go_meet
          exact ⟨_, rfl, HQ2.out, fun _ => ⟨HF1.out, HF2.out, by omega⟩⟩
  case rest =>
    obtain ⟨r, rfl, hBc, hr⟩ := hcut
    have HBC := Lib.hid (HB0.out.trans (hBc.mono HB0.out.size))
    have J1 := Lib.hid (hb_below I1.out hBc (hb_lt I1.out))
    have TL := Lib.hid (TL.out.below hBc)
    have TT := Lib.hid (TT.out.below hBc)
    have TN := Lib.hid (TN.out.below hBc)
    clear hBc I1 HB0
    cases r
    rotate_left
    · go_wp2_with (go_at_call 8; ((with_reducible refine (alive_ok _).mono ?_); rintro e w9 ⟨rfl, hb⟩))
      go_ret
      exact ⟨rfl, HBC.out.trans (hb.mono HBC.out.size)⟩
    · obtain ⟨hf1, hf2, h20⟩ := hr rfl
      have HF1 := Lib.hid hf1
      have HF2 := Lib.hid hf2
      have H20 := Lib.hid h20
      clear hr hf1 hf2 h20
      go_upto_region 4 with fail
      go_wp2
      go_loopw [7, 30] (fun sv i wr => ∃ k : Nat, k ≤ l.length ∧ i = .int .i64 k ∧ SRow wr sv (varsTo e k l []) ∧ Below wc.heap.size wc wr) (fun _ i _ => l.length - (intOf i).toNat)
      case atStart => exact ⟨0, Nat.zero_le _, rfl, SRow.nil _, Below.refl _ _⟩
      case round =>
        obtain ⟨k, hk, rfl, hS, hB⟩ := hrel
        have hzr := hB.size
        have HB := Lib.hid hB
        have HS := Lib.hid hS
        obtain ⟨qv, cv, rfl, _⟩ := hS
        clear hB
        by_cases hlt : k < l.length
        · have hlt2 : (k : Int) < (l.length : Int) := by omega
          have hx1 := List.getElem?_eq_getElem hlt
          have HN := Lib.hid (varsTo_next (d := e) (ns := ([] : List ByteArray)) hlt)
          have hrm : (varsTo e k l []).length + tszN e l[k] ≤ 100000 := room_at hlt (by have := HF1.out.2; unfold sumN at this; simp; omega)
          have HRM := Lib.hid hrm
          clear hrm
          have HTL := Lib.hid (TL.out.below HB.out)
          generalize l[k] = x at *
          obtain ⟨q8, c8, e8, _, hr8⟩ := HTL.out
          cases e8
          obtain ⟨b2, o2, k2, p2, n2, N2, s2, hq2, ha2, ht2⟩ := hr8 k x hx1
          subst hq2
          obtain ⟨q2, l2, c2, hs2⟩ := ht2.spell
          subst hs2
          obtain ⟨x0, x1, x2, x3, x4⟩ := ha2
          have HBa := Lib.hid (below_alloc wr (.cells #[.int .i64 k2, .string p2, .string n2, .int .i64 N2, .slice q2 l2 c2] 24))
          have HC := Lib.hid (rvars_any e _ _ (varsTo e k l []) x _ (ht2.below HBa.out) (HS.out.below HBa.out) HRM.out)
          have hbn := hb_new wr (.cells #[.int .i64 k2, .string p2, .string n2, .int .i64 N2, .slice q2 l2 c2] 24)
          have y0 := hb_at hbn 0 rfl
          have y1 := hb_at hbn 1 rfl
          have y2 := hb_at hbn 2 rfl
          have y3 := hb_at hbn 3 rfl
          have y4 := hb_at hbn 4 rfl
          clear hx1 hr8 ht2 hbn
          generalize varsTo e k l [] = vs at *
          go_wp2_with (go_at_call 20; ((with_reducible refine HC.out.mono ?_); rintro e5 w3 ⟨v3, rfl, hs3, hb⟩))
          have HQ := Lib.hid (HB.out.trans ((HBa.out.trans (hb.mono HBa.out.size)).mono hzr))
          have HS3 := Lib.hid hs3
          go_roundw
          case rel => exact ⟨k + 1, by omega, by go_num, by rw [HN.out]; exact HS3.out, HQ.out⟩
          case measure => simp [intOf]; omega
        · obtain rfl : k = l.length := by omega
          have HE : RowKit.Hid (varsTo e l.length l [] = l.foldl (varsT e) []) := Lib.hid (by unfold varsTo; rw [List.take_length])
          rw [HE.out] at HS ⊢
          obtain ⟨VS0, hVS0⟩ : ∃ V, V = l.foldl (varsT e) [] := ⟨_, rfl⟩
          have HVS0 := Lib.hid hVS0
          have HVL : RowKit.Hid ((l.foldl (varsT e) []).length ≤ 600) := Lib.hid (by
            have h1 := varsL_length e (varsT_length e) l []
            have h2 := HF1.out.2
            unfold sumN at h2
            simp at h1
            omega)
          have HSUM : RowKit.Hid (l.foldl (fun n t => n + tszN e t) 0 ≤ 600) := Lib.hid HF1.out.2
          rw [← HVS0.out] at HS HVL ⊢
          have HVS := HVS0
          clear hVS0 HVS0
          generalize VS0 = VS at *
          clear HE hk
          have HB1 := HB
          have J1 := Lib.hid (hb_below J1.out HB.out (hb_lt J1.out))
          have TL := Lib.hid (TL.out.below HB.out)
          have TT := Lib.hid (TT.out.below HB.out)
          have TN := Lib.hid (TN.out.below HB.out)
          have HBC := Lib.hid (HBC.out.trans ((HB.out).mono HBC.out.size))
          go_upto_region 9 with fail
          go_wp2_with fail
          (with_reducible refine (vars_any e l _ _ TL.out (Nat.le_trans HSUM.out (by omega))).mono ?_)
          rintro e5 w3 ⟨v3, rfl, ho3, hb3⟩
          rw [← HVS.out] at ho3
          have HS := Lib.hid (HS.out.below hb3)
          go_wp2_with fail
          (with_reducible refine (texts_eq _ _ VS w3 (SRow.own rfl ho3) HS.out (Nat.le_trans HVL.out (by omega))).mono ?_)
          rintro e5 w4 ⟨rfl, n4, rfl⟩
          have hb4 : Below wr.heap.size wr (w3.drewN n4) := below_drewN hb3 n4
          have HS := Lib.hid (HS.out.below (below_drewN (Below.refl _ w3) n4))
          clear ho3 hb3
          generalize w3.drewN n4 = w4 at *
          have J1 := Lib.hid (hb_below J1.out hb4 (hb_lt J1.out))
          have TL := Lib.hid (TL.out.below hb4)
          have TT := Lib.hid (TT.out.below hb4)
          have TN := Lib.hid (TN.out.below hb4)
          have HBC := Lib.hid (HBC.out.trans ((hb4).mono HBC.out.size))
          clear hb4
          go_upto_region 11 with fail
          have HSZ := Lib.hid (sz_eq d tt (by have := HF2.out.2; omega))
          go_cut [55] (fun v wx => ∃ r : Bool, v = .bool r ∧ Below w4.heap.size w4 wx ∧ (r = false → l.length ≤ 20 ∧ (l = [] ∨ tszN d tt ≤ 60)))
          case first =>
            have x0 := hb_at J1.out 0 rfl
            have x1 := hb_at J1.out 1 rfl
            have x2 := hb_at J1.out 2 rfl
            have x3 := hb_at J1.out 3 rfl
            have x4 := hb_at J1.out 4 rfl
            go_wp2_with fail
            (with_reducible refine (rsize_any d _ tt _ TT.out).mono ?_)
            rintro e5 w5 ⟨rfl, hb5⟩
            have HB5 := Lib.hid hb5
            clear hb5 x0 x1 x2 x3 x4
            rw [HSZ.out]
            clear HSZ
            generalize tszN d tt = zz at *
            by_cases h60 : (60 : Int) < (zz : Int)
            · by_cases h0 : 0 < l.length
              · go_wp2_with fail
                go_meet
                exact ⟨true, rfl, HB5.out, fun h => by cases h⟩
              · obtain rfl : l = [] := List.eq_nil_of_length_eq_zero (by omega)
                clear h0
                go_wp2_with fail
                go_meet
                exact ⟨false, rfl, HB5.out, fun _ => ⟨by simp, by simp⟩⟩
            · by_cases h20 : (20 : Int) < (l.length : Int)
              · go_wp2_with fail
                go_meet
                exact ⟨true, rfl, HB5.out, fun h => by cases h⟩
              · go_wp2_with fail
                go_meet
                exact ⟨_, rfl, HB5.out, fun _ => ⟨by omega, .inr (by omega)⟩⟩
          case rest =>
            obtain ⟨r, rfl, hb5, hr⟩ := hcut
            have HS := Lib.hid (HS.out.below hb5)
            have J1 := Lib.hid (hb_below J1.out hb5 (hb_lt J1.out))
            have TL := Lib.hid (TL.out.below hb5)
            have TT := Lib.hid (TT.out.below hb5)
            have TN := Lib.hid (TN.out.below hb5)
            have HBC := Lib.hid (HBC.out.trans ((hb5).mono HBC.out.size))
            clear hb5 HSZ
            cases r
            rotate_left
            · go_wp2_with (go_at_call 8; ((with_reducible refine (alive_ok _).mono ?_); rintro e w9 ⟨rfl, hb⟩))
              go_ret
              exact ⟨rfl, HBC.out.trans (hb.mono HBC.out.size)⟩
            · have HL20 := Lib.hid (hr rfl)
              clear hr
              have x0 := hb_at J1.out 0 rfl
              have x1 := hb_at J1.out 1 rfl
              have x2 := hb_at J1.out 2 rfl
              have x3 := hb_at J1.out 3 rfl
              have x4 := hb_at J1.out 4 rfl
              have HC := Lib.hid (substO_any d e tt _ names _ l _ wc TT.out TN.out (by have := H20.out; omega) HNS.out TL.out HF2.out.1 HF1.out.1)
              go_upto_region 14 with (go_at_call 23; ((with_reducible refine HC.out.mono ?_); rintro e5 w6 ⟨v9, rfl, hx9, hb6⟩; obtain ⟨k9, p9, n9, N9, q9, l9, c9, rfl⟩ := hx9.shape; have HX9 := Lib.hid hx9.isT; have HB6 := Lib.hid hb6; clear hx9 hb6))
              clear HC x0 x1 x2 x3 x4
              have HS := Lib.hid (HS.out.below HB6.out)
              have J1 := Lib.hid (hb_below J1.out HB6.out (hb_lt J1.out))
              have TL := Lib.hid (TL.out.below HB6.out)
              have TT := Lib.hid (TT.out.below HB6.out)
              have TN := Lib.hid (TN.out.below HB6.out)
              have HBC := Lib.hid (HBC.out.trans ((HB6.out).mono HBC.out.size))
              have hb7 : Below w6.heap.size w6 (w6.alloc (.cells #[.int .i64 k9, .string p9, .string n9, .int .i64 N9, .slice q9 l9 c9] 24)) := below_alloc _ _
              have HX9 := Lib.hid (HX9.out.below hb7)
              have G9 := Lib.hid (hb_new w6 (.cells #[.int .i64 k9, .string p9, .string n9, .int .i64 N9, .slice q9 l9 c9] 24))
              have HS := Lib.hid (HS.out.below hb7)
              have J1 := Lib.hid (hb_below J1.out hb7 (hb_lt J1.out))
              have TL := Lib.hid (TL.out.below hb7)
              have TT := Lib.hid (TT.out.below hb7)
              have TN := Lib.hid (TN.out.below hb7)
              have HBC := Lib.hid (HBC.out.trans ((hb7).mono HBC.out.size))
              clear hb7 HB6
              generalize (w6.alloc (.cells #[.int .i64 k9, .string p9, .string n9, .int .i64 N9, .slice q9 l9 c9] 24)) = w7 at *
              refine Inv.region (by kernel_rfl) 6 [some 61, some 62, some 63, some 64, some 65, some 66, some 67] [[], [], [], [], [1, 2, 3], [0, 4, 4]] (by kernel_rfl) (by kernel_rfl) (by kernel_rfl) (by kernel_rfl) [Inv.MP.is (tv k9 p9 n9 N9 (.slice q9 l9 c9)), Inv.MP.is (tv k1 p1 n1 N1 (.slice q1 l1 c1)), Inv.MP.is (.slice qn names.length cn), Inv.MP.is (.slice ql l.length cl), Inv.MP.term (e + d) (sub (byOf (fg names names.length) l) d tt), Inv.MP.is (.bool true)] [] (by intro x hx; cases hx) ⟨?_, ?_, ?_, ?_, ?_, ?_, trivial⟩ (fun vs wq hbq hv htie => ?_)
              · intro vs w' hb hv K hK
                clear hv
                have hK2 := hK.out
                clear hK
                simp only [Inv.putD, Inv.dst, List.foldl_cons, List.foldl_nil, List.getD_cons_zero, List.getD_cons_succ, Act.put, List.setIfInBounds_toArray, List.set_cons_zero, List.set_cons_succ] at hK2 ⊢
                have hK := Lib.hid hK2
                clear hK2
                have x0 := hb_at (hb_below G9.out hb (hb_lt G9.out)) 0 rfl
                have x1 := hb_at (hb_below G9.out hb (hb_lt G9.out)) 1 rfl
                have x2 := hb_at (hb_below G9.out hb (hb_lt G9.out)) 2 rfl
                have x3 := hb_at (hb_below G9.out hb (hb_lt G9.out)) 3 rfl
                have x4 := hb_at (hb_below G9.out hb (hb_lt G9.out)) 4 rfl
                simp only [Region.wanted, Inv.yieldedD, Inv.dst, List.getD_cons_zero, List.getD_cons_succ]
                go_simp
                refine hK.out _ _ (Eq.refl _) (Below.refl _ _) (Inv.noTies _ _ _ _ _)
              · intro vs w' hb hv K hK
                clear hv
                have hK2 := hK.out
                clear hK
                simp only [Inv.putD, Inv.dst, List.foldl_cons, List.foldl_nil, List.getD_cons_zero, List.getD_cons_succ, Act.put, List.setIfInBounds_toArray, List.set_cons_zero, List.set_cons_succ] at hK2 ⊢
                have hK := Lib.hid hK2
                clear hK2
                have x0 := hb_at (hb_below J1.out hb (hb_lt J1.out)) 0 rfl
                have x1 := hb_at (hb_below J1.out hb (hb_lt J1.out)) 1 rfl
                have x2 := hb_at (hb_below J1.out hb (hb_lt J1.out)) 2 rfl
                have x3 := hb_at (hb_below J1.out hb (hb_lt J1.out)) 3 rfl
                have x4 := hb_at (hb_below J1.out hb (hb_lt J1.out)) 4 rfl
                simp only [Region.wanted, Inv.yieldedD, Inv.dst, List.getD_cons_zero, List.getD_cons_succ]
                go_simp
                refine hK.out _ _ (Eq.refl _) (Below.refl _ _) (Inv.noTies _ _ _ _ _)
              · intro vs w' hb hv K hK
                clear hv
                have hK2 := hK.out
                clear hK
                simp only [Inv.putD, Inv.dst, List.foldl_cons, List.foldl_nil, List.getD_cons_zero, List.getD_cons_succ, Act.put, List.setIfInBounds_toArray, List.set_cons_zero, List.set_cons_succ] at hK2 ⊢
                have hK := Lib.hid hK2
                clear hK2
                simp only [Region.wanted, Inv.yieldedD, Inv.dst, List.getD_cons_zero, List.getD_cons_succ]
                go_simp
                refine hK.out _ _ (Eq.refl _) (Below.refl _ _) (Inv.noTies _ _ _ _ _)
              · intro vs w' hb hv K hK
                clear hv
                have hK2 := hK.out
                clear hK
                simp only [Inv.putD, Inv.dst, List.foldl_cons, List.foldl_nil, List.getD_cons_zero, List.getD_cons_succ, Act.put, List.setIfInBounds_toArray, List.set_cons_zero, List.set_cons_succ] at hK2 ⊢
                have hK := Lib.hid hK2
                clear hK2
                simp only [Region.wanted, Inv.yieldedD, Inv.dst, List.getD_cons_zero, List.getD_cons_succ]
                go_simp
                refine hK.out _ _ (Eq.refl _) (Below.refl _ _) (Inv.noTies _ _ _ _ _)
              · intro vs w' hb hv K hK
                have h1 : (Inv.MP.is (tv k1 p1 n1 N1 (.slice q1 l1 c1))).p (vs 1) w' := hv 1 (by simp)
                have h2 : (Inv.MP.is (.slice qn names.length cn)).p (vs 2) w' := hv 2 (by simp)
                have h3 : (Inv.MP.is (.slice ql l.length cl)).p (vs 3) w' := hv 3 (by simp)
                clear hv
                have hK2 := hK.out
                clear hK
                simp only [Inv.putD, Inv.dst, List.foldl_cons, List.foldl_nil, List.getD_cons_zero, List.getD_cons_succ, Act.put, List.setIfInBounds_toArray, List.set_cons_zero, List.set_cons_succ] at hK2 ⊢
                have hK := Lib.hid hK2
                clear hK2
                generalize vs 1 = y1 at *
                generalize vs 2 = y2 at *
                generalize vs 3 = y3 at *
                have h1 : y1 = _ := h1
                subst h1
                have h2 : y2 = _ := h2
                subst h2
                have h3 : y3 = _ := h3
                subst h3
                simp only [Region.wanted, Inv.yieldedD, Inv.dst, List.getD_cons_zero, List.getD_cons_succ]
                go_simp
                ((with_reducible refine (rsubst_any names _ l _ e (by have := H20.out; omega) d tt _ w' w'.heap.size (Nat.le_refl _) (TT.out.below hb) (TN.out.below hb) (TL.out.below hb).isX HF2.out.1).mono ?_); rintro e5 w5 ⟨v5, rfl, hx5, hb5⟩)
                go_wp2_with fail
                refine hK.out _ _ hx5.isT hb5 (Inv.noTies _ _ _ _ _)
              · intro vs w' hb hv K hK
                have h0 : (Inv.MP.is (tv k9 p9 n9 N9 (.slice q9 l9 c9))).p (vs 0) w' := hv 0 (by simp)
                have h4 : IsT w' (e + d) (vs 4) (sub (byOf (fg names names.length) l) d tt) := hv 4 (by simp)
                clear hv
                have hK2 := hK.out
                clear hK
                simp only [Inv.putD, Inv.dst, List.foldl_cons, List.foldl_nil, List.getD_cons_zero, List.getD_cons_succ, Act.put, List.setIfInBounds_toArray, List.set_cons_zero, List.set_cons_succ] at hK2 ⊢
                have hK := Lib.hid hK2
                clear hK2
                generalize vs 0 = y0 at *
                generalize vs 4 = y4 at *
                have h0 : y0 = _ := h0
                subst h0
                simp only [Region.wanted, Inv.yieldedD, Inv.dst, List.getD_cons_zero, List.getD_cons_succ]
                go_simp
                ((with_reducible refine (refSame_any (e + d) _ _ _ _ w' (HX9.out.below hb) (h4)).mono ?_); rintro e5 w5 ⟨rfl, hb5⟩)
                go_wp2_with fail
                refine hK.out _ _ (show Value.bool _ = Value.bool true from congrArg Value.bool (same_self _)) hb5 (Inv.noTies _ _ _ _ _)
              · have hl : vs 5 = .bool true := hv 5 (by omega)
                clear hv htie
                simp only [List.range, List.range.loop, Inv.putD, Inv.dst, List.foldl_cons, List.foldl_nil, List.getD_cons_zero, List.getD_cons_succ, Act.put, List.setIfInBounds_toArray, List.set_cons_zero, List.set_cons_succ]
                simp only [List.drop_succ_cons, List.drop_zero]
                generalize vs 0 = yy0 at *
                generalize vs 1 = yy1 at *
                generalize vs 2 = yy2 at *
                generalize vs 3 = yy3 at *
                generalize vs 4 = yy4 at *
                generalize vs 5 = yy5 at *
                subst hl
                have J1 := Lib.hid (hb_below J1.out hbq (hb_lt J1.out))
                have TL := Lib.hid (TL.out.below hbq)
                have TT := Lib.hid (TT.out.below hbq)
                have TN := Lib.hid (TN.out.below hbq)
                have HBC := Lib.hid (HBC.out.trans ((hbq).mono HBC.out.size))
                have HS := Lib.hid (HS.out.below hbq)
                have G9 := Lib.hid (hb_below G9.out hbq (hb_lt G9.out))
                have HX9 := Lib.hid (HX9.out.below hbq)
                clear hbq
                have x0 := hb_at J1.out 0 rfl
                have x1 := hb_at J1.out 1 rfl
                have x2 := hb_at J1.out 2 rfl
                have x3 := hb_at J1.out 3 rfl
                have x4 := hb_at J1.out 4 rfl
                have HC := Lib.hid (rvars_any d (.slice none 0 0) _ [] tt wq TT.out (SRow.nil _) (by have := HF2.out.2; simp; omega))
                go_upto_region 17 with (go_at_call 20; ((with_reducible refine HC.out.mono ?_); rintro e5 w8 ⟨v8, rfl, hs8, hb8⟩; have HOWN := Lib.hid hs8; obtain ⟨q8, c8, rfl, _⟩ := hs8; have HB8 := Lib.hid hb8; clear hb8))
                clear HC x0 x1 x2 x3 x4
                have J1 := Lib.hid (hb_below J1.out HB8.out (hb_lt J1.out))
                have TL := Lib.hid (TL.out.below HB8.out)
                have TT := Lib.hid (TT.out.below HB8.out)
                have TN := Lib.hid (TN.out.below HB8.out)
                have HBC := Lib.hid (HBC.out.trans ((HB8.out).mono HBC.out.size))
                have HS := Lib.hid (HS.out.below HB8.out)
                have G9 := Lib.hid (hb_below G9.out HB8.out (hb_lt G9.out))
                have HX9 := Lib.hid (HX9.out.below HB8.out)
                clear HB8
                have x0 := hb_at G9.out 0 rfl
                have x1 := hb_at G9.out 1 rfl
                have x2 := hb_at G9.out 2 rfl
                have x3 := hb_at G9.out 3 rfl
                have x4 := hb_at G9.out 4 rfl
                have hb9 : Below w8.heap.size w8 (w8.alloc (.cells #[.int .i64 k9, .string p9, .string n9, .int .i64 N9, .slice q9 l9 c9] 24)) := below_alloc _ _
                have HSM : RowKit.Hid (tszN (e + d) (sub (byOf (fg names names.length) l) d tt) ≤ 100000) := Lib.hid (by
                  have h2 := HF2.out.2
                  rcases HL20.out.2 with h0 | h60
                  · subst h0
                    have h1 := tszN_sub (K := 1) (Nat.le_refl _) (σ := byOf (fg names names.length) []) (fun n y hy => by have := byOf_mem hy; cases this) DT.out (e + d)
                    omega
                  · have h1 := tszN_sub (K := 600) (by omega) (σ := byOf (fg names names.length) l) (fun n y hy D => Nat.le_trans (tszN_le (DL.out y (byOf_mem hy)) D) (Nat.le_trans (mem_fold (f := tszN e) (byOf_mem hy)) HSUM.out)) DT.out (e + d)
                    have := Nat.mul_le_mul_left 600 h60
                    omega)
                have HNEW : RowKit.Hid (∀ v ∈ varsT (e + d) [] (sub (byOf (fg names names.length) l) d tt), inN v (varsT d [] tt) = true ∨ inN v VS = true) := Lib.hid (fun v hv => by
                  rw [HVS.out]
                  exact vars_new DT.out DL.out hv)
                have HOL : RowKit.Hid ((varsT d [] tt).length ≤ 600) := Lib.hid (by have h1 := varsT_length d [] tt; have h2 := HF2.out.2; simp at h1; omega)
                have HCV := Lib.hid (vars_any (e + d) [(sub (byOf (fg names names.length) l) d tt)] _ _ (KidsT.one (hb_new w8 (.cells #[.int .i64 k9, .string p9, .string n9, .int .i64 N9, .slice q9 l9 c9] 24)) (HX9.out.below hb9)) (by have := HSM.out; simpa using this))
                generalize hsub : (sub (byOf (fg names names.length) l) d tt) = ts at *
                have HLV : RowKit.Hid ((varsT (e + d) [] ts).length ≤ 100000) := Lib.hid (by have h1 := varsT_length (e + d) [] ts; have h2 := HSM.out; simp at h1; omega)
                have HB9 := Lib.hid hb9
                clear hb9
                go_wp2_with (go_at_call 22; ((with_reducible refine HCV.out.mono ?_); rintro e5 w9 ⟨v9, rfl, ho9, hb9⟩; have HR9 : RowKit.Hid (SRow w9 v9 (varsT (e + d) [] ts)) := Lib.hid (SRow.own rfl ho9); obtain ⟨qv9, cv9, rfl, _⟩ := HR9.out; have HB9b := Lib.hid (HB9.out.trans (hb9.mono HB9.out.size)); clear ho9 hb9))
                clear HCV x0 x1 x2 x3 x4
                have HOWN := Lib.hid (HOWN.out.below HB9b.out)
                have J1 := Lib.hid (hb_below J1.out HB9b.out (hb_lt J1.out))
                have TL := Lib.hid (TL.out.below HB9b.out)
                have TT := Lib.hid (TT.out.below HB9b.out)
                have TN := Lib.hid (TN.out.below HB9b.out)
                have HBC := Lib.hid (HBC.out.trans ((HB9b.out).mono HBC.out.size))
                have HS := Lib.hid (HS.out.below HB9b.out)
                have G9 := Lib.hid (hb_below G9.out HB9b.out (hb_lt G9.out))
                have HX9 := Lib.hid (HX9.out.below HB9b.out)
                clear HB9b HB9 HSM
                generalize hvv : varsT (e + d) [] ts = vv at *
                generalize hoo : varsT d [] tt = oo at *
                go_loop [74] (fun i => ∃ k : Nat, k ≤ vv.length ∧ i = .int .i64 k) (fun i => vv.length - (intOf i).toNat)
                case atStart => exact ⟨0, Nat.zero_le _, rfl⟩
                case round =>
                  obtain ⟨k, hk, rfl⟩ := hrel
                  by_cases hlt : k < vv.length
                  · have hlt2 : (k : Int) < (vv.length : Int) := by omega
                    have hvl := HLV.out
                    have hx1 := List.getElem?_eq_getElem hlt
                    have hnew := HNEW.out vv[k] (List.getElem_mem hlt)
                    generalize vv[k] = x at *
                    obtain ⟨q10, c10, e10, hr10⟩ := HR9.out
                    cases e10
                    obtain ⟨g10, rfl, hc10⟩ := hr10 k x hx1
                    have HC1 := Lib.hid (in_any x _ oo w9 HOWN.out (Nat.le_trans HOL.out (by omega)))
                    have HC2 := Lib.hid (in_any x _ VS w9 HS.out (Nat.le_trans HVL.out (by omega)))
                    clear hx1 hr10
                    generalize inN x oo = r1 at *
                    generalize inN x VS = r2 at *
                    cases r1
                    · obtain rfl : r2 = true := by simpa using hnew
                      clear hnew
                      go_wp2_with (first | (go_at_call 25; ((with_reducible refine HC1.out.mono ?_); rintro e5 w5 ⟨rfl, rfl⟩)) | (go_at_call 25; ((with_reducible refine HC2.out.mono ?_); rintro e5 w5 ⟨rfl, rfl⟩)))
                      go_round
                      case rel => exact ⟨k + 1, by omega, by go_num⟩
                      case measure => simp [intOf]; omega
                    · clear hnew
                      go_wp2_with (go_at_call 25; ((with_reducible refine HC1.out.mono ?_); rintro e5 w5 ⟨rfl, rfl⟩))
                      go_round
                      case rel => exact ⟨k + 1, by omega, by go_num⟩
                      case measure => simp [intOf]; omega
                  · obtain rfl : k = vv.length := by omega
                    go_upto_region 23 with fail
                    refine Inv.region (by kernel_rfl) 8 [some 89, some 90, some 91, some 92, some 93, some 94, some 95, some 96, some 6] [[], [], [0, 1], [], [2, 3, 2], [4, 4], [5, 5], [5, 6]] (by kernel_rfl) (by kernel_rfl) (by kernel_rfl) (by kernel_rfl) [Inv.MP.is (tv k1 p1 n1 N1 (.slice q1 l1 c1)), Inv.MP.is (.slice ql l.length cl), Inv.MP.term (e + d) tt, Inv.MP.is (tv k1 p1 n1 N1 (.slice q1 l1 c1)), Inv.MP.is (.bool true), Inv.MP.is (.bool true), Inv.MP.is (.bool true), Inv.MP.is (.bool true)] [] (by intro x hx; cases hx) ⟨?_, ?_, ?_, ?_, ?_, ?_, ?_, ?_, trivial⟩ (fun vs wq hbq hv htie => ?_)
                    · intro vs w' hb hv K hK
                      clear hv
                      have hK2 := hK.out
                      clear hK
                      simp only [Inv.putD, Inv.dst, List.foldl_cons, List.foldl_nil, List.getD_cons_zero, List.getD_cons_succ, Act.put, List.setIfInBounds_toArray, List.set_cons_zero, List.set_cons_succ] at hK2 ⊢
                      have hK := Lib.hid hK2
                      clear hK2
                      have x0 := hb_at (hb_below J1.out hb (hb_lt J1.out)) 0 rfl
                      have x1 := hb_at (hb_below J1.out hb (hb_lt J1.out)) 1 rfl
                      have x2 := hb_at (hb_below J1.out hb (hb_lt J1.out)) 2 rfl
                      have x3 := hb_at (hb_below J1.out hb (hb_lt J1.out)) 3 rfl
                      have x4 := hb_at (hb_below J1.out hb (hb_lt J1.out)) 4 rfl
                      simp only [Region.wanted, Inv.yieldedD, Inv.dst, List.getD_cons_zero, List.getD_cons_succ]
                      go_simp
                      refine hK.out _ _ (Eq.refl _) (Below.refl _ _) (Inv.noTies _ _ _ _ _)
                    · intro vs w' hb hv K hK
                      clear hv
                      have hK2 := hK.out
                      clear hK
                      simp only [Inv.putD, Inv.dst, List.foldl_cons, List.foldl_nil, List.getD_cons_zero, List.getD_cons_succ, Act.put, List.setIfInBounds_toArray, List.set_cons_zero, List.set_cons_succ] at hK2 ⊢
                      have hK := Lib.hid hK2
                      clear hK2
                      simp only [Region.wanted, Inv.yieldedD, Inv.dst, List.getD_cons_zero, List.getD_cons_succ]
                      go_simp
                      refine hK.out _ _ (Eq.refl _) (Below.refl _ _) (Inv.noTies _ _ _ _ _)
                    · intro vs w' hb hv K hK
                      have h0 : (Inv.MP.is (tv k1 p1 n1 N1 (.slice q1 l1 c1))).p (vs 0) w' := hv 0 (by simp)
                      have h1 : (Inv.MP.is (.slice ql l.length cl)).p (vs 1) w' := hv 1 (by simp)
                      clear hv
                      have hK2 := hK.out
                      clear hK
                      simp only [Inv.putD, Inv.dst, List.foldl_cons, List.foldl_nil, List.getD_cons_zero, List.getD_cons_succ, Act.put, List.setIfInBounds_toArray, List.set_cons_zero, List.set_cons_succ] at hK2 ⊢
                      have hK := Lib.hid hK2
                      clear hK2
                      generalize vs 0 = y0 at *
                      generalize vs 1 = y1 at *
                      have h0 : y0 = _ := h0
                      subst h0
                      have h1 : y1 = _ := h1
                      subst h1
                      simp only [Region.wanted, Inv.yieldedD, Inv.dst, List.getD_cons_zero, List.getD_cons_succ]
                      go_simp
                      ((with_reducible refine (substO_any d e tt _ [] _ l _ w' (TT.out.below hb) (SRowO.nil _) (by simp) (by simp) (TL.out.below hb) HF2.out.1 HF1.out.1).mono ?_); rintro e5 w5 ⟨v5, rfl, hx5, hb5⟩)
                      rw [sub_none (fun n => by unfold byOf; rfl)] at hx5
                      go_wp2_with fail
                      refine hK.out _ _ hx5.isT hb5 (Inv.noTies _ _ _ _ _)
                    · intro vs w' hb hv K hK
                      clear hv
                      have hK2 := hK.out
                      clear hK
                      simp only [Inv.putD, Inv.dst, List.foldl_cons, List.foldl_nil, List.getD_cons_zero, List.getD_cons_succ, Act.put, List.setIfInBounds_toArray, List.set_cons_zero, List.set_cons_succ] at hK2 ⊢
                      have hK := Lib.hid hK2
                      clear hK2
                      have x0 := hb_at (hb_below J1.out hb (hb_lt J1.out)) 0 rfl
                      have x1 := hb_at (hb_below J1.out hb (hb_lt J1.out)) 1 rfl
                      have x2 := hb_at (hb_below J1.out hb (hb_lt J1.out)) 2 rfl
                      have x3 := hb_at (hb_below J1.out hb (hb_lt J1.out)) 3 rfl
                      have x4 := hb_at (hb_below J1.out hb (hb_lt J1.out)) 4 rfl
                      simp only [Region.wanted, Inv.yieldedD, Inv.dst, List.getD_cons_zero, List.getD_cons_succ]
                      go_simp
                      refine hK.out _ _ (Eq.refl _) (Below.refl _ _) (Inv.noTies _ _ _ _ _)
                    · intro vs w' hb hv K hK
                      have h2 : IsT w' (e + d) (vs 2) tt := hv 2 (by simp)
                      have h3 : (Inv.MP.is (tv k1 p1 n1 N1 (.slice q1 l1 c1))).p (vs 3) w' := hv 3 (by simp)
                      clear hv
                      have hK2 := hK.out
                      clear hK
                      simp only [Inv.putD, Inv.dst, List.foldl_cons, List.foldl_nil, List.getD_cons_zero, List.getD_cons_succ, Act.put, List.setIfInBounds_toArray, List.set_cons_zero, List.set_cons_succ] at hK2 ⊢
                      have hK := Lib.hid hK2
                      clear hK2
                      generalize vs 2 = y2 at *
                      generalize vs 3 = y3 at *
                      have h3 : y3 = _ := h3
                      subst h3
                      simp only [Region.wanted, Inv.yieldedD, Inv.dst, List.getD_cons_zero, List.getD_cons_succ]
                      go_simp
                      ((with_reducible refine (refSame_any (e + d) _ _ _ _ w' (h2) (IsT.more (by omega) (TT.out.below hb))).mono ?_); rintro e5 w5 ⟨rfl, hb5⟩)
                      go_wp2_with fail
                      refine hK.out _ _ (show Value.bool _ = Value.bool true from congrArg Value.bool (same_self _)) hb5 (Inv.noTies _ _ _ _ _)
                    · intro vs w' hb hv K hK
                      have h4 : (Inv.MP.is (.bool true)).p (vs 4) w' := hv 4 (by simp)
                      clear hv
                      have hK2 := hK.out
                      clear hK
                      simp only [Inv.putD, Inv.dst, List.foldl_cons, List.foldl_nil, List.getD_cons_zero, List.getD_cons_succ, Act.put, List.setIfInBounds_toArray, List.set_cons_zero, List.set_cons_succ] at hK2 ⊢
                      have hK := Lib.hid hK2
                      clear hK2
                      generalize vs 4 = y4 at *
                      have h4 : y4 = _ := h4
                      subst h4
                      simp only [Region.wanted, Inv.yieldedD, Inv.dst, List.getD_cons_zero, List.getD_cons_succ]
                      go_simp
                      refine hK.out _ _ (Eq.refl _) (Below.refl _ _) (Inv.noTies _ _ _ _ _)
                    · intro vs w' hb hv K hK
                      have h5 : (Inv.MP.is (.bool true)).p (vs 5) w' := hv 5 (by simp)
                      clear hv
                      have hK2 := hK.out
                      clear hK
                      simp only [Inv.putD, Inv.dst, List.foldl_cons, List.foldl_nil, List.getD_cons_zero, List.getD_cons_succ, Act.put, List.setIfInBounds_toArray, List.set_cons_zero, List.set_cons_succ] at hK2 ⊢
                      have hK := Lib.hid hK2
                      clear hK2
                      generalize vs 5 = y5 at *
                      have h5 : y5 = _ := h5
                      subst h5
                      simp only [Region.wanted, Inv.yieldedD, Inv.dst, List.getD_cons_zero, List.getD_cons_succ]
                      go_simp
                      ((with_reducible refine (alive_ok _).mono ?_); rintro e5 w5 ⟨rfl, hb5⟩)
                      go_wp2_with fail
                      refine hK.out _ _ (Eq.refl _) hb5 (Inv.noTies _ _ _ _ _)
                    · intro vs w' hb hv K hK
                      have h5 : (Inv.MP.is (.bool true)).p (vs 5) w' := hv 5 (by simp)
                      have h6 : (Inv.MP.is (.bool true)).p (vs 6) w' := hv 6 (by simp)
                      clear hv
                      have hK2 := hK.out
                      clear hK
                      simp only [Inv.putD, Inv.dst, List.foldl_cons, List.foldl_nil, List.getD_cons_zero, List.getD_cons_succ, Act.put, List.setIfInBounds_toArray, List.set_cons_zero, List.set_cons_succ] at hK2 ⊢
                      have hK := Lib.hid hK2
                      clear hK2
                      generalize vs 5 = y5 at *
                      generalize vs 6 = y6 at *
                      have h5 : y5 = _ := h5
                      subst h5
                      have h6 : y6 = _ := h6
                      subst h6
                      simp only [Region.wanted, Inv.yieldedD, Inv.dst, List.getD_cons_zero, List.getD_cons_succ]
                      go_simp
                      refine hK.out _ _ (Eq.refl _) (Below.refl _ _) (Inv.noTies _ _ _ _ _)
                    · have hl : vs 7 = .bool true := hv 7 (by omega)
                      clear hv htie
                      simp only [List.range, List.range.loop, Inv.putD, Inv.dst, List.foldl_cons, List.foldl_nil, List.getD_cons_zero, List.getD_cons_succ, Act.put, List.setIfInBounds_toArray, List.set_cons_zero, List.set_cons_succ]
                      simp only [List.drop_succ_cons, List.drop_zero]
                      generalize vs 0 = yy0 at *
                      generalize vs 1 = yy1 at *
                      generalize vs 2 = yy2 at *
                      generalize vs 3 = yy3 at *
                      generalize vs 4 = yy4 at *
                      generalize vs 5 = yy5 at *
                      generalize vs 6 = yy6 at *
                      generalize vs 7 = yy7 at *
                      subst hl
                      go_wp2
                      go_ret
                      exact ⟨rfl, HBC.out.trans (hbq.mono HBC.out.size)⟩
end Go.Proofs.YthcpmdgdbceeiaaGreatDoor
