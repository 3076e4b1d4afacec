/- Texts in a row: Mo Th Mp. -/
import Derived.Test.YtncebhddcokkoaaDoorZH29
import Derived.Test.YtncebhddcokkoaaDoorZH1
import Derived.ProofKit
import Derived.LaidMore
import Derived.OpenShut
import Derived.ShutString
import Derived.ChangeOld
import Derived.ChangeSlices
import Derived.Lib.SmallJoins
import Derived.Stop.Joined
/- UnifyHolds, walked. -/
namespace Go.Proofs.YtncebhddcokkoaaDoor
open Go.RowKit Go.Maps
set_option linter.unusedSimpArgs false
set_option linter.unusedVariables false
theorem sm_cnt : ∀ (D : Nat) (t : Tm), cnt2 t ≤ 100000 → Sm D t := by
  intro D
  induction D with
  | zero => intro t _; trivial
  | succ D ih =>
    intro t h
    obtain ⟨k, p, n, N, l⟩ := t
    rw [cnt2_eq] at h
    have key : ∀ (m : List Tm), m.length ≤ (m.map cnt2).sum ∧ ∀ x ∈ m, cnt2 x ≤ (m.map cnt2).sum := by
      intro m
      induction m with
      | nil => exact ⟨Nat.le_refl _, fun x hx => by cases hx⟩
      | cons y m ihm =>
        have := cnt2_pos y
        refine ⟨by simp; omega, fun x hx => ?_⟩
        simp only [List.map_cons, List.sum_cons]
        rcases List.mem_cons.1 hx with rfl | hx
        · omega
        · have := ihm.2 x hx; omega
    exact ⟨by have := (key l).1; omega, fun x hx => ih x (by have := (key l).2 x hx; omega)⟩
theorem eqAt_dp {w : World} {d : Nat} {v : Value} {E : List (Tm × Tm)} (h : EqAt w d v E) : ∀ x ∈ E, Dp d x.1 ∧ Dp d x.2 := by
  intro x hx
  obtain ⟨q, c, _, h⟩ := h
  obtain ⟨i, hi⟩ := List.getElem?_of_mem hx
  obtain ⟨g, o, k, p, n, N, s, k', p', n', N', s', _, ⟨_, h1⟩, _, h2⟩ := h i x hi
  exact ⟨h1.dp, h2.dp⟩
set_option maxRecDepth 100000 in
set_option maxHeartbeats 4000000 in
theorem holds_walk (w : World) (d : Nat) (v : Value) (E : List (Tm × Tm)) (hE : EqAt w d v E) (hlen : E.length ≤ 9223372036854775807) :
    Calls Tryd.prog 4 #[v] w (fun e w' => e = .returned (.bool true) ∧ Below w.heap.size w w') := by
  have HEQ := Lib.hid (eqsA_any w d v E hE hlen)
  have HE := Lib.hid hE
  obtain ⟨qe, ce, rfl, _⟩ := hE
  go_enter Tryd.func4, Tryd.ntmps4
  go_upto_region 1 with (fail)
  go_wp2_with fail
  go_at_call 10
  with_reducible refine HEQ.out.mono ?_
  rintro e w1 ⟨r, rfl, hr, hb⟩
  have HR := Lib.hid hr
  have HB1 := Lib.hid hb
  clear hr hb HEQ
  cases r
  · go_wp2_with (go_at_call 11; ((with_reducible refine (alive13_any _).mono ?_); rintro e w4 ⟨rfl, hb⟩))
    go_ret
    exact ⟨rfl, HB1.out.trans (hb.mono HB1.out.size)⟩
  obtain ⟨hl20, hTS, htot⟩ := HR.out rfl
  have HT := Lib.hid (fun x hx => (⟨(hTS x hx).1.1, (hTS x hx).2.1⟩ : Typ x.1 ∧ Typ x.2))
  have HSM := Lib.hid (fun x hx => (⟨(hTS x hx).1.2, (hTS x hx).2.2⟩ : Sm d x.1 ∧ Sm d x.2))
  have HTOT := Lib.hid htot
  have HSV := Lib.hid (solve_any w1 d _ E (HE.out.below HB1.out) HT.out (by omega) (by omega))
  clear HR hTS htot hlen
  generalize hL : E.length = L at *
  have HL := Lib.hid hL
  clear hL
  go_upto_region 4 with (go_at_call 12; (with_reducible refine HSV.out.mono ?_); rintro e w2 ⟨hb, ⟨rfl, hno⟩ | ⟨σ, hB, ⟨vs, rfl, hall, hv⟩ | ⟨rfl, hbig⟩⟩⟩)
  · have HB2 := Lib.hid (HB1.out.trans (hb.mono HB1.out.size))
    clear hb hno
    go_wp2_with (first
      | (go_at_call 15; (with_reducible refine (no13_any _ _).mono ?_); rintro e w3 ⟨rfl, hb3⟩; have HB2 := Lib.hid (HB2.out.trans (hb3.mono HB2.out.size)); clear hb3)
      | (go_at_call 11; (with_reducible refine (alive13_any _).mono ?_); rintro e w4 ⟨rfl, hb4⟩; have HB2 := Lib.hid (HB2.out.trans (hb4.mono HB2.out.size)); clear hb4))
    go_ret
    exact ⟨rfl, HB2.out⟩
  · have HB2 := Lib.hid (HB1.out.trans (hb.mono HB1.out.size))
    have hnl : (nmsE d E).length ≤ 60 := by
      have h := varsL_length d (varsT_length d) (two E) []
      have e : (two E).foldl (fun n t => n + tszN d t) 0 = tot d E := rfl
      rw [e] at h
      have h2 := HTOT.out
      show ((two E).foldl (varsT d) []).length ≤ 60
      simp at h
      omega
    have HBEST := Lib.hid hB
    have HALL := Lib.hid hall
    obtain ⟨qv, cv, rfl, _, hvx⟩ := hv
    have HVX := Lib.hid hvx
    rw [List.length_map]
    clear hb hB hall hvx
    generalize hNS : nmsE d E = NS at *
    have HNS := Lib.hid hNS
    clear hNS
    generalize hm : NS.length = m at *
    have HM := Lib.hid hm
    clear hm
    go_upto_region 9 with (go_at_call 15; (with_reducible refine (no13_any _ _).mono ?_); rintro e w3 ⟨rfl, hb3⟩; have HB2 := Lib.hid (HB2.out.trans (hb3.mono HB2.out.size)); have HVX := Lib.hid (fun i x hx => HVX.out i x hx); have HB3 := Lib.hid hb3; clear hb3)
    go_wp2
    go_loopw [5, 6, 7, 31] (fun nv bv sv i wr => ∃ j : Nat, j ≤ m ∧ i = .int .i64 j ∧ (∃ N : Int, sv = .int .i64 N) ∧ Ls w3 wr 1000 (NS.take j) ((NS.take j).map σ) nv bv) (fun _ _ _ i _ => m - (intOf i).toNat)
    case atStart => exact ⟨0, Nat.zero_le _, rfl, ⟨0, rfl⟩, by simpa using Ls.start w3 1000⟩
    case round =>
      obtain ⟨j, hj, rfl, ⟨N, rfl⟩, hLs⟩ := hrel
      have HLS := Lib.hid hLs
      have hjl : (NS.take j).length = j := by rw [List.length_take, HM.out]; omega
      have hjl2 : ((NS.take j).map σ).length = j := by rw [List.length_map]; exact hjl
      obtain ⟨⟨qn, cn, hnv⟩, qb, cb, hbv⟩ := hLs.shapes
      rw [hjl] at hnv
      rw [hjl2] at hbv
      subst hnv
      subst hbv
      have HJL := Lib.hid hjl
      have HJL2 := Lib.hid hjl2
      have hbel := hLs.bel
      clear hLs hjl hjl2
      by_cases hlt : (j : Int) < (m : Int)
      · have hx : NS[j]? = some (NS[j]'(by have := HM.out; omega)) := List.getElem?_eq_getElem (by have := HM.out; omega)
        generalize (NS[j]'(by have := HM.out; omega)) = nm at hx
        have hxm : (NS.map fun n => (n, σ n))[j]? = some (nm, σ nm) := by rw [List.getElem?_map, hx]; rfl
        obtain ⟨g, k, p, n, Nn, s, e1, e2, e3, e4, e5⟩ := HVX.out j _ hxm
        subst e1
        obtain ⟨q, ln, c, rfl⟩ := e5.spell
        have E5 := Lib.hid (e5.below HB3.out)
        have Z := Lib.hid (⟨keep_cell HB3.out e2, e4.below HB3.out e4.lt⟩ : w3.cell? ⟨g, j * 6, none⟩ = some (.string nm) ∧ TAt w3 g (j * 6 + 1) k p n Nn (.slice q ln c))
        have HNX := Lib.hid (show NS.take (j + 1) = NS.take j ++ [nm] by rw [List.take_add_one, hx]; rfl)
        obtain ⟨v1, W1, hr1, hL1, _⟩ := (HLS.out.step (below_alloc wr (.cells #[.string nm] 9))).name (by rw [HJL.out]; omega) (hb_new wr (.cells #[.string nm] 9))
        obtain ⟨⟨q1, c1, rfl⟩, _⟩ := hL1.shapes
        obtain ⟨v2, W2, hr2, hL2, _⟩ := (hL1.step (below_alloc W1 (.cells #[.int .i64 k, .string p, .string n, .int .i64 Nn, .slice q ln c] 36))).term (by rw [HJL2.out]; omega) (hb_new W1 (.cells #[.int .i64 k, .string p, .string n, .int .i64 Nn, .slice q ln c] 36)) E5.out
        obtain ⟨_, q2, c2, rfl⟩ := hL2.shapes
        have hk1 : (NS.take j ++ [nm]).length = j + 1 := by rw [List.length_append, HJL.out]; rfl
        have hk2 : ((NS.take j).map σ ++ [σ nm]).length = j + 1 := by rw [List.length_append, HJL2.out]; rfl
        rw [hk1] at hr1 hL1 hL2
        rw [hk2] at hr2 hL2
        have z0 : wr.cell? ⟨g, j * 6, none⟩ = some (.string nm) := keep_cell hbel Z.out.1
        have z1 : wr.cell? ⟨g, j * 6 + 1, none⟩ = some (.int .i64 k) := keep_cell hbel Z.out.2.1
        have z2 : wr.cell? ⟨g, j * 6 + 2, none⟩ = some (.string p) := keep_cell hbel Z.out.2.2.1
        have z3 : wr.cell? ⟨g, j * 6 + 3, none⟩ = some (.string n) := keep_cell hbel Z.out.2.2.2.1
        have z4 : wr.cell? ⟨g, j * 6 + 4, none⟩ = some (.int .i64 Nn) := keep_cell hbel Z.out.2.2.2.2.1
        have z5 : wr.cell? ⟨g, j * 6 + 5, none⟩ = some (.slice q ln c) := keep_cell hbel Z.out.2.2.2.2.2
        have y0 : W1.cell? ⟨g, j * 6, none⟩ = some (.string nm) := keep_cell hL1.bel Z.out.1
        have y1 : W1.cell? ⟨g, j * 6 + 1, none⟩ = some (.int .i64 k) := keep_cell hL1.bel Z.out.2.1
        have y2 : W1.cell? ⟨g, j * 6 + 2, none⟩ = some (.string p) := keep_cell hL1.bel Z.out.2.2.1
        have y3 : W1.cell? ⟨g, j * 6 + 3, none⟩ = some (.string n) := keep_cell hL1.bel Z.out.2.2.2.1
        have y4 : W1.cell? ⟨g, j * 6 + 4, none⟩ = some (.int .i64 Nn) := keep_cell hL1.bel Z.out.2.2.2.2.1
        have y5 : W1.cell? ⟨g, j * 6 + 5, none⟩ = some (.slice q ln c) := keep_cell hL1.bel Z.out.2.2.2.2.2
        have x0 : W2.cell? ⟨g, j * 6, none⟩ = some (.string nm) := keep_cell hL2.bel Z.out.1
        have x1 : W2.cell? ⟨g, j * 6 + 1, none⟩ = some (.int .i64 k) := keep_cell hL2.bel Z.out.2.1
        have x2 : W2.cell? ⟨g, j * 6 + 2, none⟩ = some (.string p) := keep_cell hL2.bel Z.out.2.2.1
        have x3 : W2.cell? ⟨g, j * 6 + 3, none⟩ = some (.string n) := keep_cell hL2.bel Z.out.2.2.2.1
        have x4 : W2.cell? ⟨g, j * 6 + 4, none⟩ = some (.int .i64 Nn) := keep_cell hL2.bel Z.out.2.2.2.2.1
        have x5 : W2.cell? ⟨g, j * 6 + 5, none⟩ = some (.slice q ln c) := keep_cell hL2.bel Z.out.2.2.2.2.2
        have HR1 := Lib.hid hr1
        have HR2 := Lib.hid hr2
        have HL2 := Lib.hid hL2
        have HSZ := Lib.hid (rsize_any 1000 _ (σ nm) W2 (E5.out.below hL2.bel))
        clear hx hxm e2 e3 e4 e5 hr1 hr2 hL1 hL2 hk1 hk2 hbel
        go_wp2_with ((at_builtin; refine (fun h : True → _ => h trivial) ?_))
        intro _
        refine wpList_app rfl _ _ rfl rfl rfl rfl HR1.out ?_
        go_wp2_with ((at_builtin; refine (fun h : True → _ => h trivial) ?_))
        intro _
        refine wpList_app rfl _ _ rfl rfl rfl rfl HR2.out ?_
        go_wp2_with (go_at_call 16; (with_reducible refine HSZ.out.mono ?_); rintro e w6 ⟨rfl, hb6⟩; have HB6 := Lib.hid hb6; clear hb6)
        exact ⟨⟨j + 1, by omega, by simp, ⟨_, rfl⟩, by rw [HNX.out, List.map_append]; exact HL2.out.step HB6.out⟩, by simp [intOf]; omega⟩
      · obtain rfl : j = m := by omega
        have htk : NS.take j = NS := List.take_of_length_le (by rw [HM.out]; exact Nat.le_refl _)
        have HLF := Lib.hid (show Ls w3 wr 1000 NS (NS.map σ) _ _ by have h := HLS.out; rw [htk] at h; exact h)
        have HB3R := Lib.hid hbel
        have HBR := Lib.hid (HB2.out.trans (hbel.mono HB2.out.size))
        clear hbel
        by_cases hN : 4000 < N
        · go_wp2_with (go_at_call 11; ((with_reducible refine (alive13_any _).mono ?_); rintro e w4 ⟨rfl, hb⟩))
          go_ret
          exact ⟨rfl, (HB2.out.trans (HB3R.out.mono HB2.out.size)).trans (hb.mono (HB2.out.trans (HB3R.out.mono HB2.out.size)).size)⟩
        · have HNA := Lib.hid HLF.out.names
          have HBY := Lib.hid (HLF.out.terms (by rw [List.length_map, HM.out]; omega))
          clear HLS HVX
          go_wp2
          generalize wr = W9 at *
          go_loopw [64] (fun t wr => ∃ i : Nat, i ≤ L ∧ t = .int .i64 i ∧ Below W9.heap.size W9 wr) (fun t _ => L - (intOf t).toNat)
          case atStart => exact ⟨0, Nat.zero_le _, rfl, Below.refl _ _⟩
          case round =>
            obtain ⟨i, hi, rfl, hb9⟩ := hrel
            have HB9 := Lib.hid hb9
            by_cases hlt2 : (i : Int) < (L : Int)
            · have hx : E[i]? = some (E[i]'(by have := HL.out; omega)) := List.getElem?_eq_getElem (by have := HL.out; omega)
              generalize (E[i]'(by have := HL.out; omega)) = x at hx
              have HEi := HE.out
              obtain ⟨qe', ce', eqe, hqe⟩ := HEi
              injection eqe with eq1 eq2 eq3; clear eq2 eq3
              subst eq1
              obtain ⟨g, o, k, p, n, I, s, k', p', n', I', s', rfl, ⟨ta, hi1⟩, tb, hi2⟩ := hqe i x hx
              obtain ⟨q, ln, cc, rfl⟩ := hi1.spell
              obtain ⟨q', ln', cc', rfl⟩ := hi2.spell
              have HI1 := Lib.hid hi1
              have HI2 := Lib.hid hi2
              have HSMX := Lib.hid (HSM.out x (List.mem_of_getElem? hx))
              have hbw := HBR.out.trans (hb9.mono HBR.out.size)
              obtain ⟨z0, z1, z2, z3, z4⟩ := ta.below hbw ta.lt
              obtain ⟨z5, z6, z7, z8, z9⟩ := tb.below hbw tb.lt
              have hsub := sub_sol (d := d) (by have h := HBEST.out; rw [← HNS.out] at h; exact h) HT.out (eqAt_dp HE.out) x (List.mem_of_getElem? hx)
              rw [HNS.out] at hsub
              have HEQX := Lib.hid hsub
              clear hsub
              clear hx ta tb hi1 hi2 hqe hb9 hbw
              go_upto_region 21 with (fail)
              refine wp_region_held_drew (S := (fun w' => RowKit.Hid (Below wr.heap.size wr w') ∧ w'.cell? ⟨g, o + i * 10, none⟩ = some (.int .i64 k) ∧ w'.cell? ⟨g, o + i * 10 + 1, none⟩ = some (.string p) ∧ w'.cell? ⟨g, o + i * 10 + 2, none⟩ = some (.string n) ∧ w'.cell? ⟨g, o + i * 10 + 3, none⟩ = some (.int .i64 I) ∧ w'.cell? ⟨g, o + i * 10 + 4, none⟩ = some (.slice q ln cc) ∧ w'.cell? ⟨g, o + i * 10 + 5, none⟩ = some (.int .i64 k') ∧ w'.cell? ⟨g, o + i * 10 + 6, none⟩ = some (.string p') ∧ w'.cell? ⟨g, o + i * 10 + 7, none⟩ = some (.string n') ∧ w'.cell? ⟨g, o + i * 10 + 8, none⟩ = some (.int .i64 I') ∧ w'.cell? ⟨g, o + i * 10 + 9, none⟩ = some (.slice q' ln' cc'))) (by kernel_rfl) (by exact ⟨Lib.hid (below_drewN (Below.refl _ _) 1), z0, z1, z2, z3, z4, z5, z6, z7, z8, z9⟩) (fun hHeld => ?_)
              refine wpAnyH_take (i := 0) (oi := ⟨some 67, _, _, _, _, _⟩) (v := ?_) rfl (by kernel_rfl) (by kernel_rfl) (by kernel_rfl) (fun _ _ _ h => h) (Or.inl ⟨by rfl, ?_⟩) (by assumption) ?_
              rotate_left
              focus (intro w hSw; (try dsimp only at hSw); go_simp; first | done | with_reducible rfl)
              try simp only [Act.put, List.setIfInBounds_toArray, List.set_cons_zero, List.set_cons_succ]
              refine wpAnyH_take (i := 1) (oi := ⟨some 68, _, _, _, _, _⟩) (v := ?_) rfl (by kernel_rfl) (by kernel_rfl) (by kernel_rfl) (fun _ _ _ h => h) (Or.inl ⟨by rfl, ?_⟩) (by assumption) ?_
              rotate_left
              focus (intro w hSw; (try dsimp only at hSw); go_simp; first | done | with_reducible rfl)
              try simp only [Act.put, List.setIfInBounds_toArray, List.set_cons_zero, List.set_cons_succ]
              refine wpAnyH_take (i := 2) (oi := ⟨some 69, _, _, _, _, _⟩) (v := ?_) rfl (by kernel_rfl) (by kernel_rfl) (by kernel_rfl) (fun _ _ _ h => h) (Or.inl ⟨by rfl, ?_⟩) (by assumption) ?_
              rotate_left
              focus (intro w hSw; (try dsimp only at hSw); go_simp; first | done | with_reducible rfl)
              try simp only [Act.put, List.setIfInBounds_toArray, List.set_cons_zero, List.set_cons_succ]
              refine wpAnyH_take (i := 3) (oi := ⟨some 70, _, _, _, _, _⟩) (v := ?_) rfl (by kernel_rfl) (by kernel_rfl) (by kernel_rfl) (fun _ _ _ h => h) (Or.inl ⟨by rfl, ?_⟩) (by assumption) ?_
              rotate_left
              focus (intro w hSw; (try dsimp only at hSw); go_simp; first | done | with_reducible rfl)
              try simp only [Act.put, List.setIfInBounds_toArray, List.set_cons_zero, List.set_cons_succ]
              refine wpAnyH_take (i := 4) (oi := ⟨some 71, _, _, _, _, _⟩) (v := ?_) rfl (by kernel_rfl) (by kernel_rfl) (by kernel_rfl) (fun _ _ _ h => h) (Or.inl ⟨by rfl, ?_⟩) (by assumption) ?_
              rotate_left
              focus (intro w hSw; (try dsimp only at hSw); go_simp; first | done | with_reducible rfl)
              try simp only [Act.put, List.setIfInBounds_toArray, List.set_cons_zero, List.set_cons_succ]
              refine wpAnyH_take (i := 5) (oi := ⟨some 72, _, _, _, _, _⟩) (v := ?_) rfl (by kernel_rfl) (by kernel_rfl) (by kernel_rfl) (fun _ _ _ h => h) (Or.inl ⟨by rfl, ?_⟩) (by assumption) ?_
              rotate_left
              focus (intro w hSw; (try dsimp only at hSw); go_simp; first | done | with_reducible rfl)
              try simp only [Act.put, List.setIfInBounds_toArray, List.set_cons_zero, List.set_cons_succ]
              refine wpAnyH_take (i := 6) (oi := ⟨some 73, _, _, _, _, _⟩) (v := ?_) rfl (by kernel_rfl) (by kernel_rfl) (by kernel_rfl) (fun _ _ _ h => h) (Or.inl ⟨by rfl, ?_⟩) (by assumption) ?_
              rotate_left
              focus (intro w hSw; (try dsimp only at hSw); go_simp; first | done | with_reducible rfl)
              try simp only [Act.put, List.setIfInBounds_toArray, List.set_cons_zero, List.set_cons_succ]
              refine wpAnyH_take (i := 8) (oi := ⟨some 75, _, _, _, _, _⟩) (v := ?_) rfl (by kernel_rfl) (by kernel_rfl) (by kernel_rfl) (fun _ _ _ h => h) (Or.inl ⟨by rfl, ?_⟩) (by assumption) ?_
              rotate_left
              focus (intro w hSw; (try dsimp only at hSw); go_simp; first | done | with_reducible rfl)
              try simp only [Act.put, List.setIfInBounds_toArray, List.set_cons_zero, List.set_cons_succ]
              refine wpAnyH_take (i := 9) (oi := ⟨some 76, _, _, _, _, _⟩) (v := ?_) rfl (by kernel_rfl) (by kernel_rfl) (by kernel_rfl) (fun _ _ _ h => h) (Or.inl ⟨by rfl, ?_⟩) (by assumption) ?_
              rotate_left
              focus (intro w hSw; (try dsimp only at hSw); go_simp; first | done | with_reducible rfl)
              try simp only [Act.put, List.setIfInBounds_toArray, List.set_cons_zero, List.set_cons_succ]
              refine wpAnyH_take (i := 10) (oi := ⟨some 77, _, _, _, _, _⟩) (v := ?_) rfl (by kernel_rfl) (by kernel_rfl) (by kernel_rfl) (fun _ _ _ h => h) (Or.inl ⟨by rfl, ?_⟩) (by assumption) ?_
              rotate_left
              focus (intro w hSw; (try dsimp only at hSw); go_simp; first | done | with_reducible rfl)
              try simp only [Act.put, List.setIfInBounds_toArray, List.set_cons_zero, List.set_cons_succ]
              refine wpAnyH_take (i := 11) (oi := ⟨some 78, _, _, _, _, _⟩) (v := ?_) rfl (by kernel_rfl) (by kernel_rfl) (by kernel_rfl) (fun _ _ _ h => h) (Or.inl ⟨by rfl, ?_⟩) (by assumption) ?_
              rotate_left
              focus (intro w hSw; (try dsimp only at hSw); go_simp; first | done | with_reducible rfl)
              try simp only [Act.put, List.setIfInBounds_toArray, List.set_cons_zero, List.set_cons_succ]
              refine wpAnyH_take (i := 12) (oi := ⟨some 79, _, _, _, _, _⟩) (v := ?_) rfl (by kernel_rfl) (by kernel_rfl) (by kernel_rfl) (fun _ _ _ h => h) (Or.inl ⟨by rfl, ?_⟩) (by assumption) ?_
              rotate_left
              focus (intro w hSw; (try dsimp only at hSw); go_simp; first | done | with_reducible rfl)
              try simp only [Act.put, List.setIfInBounds_toArray, List.set_cons_zero, List.set_cons_succ]
              refine wpAnyH_take (i := 13) (oi := ⟨some 80, _, _, _, _, _⟩) (v := ?_) rfl (by kernel_rfl) (by kernel_rfl) (by kernel_rfl) (fun _ _ _ h => h) (Or.inl ⟨by rfl, ?_⟩) (by assumption) ?_
              rotate_left
              focus (intro w hSw; (try dsimp only at hSw); go_simp; first | done | with_reducible rfl)
              try simp only [Act.put, List.setIfInBounds_toArray, List.set_cons_zero, List.set_cons_succ]
              refine wpAnyH_take (i := 14) (oi := ⟨some 81, _, _, _, _, _⟩) (v := ?_) rfl (by kernel_rfl) (by kernel_rfl) (by kernel_rfl) (fun _ _ _ h => h) (Or.inl ⟨by rfl, ?_⟩) (by assumption) ?_
              rotate_left
              focus (intro w hSw; (try dsimp only at hSw); go_simp; first | done | with_reducible rfl)
              try simp only [Act.put, List.setIfInBounds_toArray, List.set_cons_zero, List.set_cons_succ]
              refine wpAnyH_ready (rs := [7]) (by kernel_rfl) (by simp) ?_
              refine AllReadyH.cons (o := ⟨some 74, _, _, _, _, _⟩) rfl (fun K hK => ?_) AllReadyH.nil
              go_simp
              have hc1 := rsubst_any NS _ (NS.map σ) _ 1000 (by rw [HM.out]; omega) d x.1 _ _ w3.heap.size (Nat.le_trans HB3R.out.size (HB9.out.trans (hHeld.1.out.mono HB9.out.size)).size) (HI1.out.below (HBR.out.trans ((HB9.out.trans (hHeld.1.out.mono HB9.out.size)).mono HBR.out.size))) ((HNA.out.below (HB9.out.trans (hHeld.1.out.mono HB9.out.size)))) (HBY.out.below (HB9.out.trans (hHeld.1.out.mono HB9.out.size))) (HSMX.out.1); (with_reducible refine hc1.mono ?_); rintro e v1 ⟨r1, rfl, hi1, hb⟩; have HR1 := Lib.hid hi1; clear hi1 hc1
              go_wp2_with fail
              refine hK.out _ _ (by exact ⟨Lib.hid (hHeld.1.out.trans (hb.mono hHeld.1.out.size)), keep_cell hb hHeld.2.1, keep_cell hb hHeld.2.2.1, keep_cell hb hHeld.2.2.2.1, keep_cell hb hHeld.2.2.2.2.1, keep_cell hb hHeld.2.2.2.2.2.1, keep_cell hb hHeld.2.2.2.2.2.2.1, keep_cell hb hHeld.2.2.2.2.2.2.2.1, keep_cell hb hHeld.2.2.2.2.2.2.2.2.1, keep_cell hb hHeld.2.2.2.2.2.2.2.2.2.1, keep_cell hb hHeld.2.2.2.2.2.2.2.2.2.2⟩) (fun hNew => ?_)
              clear hK K
              clear hHeld hb; have hHeld := hNew; clear hNew
              try simp only [Act.put, List.setIfInBounds_toArray, List.set_cons_zero, List.set_cons_succ]
              refine wpAnyH_ready (rs := [15]) (by kernel_rfl) (by simp) ?_
              refine AllReadyH.cons (o := ⟨some 82, _, _, _, _, _⟩) rfl (fun K hK => ?_) AllReadyH.nil
              go_simp
              have hc2 := rsubst_any NS _ (NS.map σ) _ 1000 (by rw [HM.out]; omega) d x.2 _ _ w3.heap.size (Nat.le_trans HB3R.out.size (HB9.out.trans (hHeld.1.out.mono HB9.out.size)).size) (HI2.out.below (HBR.out.trans ((HB9.out.trans (hHeld.1.out.mono HB9.out.size)).mono HBR.out.size))) ((HNA.out.below (HB9.out.trans (hHeld.1.out.mono HB9.out.size)))) (HBY.out.below (HB9.out.trans (hHeld.1.out.mono HB9.out.size))) (HSMX.out.2); (with_reducible refine hc2.mono ?_); rintro e v2 ⟨r2, rfl, hi2, hb⟩; have HR1 := Lib.hid (HR1.out.isT.below hb); have HR2 := Lib.hid hi2.isT; clear hi2 hc2
              go_wp2_with fail
              refine hK.out _ _ (by exact ⟨Lib.hid (hHeld.1.out.trans (hb.mono hHeld.1.out.size)), keep_cell hb hHeld.2.1, keep_cell hb hHeld.2.2.1, keep_cell hb hHeld.2.2.2.1, keep_cell hb hHeld.2.2.2.2.1, keep_cell hb hHeld.2.2.2.2.2.1, keep_cell hb hHeld.2.2.2.2.2.2.1, keep_cell hb hHeld.2.2.2.2.2.2.2.1, keep_cell hb hHeld.2.2.2.2.2.2.2.2.1, keep_cell hb hHeld.2.2.2.2.2.2.2.2.2.1, keep_cell hb hHeld.2.2.2.2.2.2.2.2.2.2⟩) (fun hNew => ?_)
              clear hK K
              clear hHeld hb; have hHeld := hNew; clear hNew
              try simp only [Act.put, List.setIfInBounds_toArray, List.set_cons_zero, List.set_cons_succ]
              refine wpAnyH_ready (rs := [16]) (by kernel_rfl) (by simp) ?_
              refine AllReadyH.cons (o := ⟨some 83, _, _, _, _, _⟩) rfl (fun K hK => ?_) AllReadyH.nil
              go_simp
              have hc3 := refSame_any (1000 + d) _ _ _ _ _ HR1.out HR2.out; (with_reducible refine hc3.mono ?_); rintro e v3 ⟨he, hb⟩; rw [HEQX.out, same_self] at he; subst he; clear hc3
              go_wp2_with fail
              refine hK.out _ _ (by exact ⟨Lib.hid (hHeld.1.out.trans (hb.mono hHeld.1.out.size)), keep_cell hb hHeld.2.1, keep_cell hb hHeld.2.2.1, keep_cell hb hHeld.2.2.2.1, keep_cell hb hHeld.2.2.2.2.1, keep_cell hb hHeld.2.2.2.2.2.1, keep_cell hb hHeld.2.2.2.2.2.2.1, keep_cell hb hHeld.2.2.2.2.2.2.2.1, keep_cell hb hHeld.2.2.2.2.2.2.2.2.1, keep_cell hb hHeld.2.2.2.2.2.2.2.2.2.1, keep_cell hb hHeld.2.2.2.2.2.2.2.2.2.2⟩) (fun hNew => ?_)
              clear hK K
              clear hHeld hb; have hHeld := hNew; clear hNew
              try simp only [Act.put, List.setIfInBounds_toArray, List.set_cons_zero, List.set_cons_succ]
              refine wpAnyH_take (i := 17) (oi := ⟨some 84, _, _, _, _, _⟩) (v := ?_) rfl (by kernel_rfl) (by kernel_rfl) (by kernel_rfl) (fun _ _ _ h => h) (Or.inl ⟨by rfl, ?_⟩) (by assumption) ?_
              rotate_left
              focus (intro w hSw; (try dsimp only at hSw); go_simp; first | done | with_reducible rfl)
              try simp only [Act.put, List.setIfInBounds_toArray, List.set_cons_zero, List.set_cons_succ]
              refine wpAnyH_done (by kernel_rfl) ?_ _
              go_wp2
              exact ⟨⟨i + 1, by omega, by simp, HB9.out.trans (hHeld.1.out.mono HB9.out.size)⟩, by simp [intOf]; omega⟩
            · clear hb9
              generalize wr = W8 at *
              go_wp2
              go_loopw [88] (fun t wr => ∃ i : Nat, i ≤ j ∧ t = .int .i64 i ∧ Below W9.heap.size W9 wr) (fun t _ => j - (intOf t).toNat)
              case atStart => exact ⟨0, Nat.zero_le _, rfl, HB9.out⟩
              case round =>
                obtain ⟨i, hi, rfl, hb9⟩ := hrel
                have HB9 := Lib.hid hb9
                by_cases hlt3 : (i : Int) < (j : Int)
                · have hx : NS[i]? = some (NS[i]'(by have := HM.out; omega)) := List.getElem?_eq_getElem (by have := HM.out; omega)
                  generalize (NS[i]'(by have := HM.out; omega)) = nm at hx
                  have hnm := List.mem_of_getElem? hx
                  have hxm : (NS.map σ)[i]? = some (σ nm) := by rw [List.getElem?_map, hx]; rfl
                  obtain ⟨qe', ce', eqe, _, hqe⟩ := HBY.out
                  injection eqe with eq1 eq2 eq3; clear eq2 eq3
                  subst eq1
                  obtain ⟨gb, ob, k, p, n, I, s, rfl, _, ta, hi1⟩ := hqe i _ hxm
                  have hi1 := hi1.isT
                  obtain ⟨q, ln, cc, rfl⟩ := hi1.spell
                  have hsub := sub_self (d := d) (D := 1000) (n := nm) (by have h := HBEST.out; rw [← HNS.out] at h; exact h) (by rw [HNS.out]; exact hnm) hi1.dp
                  rw [HNS.out] at hsub
                  have HEQX := Lib.hid hsub
                  have HI1 := Lib.hid hi1
                  have HSMX := Lib.hid (sm_cnt 1000 (σ nm) (by have := HALL.out nm hnm; omega))
                  obtain ⟨z0, z1, z2, z3, z4⟩ := ta.below hb9 ta.lt
                  clear hx hnm hxm hqe ta hi1 hsub hb9
                  go_upto_region 27 with (fail)
                  refine wp_region_held_drew (S := (fun w' => RowKit.Hid (Below wr.heap.size wr w') ∧ w'.cell? ⟨gb, ob + i * 5, none⟩ = some (.int .i64 k) ∧ w'.cell? ⟨gb, ob + i * 5 + 1, none⟩ = some (.string p) ∧ w'.cell? ⟨gb, ob + i * 5 + 2, none⟩ = some (.string n) ∧ w'.cell? ⟨gb, ob + i * 5 + 3, none⟩ = some (.int .i64 I) ∧ w'.cell? ⟨gb, ob + i * 5 + 4, none⟩ = some (.slice q ln cc))) (by kernel_rfl) (by exact ⟨Lib.hid (below_drewN (Below.refl _ _) 1), z0, z1, z2, z3, z4⟩) (fun hHeld => ?_)
                  refine wpAnyH_take (i := 0) (oi := ⟨some 91, _, _, _, _, _⟩) (v := ?_) rfl (by kernel_rfl) (by kernel_rfl) (by kernel_rfl) (fun _ _ _ h => h) (Or.inl ⟨by rfl, ?_⟩) (by assumption) ?_
                  rotate_left
                  focus (intro w hSw; (try dsimp only at hSw); go_simp; first | done | with_reducible rfl)
                  try simp only [Act.put, List.setIfInBounds_toArray, List.set_cons_zero, List.set_cons_succ]
                  refine wpAnyH_take (i := 1) (oi := ⟨some 92, _, _, _, _, _⟩) (v := ?_) rfl (by kernel_rfl) (by kernel_rfl) (by kernel_rfl) (fun _ _ _ h => h) (Or.inl ⟨by rfl, ?_⟩) (by assumption) ?_
                  rotate_left
                  focus (intro w hSw; (try dsimp only at hSw); go_simp; first | done | with_reducible rfl)
                  try simp only [Act.put, List.setIfInBounds_toArray, List.set_cons_zero, List.set_cons_succ]
                  refine wpAnyH_take (i := 2) (oi := ⟨some 93, _, _, _, _, _⟩) (v := ?_) rfl (by kernel_rfl) (by kernel_rfl) (by kernel_rfl) (fun _ _ _ h => h) (Or.inl ⟨by rfl, ?_⟩) (by assumption) ?_
                  rotate_left
                  focus (intro w hSw; (try dsimp only at hSw); go_simp; first | done | with_reducible rfl)
                  try simp only [Act.put, List.setIfInBounds_toArray, List.set_cons_zero, List.set_cons_succ]
                  refine wpAnyH_take (i := 3) (oi := ⟨some 94, _, _, _, _, _⟩) (v := ?_) rfl (by kernel_rfl) (by kernel_rfl) (by kernel_rfl) (fun _ _ _ h => h) (Or.inl ⟨by rfl, ?_⟩) (by assumption) ?_
                  rotate_left
                  focus (intro w hSw; (try dsimp only at hSw); go_simp; first | done | with_reducible rfl)
                  try simp only [Act.put, List.setIfInBounds_toArray, List.set_cons_zero, List.set_cons_succ]
                  refine wpAnyH_take (i := 4) (oi := ⟨some 95, _, _, _, _, _⟩) (v := ?_) rfl (by kernel_rfl) (by kernel_rfl) (by kernel_rfl) (fun _ _ _ h => h) (Or.inl ⟨by rfl, ?_⟩) (by assumption) ?_
                  rotate_left
                  focus (intro w hSw; (try dsimp only at hSw); go_simp; first | done | with_reducible rfl)
                  try simp only [Act.put, List.setIfInBounds_toArray, List.set_cons_zero, List.set_cons_succ]
                  refine wpAnyH_take (i := 5) (oi := ⟨some 96, _, _, _, _, _⟩) (v := ?_) rfl (by kernel_rfl) (by kernel_rfl) (by kernel_rfl) (fun _ _ _ h => h) (Or.inl ⟨by rfl, ?_⟩) (by assumption) ?_
                  rotate_left
                  focus (intro w hSw; (try dsimp only at hSw); go_simp; first | done | with_reducible rfl)
                  try simp only [Act.put, List.setIfInBounds_toArray, List.set_cons_zero, List.set_cons_succ]
                  refine wpAnyH_take (i := 7) (oi := ⟨some 98, _, _, _, _, _⟩) (v := ?_) rfl (by kernel_rfl) (by kernel_rfl) (by kernel_rfl) (fun _ _ _ h => h) (Or.inl ⟨by rfl, ?_⟩) (by assumption) ?_
                  rotate_left
                  focus (intro w hSw; (try dsimp only at hSw); go_simp; first | done | with_reducible rfl)
                  try simp only [Act.put, List.setIfInBounds_toArray, List.set_cons_zero, List.set_cons_succ]
                  refine wpAnyH_take (i := 8) (oi := ⟨some 99, _, _, _, _, _⟩) (v := ?_) rfl (by kernel_rfl) (by kernel_rfl) (by kernel_rfl) (fun _ _ _ h => h) (Or.inl ⟨by rfl, ?_⟩) (by assumption) ?_
                  rotate_left
                  focus (intro w hSw; (try dsimp only at hSw); go_simp; first | done | with_reducible rfl)
                  try simp only [Act.put, List.setIfInBounds_toArray, List.set_cons_zero, List.set_cons_succ]
                  refine wpAnyH_take (i := 9) (oi := ⟨some 100, _, _, _, _, _⟩) (v := ?_) rfl (by kernel_rfl) (by kernel_rfl) (by kernel_rfl) (fun _ _ _ h => h) (Or.inl ⟨by rfl, ?_⟩) (by assumption) ?_
                  rotate_left
                  focus (intro w hSw; (try dsimp only at hSw); go_simp; first | done | with_reducible rfl)
                  try simp only [Act.put, List.setIfInBounds_toArray, List.set_cons_zero, List.set_cons_succ]
                  refine wpAnyH_take (i := 10) (oi := ⟨some 101, _, _, _, _, _⟩) (v := ?_) rfl (by kernel_rfl) (by kernel_rfl) (by kernel_rfl) (fun _ _ _ h => h) (Or.inl ⟨by rfl, ?_⟩) (by assumption) ?_
                  rotate_left
                  focus (intro w hSw; (try dsimp only at hSw); go_simp; first | done | with_reducible rfl)
                  try simp only [Act.put, List.setIfInBounds_toArray, List.set_cons_zero, List.set_cons_succ]
                  refine wpAnyH_ready (rs := [6]) (by kernel_rfl) (by simp) ?_
                  refine AllReadyH.cons (o := ⟨some 97, _, _, _, _, _⟩) rfl (fun K hK => ?_) AllReadyH.nil
                  go_simp
                  have hc1 := rsubst_any NS _ (NS.map σ) _ 1000 (by rw [HM.out]; omega) 1000 (σ nm) _ _ w3.heap.size (Nat.le_trans HB3R.out.size (HB9.out.trans (hHeld.1.out.mono HB9.out.size)).size) (HI1.out.below (HB9.out.trans (hHeld.1.out.mono HB9.out.size))) (HNA.out.below (HB9.out.trans (hHeld.1.out.mono HB9.out.size))) (HBY.out.below (HB9.out.trans (hHeld.1.out.mono HB9.out.size))) HSMX.out; (with_reducible refine hc1.mono ?_); rintro e v1 ⟨r1, rfl, hi1, hb⟩; have HR1 := Lib.hid hi1.isT; clear hi1 hc1
                  go_wp2_with fail
                  refine hK.out _ _ (by exact ⟨Lib.hid (hHeld.1.out.trans (hb.mono hHeld.1.out.size)), keep_cell hb hHeld.2.1, keep_cell hb hHeld.2.2.1, keep_cell hb hHeld.2.2.2.1, keep_cell hb hHeld.2.2.2.2.1, keep_cell hb hHeld.2.2.2.2.2⟩) (fun hNew => ?_)
                  clear hK K
                  clear hHeld hb; have hHeld := hNew; clear hNew
                  try simp only [Act.put, List.setIfInBounds_toArray, List.set_cons_zero, List.set_cons_succ]
                  refine wpAnyH_ready (rs := [11]) (by kernel_rfl) (by simp) ?_
                  refine AllReadyH.cons (o := ⟨some 102, _, _, _, _, _⟩) rfl (fun K hK => ?_) AllReadyH.nil
                  go_simp
                  have hc3 := refSame_any (1000 + 1000) _ _ _ _ _ HR1.out ((HI1.out.below (HB9.out.trans (hHeld.1.out.mono HB9.out.size))).more (by decide)); (with_reducible refine hc3.mono ?_); rintro e v3 ⟨he, hb⟩; rw [HEQX.out, same_self] at he; subst he; clear hc3
                  go_wp2_with fail
                  refine hK.out _ _ (by exact ⟨Lib.hid (hHeld.1.out.trans (hb.mono hHeld.1.out.size)), keep_cell hb hHeld.2.1, keep_cell hb hHeld.2.2.1, keep_cell hb hHeld.2.2.2.1, keep_cell hb hHeld.2.2.2.2.1, keep_cell hb hHeld.2.2.2.2.2⟩) (fun hNew => ?_)
                  clear hK K
                  clear hHeld hb; have hHeld := hNew; clear hNew
                  try simp only [Act.put, List.setIfInBounds_toArray, List.set_cons_zero, List.set_cons_succ]
                  refine wpAnyH_take (i := 12) (oi := ⟨some 103, _, _, _, _, _⟩) (v := ?_) rfl (by kernel_rfl) (by kernel_rfl) (by kernel_rfl) (fun _ _ _ h => h) (Or.inl ⟨by rfl, ?_⟩) (by assumption) ?_
                  rotate_left
                  focus (intro w hSw; (try dsimp only at hSw); go_simp; first | done | with_reducible rfl)
                  try simp only [Act.put, List.setIfInBounds_toArray, List.set_cons_zero, List.set_cons_succ]
                  refine wpAnyH_done (by kernel_rfl) ?_ _
                  go_wp2
                  exact ⟨⟨i + 1, by omega, by simp, HB9.out.trans (hHeld.1.out.mono HB9.out.size)⟩, by simp [intOf]; omega⟩
                · clear hb9
                  go_wp2_with (go_at_call 11; ((with_reducible refine (alive13_any _).mono ?_); rintro e w4 ⟨rfl, hb⟩))
                  go_ret
                  have h9 := HBR.out.trans (HB9.out.mono HBR.out.size)
                  exact ⟨rfl, h9.trans (hb.mono h9.size)⟩
  · have HB2 := Lib.hid (HB1.out.trans (hb.mono HB1.out.size))
    clear hb hbig hB
    go_wp2_with (first
      | (go_at_call 15; (with_reducible refine (no13_any _ _).mono ?_); rintro e w3 ⟨rfl, hb3⟩; have HB2 := Lib.hid (HB2.out.trans (hb3.mono HB2.out.size)); clear hb3)
      | (go_at_call 11; (with_reducible refine (alive13_any _).mono ?_); rintro e w4 ⟨rfl, hb4⟩; have HB2 := Lib.hid (HB2.out.trans (hb4.mono HB2.out.size)); clear hb4))
    go_ret
    exact ⟨rfl, HB2.out⟩
end Go.Proofs.YtncebhddcokkoaaDoor
/- Arguments by value: a term; what the row assumes of the listed variables is met by the door's own heap. -/
namespace Go.Proofs.YtncebhddcokkoaaDoor
open Go.ChangeShapes Go.WideShapes Go.ChangeAt Go.RowKit
theorem ownKn : ownKnob Tryd.prog.godebug = none := by kernel_rfl
theorem laidTry : laidOutB Tryd.prog = true := by kernel_rfl
set_option maxRecDepth 100000
section
variable {H : Type} {enc : TypeId × Value → H} {W : World} {base : Nat} {v : Value} {d : DataW H} {p : List MemPlace}
end
end Go.Proofs.YtncebhddcokkoaaDoor
/- An argument that is a row of equations. -/
namespace Go.Proofs.YtncebhddcokkoaaDoor
open Go.ChangeShapes Go.WideShapes Go.ChangeAt Go.RowKit
set_option linter.unusedSimpArgs false
set_option linter.unusedVariables false
theorem cells43 : Tryd.prog.cellsOf 43 = 10 := by kernel_rfl
section
set_option maxRecDepth 100000
variable {H : Type} {enc : TypeId × Value → H} {W : World} {base : Nat} {v : Value} {d : DataW H} {p : List MemPlace}
theorem trod_eq (fuel : Nat) (cs : List Value) (x : DataW H × List MemPlace) (h : DataW.trod enc Tryd.prog W 0 (fun _ => true) true fuel 43 cs = some x) :
    ∃ (k k' : Int) (p n p' n' : ByteArray) (N N' : Int) (s s' : Value) (t : Tm × Tm), cs = [.int .i64 k, .string p, .string n, .int .i64 N, s, .int .i64 k', .string p', .string n', .int .i64 N', s'] ∧ IsT W fuel (tv k p n N s) t.1 ∧ IsT W fuel (tv k' p' n' N' s') t.2 := by
  obtain ⟨xs, m, rfl, _, hl, hx5, hf⟩ := DataW.trod_struct Tryd.underlying43 h
  rw [cells43] at hl
  have hx5' : xs.length = 2 := hx5
  have g0 : DataW.trod enc Tryd.prog W 0 (fun _ => true) true m 36 ((cs.drop 0).take (Tryd.prog.cellsOf 36)) = xs[0]? := hf 0 _ rfl
  have g1 : DataW.trod enc Tryd.prog W 0 (fun _ => true) true m 36 ((cs.drop 5).take (Tryd.prog.cellsOf 36)) = xs[1]? := hf 1 _ rfl
  rw [cells24, List.getElem?_eq_getElem (by omega)] at g0 g1
  obtain ⟨k, p, n, N, s, t, e0, h0⟩ := trod_term m _ _ g0
  obtain ⟨k', p', n', N', s', t', e1, h1⟩ := trod_term m _ _ g1
  refine ⟨k, k', p, n, p', n', N, N', s, s', (t, t'), ?_, h0.more (by omega), h1.more (by omega)⟩
  have e2 : cs = (cs.drop 0).take 5 ++ (cs.drop 5).take 5 := by
    rw [List.drop_zero]
    have : (cs.drop 5).take 5 = cs.drop 5 := List.take_of_length_le (by rw [List.length_drop]; omega)
    rw [this, List.take_append_drop]
  rw [e2, e0, e1]
  rfl
theorem pickE {α : Type} {P : Nat → α → Prop} : ∀ n : Nat, (∀ i, i < n → ∃ t, P i t) → ∃ l : List α, l.length = n ∧ ∀ i t, l[i]? = some t → P i t
  | 0, _ => ⟨[], rfl, fun i t h => by simp at h⟩
  | n + 1, h => by
    obtain ⟨l, hl, hp⟩ := pickE n fun i hi => h i (by omega)
    obtain ⟨t, ht⟩ := h n (by omega)
    refine ⟨l ++ [t], by simp [hl], fun i y hy => ?_⟩
    by_cases hi : i < l.length
    · rw [List.getElem?_append_left hi] at hy
      exact hp i y hy
    · have h1 := (List.getElem?_eq_some_iff.1 hy).1
      simp at h1
      have e : i = l.length := by omega
      subst e
      rw [List.getElem?_concat_length] at hy
      obtain rfl := Option.some.inj hy
      rw [hl]
      exact ht
theorem arg_eqs (hval : Value.okWide Tryd.prog W .any base 22 v) (h : DataW.Trod enc Tryd.prog W 0 (fun _ => true) true 22 v d p) : ∃ (m : Nat) (E : List (Tm × Tm)), EqAt W m v E ∧ E.length ≤ 9223372036854775807 := by
  obtain ⟨a0, len0, cap0, rfl⟩ := okWide_slice Tryd.underlying22 hval
  obtain ⟨fuel, hf⟩ := h
  rcases DataW.trod_slice Tryd.underlying22 hf with ⟨hcs, _⟩ | ⟨a, len, cap, elems, rest, n', hm', hcs, _, _, hl2, hm, hlen, hel, _, _⟩
  · simp [Value.cells] at hcs
    obtain ⟨rfl, rfl, rfl⟩ := hcs
    exact ⟨0, [], ⟨none, 0, rfl, fun i y hy => by simp at hy⟩, Nat.zero_le _⟩
  · simp [Value.cells] at hcs
    obtain ⟨rfl, rfl, rfl⟩ := hcs
    by_cases hz : len0 = 0
    · subst hz
      exact ⟨0, [], ⟨some a, cap0, rfl, fun i y hy => by simp at hy⟩, Nat.zero_le _⟩
    have hi : ∀ i, i < len0 → ∃ cs' y, W.cells? 0 (a.add (i * 10)) 10 = some cs' ∧ DataW.trod enc Tryd.prog W 0 (fun _ => true) true n' 43 cs' = some y := fun i hi => by
      have he := hel i hi
      rw [cells43, List.getElem?_eq_getElem (by omega)] at he
      obtain ⟨cs', h1, h2⟩ := Option.bind_eq_some_iff.1 he
      exact ⟨cs', _, h1, h2⟩
    obtain ⟨b1, o1, rfl⟩ : ∃ b1 o1, a = ⟨b1, o1, none⟩ := by
      obtain ⟨cs, _, hc, _⟩ := hi 0 (by omega)
      obtain ⟨_, hcl, hat⟩ := World.cells?_some hc
      have h0 := hat 0 (by omega)
      rw [List.getElem?_eq_getElem (by omega)] at h0
      have h1 := World.cell?_spot h0
      obtain ⟨b1, o1, sp⟩ := a
      have h2 : sp = none := by simpa [Addr.add] using h1
      exact ⟨b1, o1, by rw [h2]⟩
    obtain ⟨l, hll, hpl⟩ := pickE (P := fun i (t : Tm × Tm) => ∃ k p n N s k' p' n2 N' s', (TAt W b1 (o1 + i * 10) k p n N s ∧ IsT W n' (tv k p n N s) t.1) ∧ TAt W b1 (o1 + i * 10 + 5) k' p' n2 N' s' ∧ IsT W n' (tv k' p' n2 N' s') t.2) len0 (fun i hi2 => by
      obtain ⟨cs, y, hc, ht⟩ := hi i hi2
      obtain ⟨_, hcl, hat⟩ := World.cells?_some hc
      obtain ⟨k, k', p, n, p', n2, N, N', s, s', t, rfl, ht1, ht2⟩ := trod_eq n' cs _ ht
      have a0 := hat 0 (by omega)
      have a1 := hat 1 (by omega)
      have a2 := hat 2 (by omega)
      have a3 := hat 3 (by omega)
      have a4 := hat 4 (by omega)
      have a5 := hat 5 (by omega)
      have a6 := hat 6 (by omega)
      have a7 := hat 7 (by omega)
      have a8 := hat 8 (by omega)
      have a9 := hat 9 (by omega)
      simp only [Addr.add_lit, Nat.add_zero] at a0 a1 a2 a3 a4 a5 a6 a7 a8 a9
      exact ⟨t, k, p, n, N, s, k', p', n2, N', s', ⟨⟨a0, a1, a2, a3, a4⟩, ht1⟩, ⟨a5, a6, a7, a8, a9⟩, ht2⟩)
    refine ⟨n', l, ⟨some ⟨b1, o1, none⟩, cap0, by rw [hll], fun i y hy => ?_⟩, by rw [hll]; unfold maxLen at hm; omega⟩
    obtain ⟨k, p, n, N, s, k', p', n2, N', s', h1, h2⟩ := hpl i y hy
    exact ⟨b1, o1, k, p, n, N, s, k', p', n2, N', s', rfl, h1, h2⟩
end
end Go.Proofs.YtncebhddcokkoaaDoor
