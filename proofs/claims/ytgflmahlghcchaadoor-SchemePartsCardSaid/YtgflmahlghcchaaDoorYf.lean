/- SchemeParts: its walk. -/
import Derived.Test.YtgflmahlghcchaaDoorYb
import Derived.Test.YtgflmahlghcchaaDoorYe
namespace Go.Proofs.YtgflmahlghcchaaDoor
open Go.RowKit
set_option linter.unusedSimpArgs false
set_option linter.unusedVariables false
def PartsP (d : Nat) (k1 k2 : Int) (p1 p2 n1 n2 : ByteArray) (ta tb : Tm) : Prop := k1 ≠ 1 ∧ k1 = k2 ∧ p1 = p2 ∧ n1 = n2 ∧ (Sm d ta ∧ tszN d ta ≤ 600 ∧ NoN ta) ∧ (Sm d tb ∧ tszN d tb ≤ 600 ∧ NoN tb)
theorem tuple_is {w : World} {d : Nat} {k N : Int} {p n : ByteArray} {s : Value} {l : List Tm} (h : IsT w d (tv k p n N s) (.mk k p n N l)) : IsT w d (tv 4 ⟨#[]⟩ ⟨#[]⟩ 0 s) (.mk 4 ⟨#[]⟩ ⟨#[]⟩ 0 l) := by
  cases d with
  | zero => cases h
  | succ d =>
    obtain ⟨q, c, e, _, _, h3, h4⟩ := h
    injection e with e
    simp at e
    subst e
    exact ⟨q, c, rfl, Nat.zero_le _, Nat.zero_le _, h3, h4⟩
theorem tuple_sm {d : Nat} {k N : Int} {p n : ByteArray} {l : List Tm} (h : Sm d (.mk k p n N l)) : Sm d (.mk 4 ⟨#[]⟩ ⟨#[]⟩ 0 l) := by
  cases d with
  | zero => trivial
  | succ d => exact h
theorem tuple_sz {d : Nat} {k N : Int} {p n : ByteArray} {l : List Tm} (h : tszN d (.mk k p n N l) ≤ 600) : tszN d (.mk 4 ⟨#[]⟩ ⟨#[]⟩ 0 l) ≤ 600 := by
  cases d with
  | zero => exact Nat.zero_le _
  | succ d => exact h
set_option maxRecDepth 100000 in
set_option maxHeartbeats 8000000 in
theorem parts_walk (d : Nat) (va vb : Value) (ta tb : Tm) (w : World) (ha : IsT w d va ta) (hb : IsT w d vb tb) :
    Calls Tryd.prog 3 #[va, vb] w fun e w' => e = .returned (.bool true) ∧ Below w.heap.size w w' := by
  obtain ⟨d1, k1, p1, n1, N1, s1, l1, e1, eta, rfl, _, _, hk1⟩ := ha.open
  obtain ⟨d2, k2, p2, n2, N2, s2, l2, e2, etb, rfl, _, _, hk2⟩ := hb.open
  obtain ⟨q1, c1, rfl, _, _⟩ := hk1
  obtain ⟨q2, c2, rfl, _, _⟩ := hk2
  clear e1 e2
  generalize l1.length = L1 at *
  generalize l2.length = L2 at *
  have hB0 := below2 w (.cells #[.int .i64 k1, .string p1, .string n1, .int .i64 N1, .slice q1 L1 c1] 24) (.cells #[.int .i64 k2, .string p2, .string n2, .int .i64 N2, .slice q2 L2 c2] 24)
  have b1 := hb_alloc (hb_new w (.cells #[.int .i64 k1, .string p1, .string n1, .int .i64 N1, .slice q1 L1 c1] 24)) (.cells #[.int .i64 k2, .string p2, .string n2, .int .i64 N2, .slice q2 L2 c2] 24)
  have b2 := hb_new (w.alloc (.cells #[.int .i64 k1, .string p1, .string n1, .int .i64 N1, .slice q1 L1 c1] 24)) (.cells #[.int .i64 k2, .string p2, .string n2, .int .i64 N2, .slice q2 L2 c2] 24)
  rw [World.size_alloc] at b2
  have HA := Lib.hid ha
  have HB := Lib.hid hb
  have I1 := Lib.hid b1
  have I2 := Lib.hid b2
  have HB0 := Lib.hid hB0
  have HTA := Lib.hid (ha.below hB0)
  have HTB := Lib.hid (hb.below hB0)
  have HEA := Lib.hid eta
  have HEB := Lib.hid etb
  clear ha hb b1 b2 hB0 eta etb
  go_enter Tryd.func3, Tryd.ntmps3
  go_upto_region 1 with fail
  generalize (w.alloc (.cells #[.int .i64 k1, .string p1, .string n1, .int .i64 N1, .slice q1 L1 c1] 24)).alloc (.cells #[.int .i64 k2, .string p2, .string n2, .int .i64 N2, .slice q2 L2 c2] 24) = W0 at *
  have x0 := hb_at I1.out 0 rfl
  have x1 := hb_at I1.out 1 rfl
  have x2 := hb_at I1.out 2 rfl
  have x3 := hb_at I1.out 3 rfl
  have x4 := hb_at I1.out 4 rfl
  have y0 := hb_at I2.out 0 rfl
  have y1 := hb_at I2.out 1 rfl
  have y2 := hb_at I2.out 2 rfl
  have y3 := hb_at I2.out 3 rfl
  have y4 := hb_at I2.out 4 rfl
  go_cut [40] (fun v wx => ∃ r : Bool, v = .bool r ∧ Below W0.heap.size W0 wx ∧ (r = false → PartsP d k1 k2 p1 p2 n1 n2 ta tb))
  case first =>
    by_cases h1 : k1 = 1
    · subst h1
      go_wp2_with (first
        | (go_at_call 4; (with_reducible refine (few4_any d _ _ _ HTA.out).mono ?_); rintro e w3 ⟨r3, rfl, hr3, hb3⟩; have HR3 := Lib.hid hr3; have HB3 := Lib.hid hb3; have HTB3 := Lib.hid (HTB.out.below hb3); have u1 := hb_below I1.out hb3 (hb_lt I1.out); have u2 := hb_below I2.out hb3 (hb_lt I2.out); have x0 := hb_at u1 0 rfl; have x1 := hb_at u1 1 rfl; have x2 := hb_at u1 2 rfl; have x3 := hb_at u1 3 rfl; have x4 := hb_at u1 4 rfl; have y0 := hb_at u2 0 rfl; have y1 := hb_at u2 1 rfl; have y2 := hb_at u2 2 rfl; have y3 := hb_at u2 3 rfl; have y4 := hb_at u2 4 rfl; have I13 := Lib.hid u1; have I23 := Lib.hid u2; clear hr3 hb3 u1 u2; cases r3)
        | (go_at_call 4; (with_reducible refine (few4_any d _ _ _ HTB3.out).mono ?_); rintro e w5 ⟨r5, rfl, hr5, hb5⟩; have HR5 := Lib.hid hr5; have HB5 := Lib.hid hb5; have u1 := hb_below I13.out hb5 (hb_lt I13.out); have u2 := hb_below I23.out hb5 (hb_lt I23.out); have x0 := hb_at u1 0 rfl; have x1 := hb_at u1 1 rfl; have x2 := hb_at u1 2 rfl; have x3 := hb_at u1 3 rfl; have x4 := hb_at u1 4 rfl; have y0 := hb_at u2 0 rfl; have y1 := hb_at u2 1 rfl; have y2 := hb_at u2 2 rfl; have y3 := hb_at u2 3 rfl; have y4 := hb_at u2 4 rfl; clear hr5 hb5 u1 u2; cases r5))
      all_goals go_meet
      all_goals first
        | exact ⟨_, rfl, HB3.out, (by intro h; cases h)⟩
        | exact ⟨_, rfl, HB3.out.trans (HB5.out.mono HB3.out.size), (by intro h; cases h)⟩
    have h1' : (k1 == 1) = false := by simpa using h1
    have HK1 := Lib.hid h1
    clear h1
    by_cases hk : k1 = k2
    rotate_left
    · have hk' : (k1 != k2) = true := by simpa using hk
      go_wp2_with (first
        | (go_at_call 4; (with_reducible refine (few4_any d _ _ _ HTA.out).mono ?_); rintro e w3 ⟨r3, rfl, hr3, hb3⟩; have HR3 := Lib.hid hr3; have HB3 := Lib.hid hb3; have HTB3 := Lib.hid (HTB.out.below hb3); have u1 := hb_below I1.out hb3 (hb_lt I1.out); have u2 := hb_below I2.out hb3 (hb_lt I2.out); have x0 := hb_at u1 0 rfl; have x1 := hb_at u1 1 rfl; have x2 := hb_at u1 2 rfl; have x3 := hb_at u1 3 rfl; have x4 := hb_at u1 4 rfl; have y0 := hb_at u2 0 rfl; have y1 := hb_at u2 1 rfl; have y2 := hb_at u2 2 rfl; have y3 := hb_at u2 3 rfl; have y4 := hb_at u2 4 rfl; have I13 := Lib.hid u1; have I23 := Lib.hid u2; clear hr3 hb3 u1 u2; cases r3)
        | (go_at_call 4; (with_reducible refine (few4_any d _ _ _ HTB3.out).mono ?_); rintro e w5 ⟨r5, rfl, hr5, hb5⟩; have HR5 := Lib.hid hr5; have HB5 := Lib.hid hb5; have u1 := hb_below I13.out hb5 (hb_lt I13.out); have u2 := hb_below I23.out hb5 (hb_lt I23.out); have x0 := hb_at u1 0 rfl; have x1 := hb_at u1 1 rfl; have x2 := hb_at u1 2 rfl; have x3 := hb_at u1 3 rfl; have x4 := hb_at u1 4 rfl; have y0 := hb_at u2 0 rfl; have y1 := hb_at u2 1 rfl; have y2 := hb_at u2 2 rfl; have y3 := hb_at u2 3 rfl; have y4 := hb_at u2 4 rfl; clear hr5 hb5 u1 u2; cases r5))
      all_goals go_meet
      all_goals first
        | exact ⟨_, rfl, HB3.out, (by intro h; cases h)⟩
        | exact ⟨_, rfl, HB3.out.trans (HB5.out.mono HB3.out.size), (by intro h; cases h)⟩
    subst hk
    by_cases hp : p1 = p2
    rotate_left
    · have hp' : ¬ p1.toList = p2.toList := fun h => hp (toList_inj h)
      have HP := Lib.hid hp
      clear hp
      go_wp2_with (first
        | (go_at_call 4; (with_reducible refine (few4_any d _ _ _ HTA.out).mono ?_); rintro e w3 ⟨r3, rfl, hr3, hb3⟩; have HR3 := Lib.hid hr3; have HB3 := Lib.hid hb3; have HTB3 := Lib.hid (HTB.out.below hb3); have u1 := hb_below I1.out hb3 (hb_lt I1.out); have u2 := hb_below I2.out hb3 (hb_lt I2.out); have x0 := hb_at u1 0 rfl; have x1 := hb_at u1 1 rfl; have x2 := hb_at u1 2 rfl; have x3 := hb_at u1 3 rfl; have x4 := hb_at u1 4 rfl; have y0 := hb_at u2 0 rfl; have y1 := hb_at u2 1 rfl; have y2 := hb_at u2 2 rfl; have y3 := hb_at u2 3 rfl; have y4 := hb_at u2 4 rfl; have I13 := Lib.hid u1; have I23 := Lib.hid u2; clear hr3 hb3 u1 u2; cases r3)
        | (go_at_call 4; (with_reducible refine (few4_any d _ _ _ HTB3.out).mono ?_); rintro e w5 ⟨r5, rfl, hr5, hb5⟩; have HR5 := Lib.hid hr5; have HB5 := Lib.hid hb5; have u1 := hb_below I13.out hb5 (hb_lt I13.out); have u2 := hb_below I23.out hb5 (hb_lt I23.out); have x0 := hb_at u1 0 rfl; have x1 := hb_at u1 1 rfl; have x2 := hb_at u1 2 rfl; have x3 := hb_at u1 3 rfl; have x4 := hb_at u1 4 rfl; have y0 := hb_at u2 0 rfl; have y1 := hb_at u2 1 rfl; have y2 := hb_at u2 2 rfl; have y3 := hb_at u2 3 rfl; have y4 := hb_at u2 4 rfl; clear hr5 hb5 u1 u2; cases r5))
      all_goals go_meet
      all_goals first
        | exact ⟨_, rfl, HB3.out, (by intro h; cases h)⟩
        | exact ⟨_, rfl, HB3.out.trans (HB5.out.mono HB3.out.size), (by intro h; cases h)⟩
    subst hp
    by_cases hn : n1 = n2
    rotate_left
    · have hn' : ¬ n1.toList = n2.toList := fun h => hn (toList_inj h)
      have hn2 := hn'
      have HP := Lib.hid hn
      clear hn
      go_wp2_with (first
        | (go_at_call 4; (with_reducible refine (few4_any d _ _ _ HTA.out).mono ?_); rintro e w3 ⟨r3, rfl, hr3, hb3⟩; have HR3 := Lib.hid hr3; have HB3 := Lib.hid hb3; have HTB3 := Lib.hid (HTB.out.below hb3); have u1 := hb_below I1.out hb3 (hb_lt I1.out); have u2 := hb_below I2.out hb3 (hb_lt I2.out); have x0 := hb_at u1 0 rfl; have x1 := hb_at u1 1 rfl; have x2 := hb_at u1 2 rfl; have x3 := hb_at u1 3 rfl; have x4 := hb_at u1 4 rfl; have y0 := hb_at u2 0 rfl; have y1 := hb_at u2 1 rfl; have y2 := hb_at u2 2 rfl; have y3 := hb_at u2 3 rfl; have y4 := hb_at u2 4 rfl; have I13 := Lib.hid u1; have I23 := Lib.hid u2; clear hr3 hb3 u1 u2; cases r3)
        | (go_at_call 4; (with_reducible refine (few4_any d _ _ _ HTB3.out).mono ?_); rintro e w5 ⟨r5, rfl, hr5, hb5⟩; have HR5 := Lib.hid hr5; have HB5 := Lib.hid hb5; have u1 := hb_below I13.out hb5 (hb_lt I13.out); have u2 := hb_below I23.out hb5 (hb_lt I23.out); have x0 := hb_at u1 0 rfl; have x1 := hb_at u1 1 rfl; have x2 := hb_at u1 2 rfl; have x3 := hb_at u1 3 rfl; have x4 := hb_at u1 4 rfl; have y0 := hb_at u2 0 rfl; have y1 := hb_at u2 1 rfl; have y2 := hb_at u2 2 rfl; have y3 := hb_at u2 3 rfl; have y4 := hb_at u2 4 rfl; clear hr5 hb5 u1 u2; cases r5))
      all_goals go_meet
      all_goals first
        | exact ⟨_, rfl, HB3.out.trans (HB5.out.mono HB3.out.size), (by intro h; first | (simp at h; done) | (simp at h; exact absurd h hn2))⟩
        | exact ⟨_, rfl, HB3.out, (by intro h; cases h)⟩
        | exact ⟨_, rfl, HB3.out.trans (HB5.out.mono HB3.out.size), (by intro h; cases h)⟩
    subst hn
    go_wp2_with (first
      | (go_at_call 4; (with_reducible refine (few4_any d _ _ _ HTA.out).mono ?_); rintro e w3 ⟨r3, rfl, hr3, hb3⟩; have HR3 := Lib.hid hr3; have HB3 := Lib.hid hb3; have HTB3 := Lib.hid (HTB.out.below hb3); have u1 := hb_below I1.out hb3 (hb_lt I1.out); have u2 := hb_below I2.out hb3 (hb_lt I2.out); have x0 := hb_at u1 0 rfl; have x1 := hb_at u1 1 rfl; have x2 := hb_at u1 2 rfl; have x3 := hb_at u1 3 rfl; have x4 := hb_at u1 4 rfl; have y0 := hb_at u2 0 rfl; have y1 := hb_at u2 1 rfl; have y2 := hb_at u2 2 rfl; have y3 := hb_at u2 3 rfl; have y4 := hb_at u2 4 rfl; have I13 := Lib.hid u1; have I23 := Lib.hid u2; clear hr3 hb3 u1 u2; cases r3)
      | (go_at_call 4; (with_reducible refine (few4_any d _ _ _ HTB3.out).mono ?_); rintro e w5 ⟨r5, rfl, hr5, hb5⟩; have HR5 := Lib.hid hr5; have HB5 := Lib.hid hb5; have u1 := hb_below I13.out hb5 (hb_lt I13.out); have u2 := hb_below I23.out hb5 (hb_lt I23.out); have x0 := hb_at u1 0 rfl; have x1 := hb_at u1 1 rfl; have x2 := hb_at u1 2 rfl; have x3 := hb_at u1 3 rfl; have x4 := hb_at u1 4 rfl; have y0 := hb_at u2 0 rfl; have y1 := hb_at u2 1 rfl; have y2 := hb_at u2 2 rfl; have y3 := hb_at u2 3 rfl; have y4 := hb_at u2 4 rfl; clear hr5 hb5 u1 u2; cases r5))
    all_goals go_meet
    all_goals first
      | exact ⟨_, rfl, HB3.out.trans (HB5.out.mono HB3.out.size), fun _ => ⟨HK1.out, rfl, rfl, rfl, HR3.out trivial, HR5.out trivial⟩⟩
      | exact ⟨_, rfl, HB3.out, (by intro h; cases h)⟩
      | exact ⟨_, rfl, HB3.out.trans (HB5.out.mono HB3.out.size), (by intro h; cases h)⟩
  case rest =>
    obtain ⟨r, rfl, hBc, hr⟩ := hcut
    have HBC := Lib.hid (HB0.out.trans (hBc.mono HB0.out.size))
    have J1 := Lib.hid (hb_below I1.out hBc (hb_lt I1.out))
    have J2 := Lib.hid (hb_below I2.out hBc (hb_lt I2.out))
    clear hBc I1 I2 HTA HTB HB0 x0 x1 x2 x3 x4 y0 y1 y2 y3 y4
    cases r
    rotate_left
    · clear hr
      go_wp2_with (go_at_call 5; ((with_reducible refine (alive_any _).mono ?_); rintro e w9 ⟨rfl, hb⟩))
      go_ret
      exact ⟨rfl, HBC.out.trans (hb.mono HBC.out.size)⟩
    obtain ⟨hk1, rfl, rfl, rfl, ⟨hsa, hza, hna⟩, ⟨hsb, hzb, hnb⟩⟩ := hr rfl
    have eta := HEA.out
    have etb := HEB.out
    subst eta
    subst etb
    have eN1 : N1 = 0 := hna
    have eN2 : N2 = 0 := hnb
    subst eN1
    subst eN2
    have HK := Lib.hid hk1
    have HAB : RowKit.Hid (Two w d (tv k1 p1 n1 0 (.slice q1 L1 c1)) (tv k1 p1 n1 0 (.slice q2 L2 c2)) _ _) := Lib.hid ⟨HA.out, HB.out, hsa, hsb, hza, hzb⟩
    have HXY : RowKit.Hid (Two w d (tv 4 ⟨#[]⟩ ⟨#[]⟩ 0 (.slice q1 L1 c1)) (tv 4 ⟨#[]⟩ ⟨#[]⟩ 0 (.slice q2 L2 c2)) _ _) := Lib.hid ⟨tuple_is HA.out, tuple_is HB.out, tuple_sm hsa, tuple_sm hsb, tuple_sz hza, tuple_sz hzb⟩
    clear hr hk1 hsa hza hna hsb hzb hnb HA HB HEA HEB
    generalize wc = wr at *
    have hz := HBC.out.size
    have j1 := hb_lt J1.out
    have j2 := hb_lt J2.out
    have C0 := Lib.hid (hb_at J1.out 4 rfl)
    have C1 := Lib.hid (hb_at J2.out 4 rfl)
    go_upto_region 3 with fail
    go_cut [5, 6] (fun v5 v6 wx => ∃ b5 b6, v5 = .pointer (some ⟨b5, 0, none⟩) ∧ v6 = .pointer (some ⟨b6, 0, none⟩) ∧ wx.heap[b5]? = some (.cells #[.int .i64 4, .string ⟨#[]⟩, .string ⟨#[]⟩, .int .i64 0, .slice q1 L1 c1] 24 (0, 0)) ∧ wx.heap[b6]? = some (.cells #[.int .i64 4, .string ⟨#[]⟩, .string ⟨#[]⟩, .int .i64 0, .slice q2 L2 c2] 24 (0, 0)) ∧ Below wr.heap.size wr wx)
    case first =>
      skip
      refine wp_region_held_drew (S := (fun w' => RowKit.Hid (Below wr.heap.size wr w') ∧ w'.cell? ⟨w.heap.size, 4, none⟩ = some (.slice q1 L1 c1) ∧ w'.cell? ⟨w.heap.size + 1, 4, none⟩ = some (.slice q2 L2 c2))) (by kernel_rfl) (by exact ⟨Lib.hid (below_drewN (Below.refl _ _) 1), C0.out, C1.out⟩) (fun hHeld => ?_)
      refine wpAnyH_take (i := 0) (oi := ⟨some 42, _, _, _, _, _⟩) (v := ?_) rfl (by kernel_rfl) (by kernel_rfl) (by kernel_rfl) (fun _ _ _ h => h) (Or.inl ⟨by rfl, ?_⟩) (by assumption) ?_
      rotate_left
      focus (intro w hSw; (try dsimp only at hSw); go_simp; first | done | with_reducible rfl)
      try simp only [Act.put, List.setIfInBounds_toArray, List.set_cons_zero, List.set_cons_succ]
      refine wpAnyH_take (i := 1) (oi := ⟨some 43, _, _, _, _, _⟩) (v := ?_) rfl (by kernel_rfl) (by kernel_rfl) (by kernel_rfl) (fun _ _ _ h => h) (Or.inl ⟨by rfl, ?_⟩) (by assumption) ?_
      rotate_left
      focus (intro w hSw; (try dsimp only at hSw); go_simp; first | done | with_reducible rfl)
      try simp only [Act.put, List.setIfInBounds_toArray, List.set_cons_zero, List.set_cons_succ]
      refine wpAnyH_take (i := 2) (oi := ⟨some 44, _, _, _, _, _⟩) (v := ?_) rfl (by kernel_rfl) (by kernel_rfl) (by kernel_rfl) (fun _ _ _ h => h) (Or.inl ⟨by rfl, ?_⟩) (by assumption) ?_
      rotate_left
      focus (intro w hSw; (try dsimp only at hSw); go_simp; first | done | with_reducible rfl)
      try simp only [Act.put, List.setIfInBounds_toArray, List.set_cons_zero, List.set_cons_succ]
      refine wpAnyH_take (i := 3) (oi := ⟨some 45, _, _, _, _, _⟩) (v := ?_) rfl (by kernel_rfl) (by kernel_rfl) (by kernel_rfl) (fun _ _ _ h => h) (Or.inl ⟨by rfl, ?_⟩) (by assumption) ?_
      rotate_left
      focus (intro w hSw; (try dsimp only at hSw); go_simp; first | done | with_reducible rfl)
      try simp only [Act.put, List.setIfInBounds_toArray, List.set_cons_zero, List.set_cons_succ]
      refine wpAnyH_take (i := 4) (oi := ⟨some 46, _, _, _, _, _⟩) (v := ?_) rfl (by kernel_rfl) (by kernel_rfl) (by kernel_rfl) (fun _ _ _ h => h) (Or.inl ⟨by rfl, ?_⟩) (by assumption) ?_
      rotate_left
      focus (intro w hSw; (try dsimp only at hSw); go_simp; first | done | with_reducible rfl)
      try simp only [Act.put, List.setIfInBounds_toArray, List.set_cons_zero, List.set_cons_succ]
      refine wpAnyH_take (i := 5) (oi := ⟨some 47, _, _, _, _, _⟩) (v := ?_) rfl (by kernel_rfl) (by kernel_rfl) (by kernel_rfl) (fun _ _ _ h => h) (Or.inl ⟨by rfl, ?_⟩) (by assumption) ?_
      rotate_left
      focus (intro w hSw; (try dsimp only at hSw); go_simp; first | done | with_reducible rfl)
      try simp only [Act.put, List.setIfInBounds_toArray, List.set_cons_zero, List.set_cons_succ]
      refine wpAnyH_ready (rs := [6, 7]) (by kernel_rfl) (by simp) ?_
      refine AllReadyH.cons (o := ⟨some 5, _, _, _, _, _⟩) rfl (fun K hK => ?_) (AllReadyH.cons (o := ⟨some 6, _, _, _, _, _⟩) rfl (fun K hK => ?_) AllReadyH.nil)
      · go_simp
        refine hK.out _ _ (by have hB' : Below wr.heap.size wr ((wr.alloc (.cells #[.int .i64 0, .string ⟨#[]⟩, .string ⟨#[]⟩, .int .i64 0, .slice none 0 0] 24)).drew) := below_drewN (below_alloc wr (.cells #[.int .i64 0, .string ⟨#[]⟩, .string ⟨#[]⟩, .int .i64 0, .slice none 0 0] 24)) 1; exact ⟨Lib.hid hB', keep_cell hB' C0.out, keep_cell hB' C1.out⟩) (fun hNew => ?_)
        clear hK K
        clear hHeld; have hHeld := hNew; clear hNew
        try simp only [Act.put, List.setIfInBounds_toArray, List.set_cons_zero, List.set_cons_succ]
        refine wpAnyH_ready (rs := [7]) (by kernel_rfl) (by simp) ?_
        refine AllReadyH.cons (o := ⟨some 6, _, _, _, _, _⟩) rfl (fun K hK => ?_) AllReadyH.nil
        go_simp
        refine hK.out _ _ (by have hB' : Below wr.heap.size wr (((wr.alloc (.cells #[.int .i64 0, .string ⟨#[]⟩, .string ⟨#[]⟩, .int .i64 0, .slice none 0 0] 24)).alloc (.cells #[.int .i64 0, .string ⟨#[]⟩, .string ⟨#[]⟩, .int .i64 0, .slice none 0 0] 24)).drew) := below_drewN (below2 wr (.cells #[.int .i64 0, .string ⟨#[]⟩, .string ⟨#[]⟩, .int .i64 0, .slice none 0 0] 24) (.cells #[.int .i64 0, .string ⟨#[]⟩, .string ⟨#[]⟩, .int .i64 0, .slice none 0 0] 24)) 1; exact ⟨Lib.hid hB', keep_cell hB' C0.out, keep_cell hB' C1.out⟩) (fun hNew => ?_)
        clear hK K
        clear hHeld; have hHeld := hNew; clear hNew
        try simp only [Act.put, List.setIfInBounds_toArray, List.set_cons_zero, List.set_cons_succ]
        refine wpAnyH_ready (rs := [8]) (by kernel_rfl) (by simp) ?_
        refine AllReadyH.cons (o := ⟨none, _, _, _, _, _⟩) rfl (fun K hK => ?_) AllReadyH.nil
        have HB2 : RowKit.Hid (Below wr.heap.size wr (((wr.alloc (.cells #[.int .i64 0, .string ⟨#[]⟩, .string ⟨#[]⟩, .int .i64 0, .slice none 0 0] 24)).alloc (.cells #[.int .i64 0, .string ⟨#[]⟩, .string ⟨#[]⟩, .int .i64 0, .slice none 0 0] 24)).drew)) := Lib.hid (below_drewN (below2 wr (.cells #[.int .i64 0, .string ⟨#[]⟩, .string ⟨#[]⟩, .int .i64 0, .slice none 0 0] 24) (.cells #[.int .i64 0, .string ⟨#[]⟩, .string ⟨#[]⟩, .int .i64 0, .slice none 0 0] 24)) 1)
        obtain ⟨hz0, hz1⟩ := two_new wr (.cells #[.int .i64 0, .string ⟨#[]⟩, .string ⟨#[]⟩, .int .i64 0, .slice none 0 0] 24) (.cells #[.int .i64 0, .string ⟨#[]⟩, .string ⟨#[]⟩, .int .i64 0, .slice none 0 0] 24)
        have hZ9 : (((wr.alloc (.cells #[.int .i64 0, .string ⟨#[]⟩, .string ⟨#[]⟩, .int .i64 0, .slice none 0 0] 24)).alloc (.cells #[.int .i64 0, .string ⟨#[]⟩, .string ⟨#[]⟩, .int .i64 0, .slice none 0 0] 24)).drew).heap[(wr.heap.size + 1)]? = some (.cells #[.int .i64 0, .string ⟨#[]⟩, .string ⟨#[]⟩, .int .i64 0, .slice none 0 0] 24 (0, 0)) := hz1
        have hZ8 : (((wr.alloc (.cells #[.int .i64 0, .string ⟨#[]⟩, .string ⟨#[]⟩, .int .i64 0, .slice none 0 0] 24)).alloc (.cells #[.int .i64 0, .string ⟨#[]⟩, .string ⟨#[]⟩, .int .i64 0, .slice none 0 0] 24)).drew).heap[wr.heap.size]? = some (.cells #[.int .i64 0, .string ⟨#[]⟩, .string ⟨#[]⟩, .int .i64 0, .slice none 0 0] 24 (0, 0)) := hz0
        clear hz0 hz1
        generalize ((wr.alloc (.cells #[.int .i64 0, .string ⟨#[]⟩, .string ⟨#[]⟩, .int .i64 0, .slice none 0 0] 24)).alloc (.cells #[.int .i64 0, .string ⟨#[]⟩, .string ⟨#[]⟩, .int .i64 0, .slice none 0 0] 24)).drew = D2 at *
        have HZ9 := Lib.hid hZ9
        have HZ8 := Lib.hid hZ8
        have e0 := hb_at hZ8 0 rfl
        have f0 := hb_free hZ8 0
        have e1 := hb_at hZ8 1 rfl
        have f1 := hb_free hZ8 1
        have e2 := hb_at hZ8 2 rfl
        have f2 := hb_free hZ8 2
        have e3 := hb_at hZ8 3 rfl
        have f3 := hb_free hZ8 3
        have e4 := hb_at hZ8 4 rfl
        have f4 := hb_free hZ8 4
        clear hZ8 hZ9
        go_simp
        refine hK.out _ _ (by have hB' : Below wr.heap.size wr ((((((D2.setCell ⟨wr.heap.size, 0, none⟩ (.int .i64 4)).setCell ⟨wr.heap.size, 1, none⟩ (.string ⟨#[]⟩)).setCell ⟨wr.heap.size, 2, none⟩ (.string ⟨#[]⟩)).setCell ⟨wr.heap.size, 3, none⟩ (.int .i64 0)).setCell ⟨wr.heap.size, 4, none⟩ (.slice q1 L1 c1))) := HB2.out.trans ((box_set (by omega) HZ8.out _ _ _ _ _).2.2.mono (Nat.le_refl _)); exact ⟨Lib.hid hB', keep_cell hB' C0.out, keep_cell hB' C1.out⟩) (fun hNew => ?_)
        clear hK K
        clear hHeld; have hHeld := hNew; clear hNew
        try simp only [Act.put, List.setIfInBounds_toArray, List.set_cons_zero, List.set_cons_succ]
        refine wpAnyH_ready (rs := [9]) (by kernel_rfl) (by simp) ?_
        refine AllReadyH.cons (o := ⟨none, _, _, _, _, _⟩) rfl (fun K hK => ?_) AllReadyH.nil
        clear e0 f0 e1 f1 e2 f2 e3 f3 e4 f4
        obtain ⟨u1, u2, u3⟩ := box_set (base := wr.heap.size) (by omega) HZ8.out (.int .i64 4) (.string ⟨#[]⟩) (.string ⟨#[]⟩) (.int .i64 0) (.slice q1 L1 c1)
        have hU9 := (u2 (wr.heap.size + 1) (by omega)).trans HZ9.out
        have HU8 := Lib.hid u1
        have HU9 := Lib.hid hU9
        have HB3 := Lib.hid (HB2.out.trans u3)
        clear u1 u2 u3
        generalize (((((D2.setCell ⟨wr.heap.size, 0, none⟩ (.int .i64 4)).setCell ⟨wr.heap.size, 1, none⟩ (.string ⟨#[]⟩)).setCell ⟨wr.heap.size, 2, none⟩ (.string ⟨#[]⟩)).setCell ⟨wr.heap.size, 3, none⟩ (.int .i64 0)).setCell ⟨wr.heap.size, 4, none⟩ (.slice q1 L1 c1)) = D3 at *
        have e0 := hb_at hU9 0 rfl
        have f0 := hb_free hU9 0
        have e1 := hb_at hU9 1 rfl
        have f1 := hb_free hU9 1
        have e2 := hb_at hU9 2 rfl
        have f2 := hb_free hU9 2
        have e3 := hb_at hU9 3 rfl
        have f3 := hb_free hU9 3
        have e4 := hb_at hU9 4 rfl
        have f4 := hb_free hU9 4
        clear hU9
        go_simp
        refine hK.out _ _ (by have hB' : Below wr.heap.size wr ((((((D3.setCell ⟨(wr.heap.size + 1), 0, none⟩ (.int .i64 4)).setCell ⟨(wr.heap.size + 1), 1, none⟩ (.string ⟨#[]⟩)).setCell ⟨(wr.heap.size + 1), 2, none⟩ (.string ⟨#[]⟩)).setCell ⟨(wr.heap.size + 1), 3, none⟩ (.int .i64 0)).setCell ⟨(wr.heap.size + 1), 4, none⟩ (.slice q2 L2 c2))) := HB3.out.trans (box_set (by omega) HU9.out _ _ _ _ _).2.2; exact ⟨Lib.hid hB', keep_cell hB' C0.out, keep_cell hB' C1.out⟩) (fun hNew => ?_)
        clear hK K
        clear hHeld; have hHeld := hNew; clear hNew
        try simp only [Act.put, List.setIfInBounds_toArray, List.set_cons_zero, List.set_cons_succ]
        refine wpAnyH_done (by kernel_rfl) ?_ _
        go_wp2_with fail
        go_meet
        obtain ⟨u1, u2, u3⟩ := box_set (base := wr.heap.size) (by omega) HU9.out (.int .i64 4) (.string ⟨#[]⟩) (.string ⟨#[]⟩) (.int .i64 0) (.slice q2 L2 c2)
        exact ⟨_, _, rfl, rfl, (u2 wr.heap.size (by omega)).trans HU8.out, u1, HB3.out.trans u3⟩
      · go_simp
        refine hK.out _ _ (by have hB' : Below wr.heap.size wr ((wr.alloc (.cells #[.int .i64 0, .string ⟨#[]⟩, .string ⟨#[]⟩, .int .i64 0, .slice none 0 0] 24)).drew) := below_drewN (below_alloc wr (.cells #[.int .i64 0, .string ⟨#[]⟩, .string ⟨#[]⟩, .int .i64 0, .slice none 0 0] 24)) 1; exact ⟨Lib.hid hB', keep_cell hB' C0.out, keep_cell hB' C1.out⟩) (fun hNew => ?_)
        clear hK K
        clear hHeld; have hHeld := hNew; clear hNew
        try simp only [Act.put, List.setIfInBounds_toArray, List.set_cons_zero, List.set_cons_succ]
        refine wpAnyH_ready (rs := [6]) (by kernel_rfl) (by simp) ?_
        refine AllReadyH.cons (o := ⟨some 5, _, _, _, _, _⟩) rfl (fun K hK => ?_) AllReadyH.nil
        go_simp
        refine hK.out _ _ (by have hB' : Below wr.heap.size wr (((wr.alloc (.cells #[.int .i64 0, .string ⟨#[]⟩, .string ⟨#[]⟩, .int .i64 0, .slice none 0 0] 24)).alloc (.cells #[.int .i64 0, .string ⟨#[]⟩, .string ⟨#[]⟩, .int .i64 0, .slice none 0 0] 24)).drew) := below_drewN (below2 wr (.cells #[.int .i64 0, .string ⟨#[]⟩, .string ⟨#[]⟩, .int .i64 0, .slice none 0 0] 24) (.cells #[.int .i64 0, .string ⟨#[]⟩, .string ⟨#[]⟩, .int .i64 0, .slice none 0 0] 24)) 1; exact ⟨Lib.hid hB', keep_cell hB' C0.out, keep_cell hB' C1.out⟩) (fun hNew => ?_)
        clear hK K
        clear hHeld; have hHeld := hNew; clear hNew
        try simp only [Act.put, List.setIfInBounds_toArray, List.set_cons_zero, List.set_cons_succ]
        refine wpAnyH_ready (rs := [8]) (by kernel_rfl) (by simp) ?_
        refine AllReadyH.cons (o := ⟨none, _, _, _, _, _⟩) rfl (fun K hK => ?_) AllReadyH.nil
        have HB2 : RowKit.Hid (Below wr.heap.size wr (((wr.alloc (.cells #[.int .i64 0, .string ⟨#[]⟩, .string ⟨#[]⟩, .int .i64 0, .slice none 0 0] 24)).alloc (.cells #[.int .i64 0, .string ⟨#[]⟩, .string ⟨#[]⟩, .int .i64 0, .slice none 0 0] 24)).drew)) := Lib.hid (below_drewN (below2 wr (.cells #[.int .i64 0, .string ⟨#[]⟩, .string ⟨#[]⟩, .int .i64 0, .slice none 0 0] 24) (.cells #[.int .i64 0, .string ⟨#[]⟩, .string ⟨#[]⟩, .int .i64 0, .slice none 0 0] 24)) 1)
        obtain ⟨hz0, hz1⟩ := two_new wr (.cells #[.int .i64 0, .string ⟨#[]⟩, .string ⟨#[]⟩, .int .i64 0, .slice none 0 0] 24) (.cells #[.int .i64 0, .string ⟨#[]⟩, .string ⟨#[]⟩, .int .i64 0, .slice none 0 0] 24)
        have hZ9 : (((wr.alloc (.cells #[.int .i64 0, .string ⟨#[]⟩, .string ⟨#[]⟩, .int .i64 0, .slice none 0 0] 24)).alloc (.cells #[.int .i64 0, .string ⟨#[]⟩, .string ⟨#[]⟩, .int .i64 0, .slice none 0 0] 24)).drew).heap[wr.heap.size]? = some (.cells #[.int .i64 0, .string ⟨#[]⟩, .string ⟨#[]⟩, .int .i64 0, .slice none 0 0] 24 (0, 0)) := hz0
        have hZ8 : (((wr.alloc (.cells #[.int .i64 0, .string ⟨#[]⟩, .string ⟨#[]⟩, .int .i64 0, .slice none 0 0] 24)).alloc (.cells #[.int .i64 0, .string ⟨#[]⟩, .string ⟨#[]⟩, .int .i64 0, .slice none 0 0] 24)).drew).heap[(wr.heap.size + 1)]? = some (.cells #[.int .i64 0, .string ⟨#[]⟩, .string ⟨#[]⟩, .int .i64 0, .slice none 0 0] 24 (0, 0)) := hz1
        clear hz0 hz1
        generalize ((wr.alloc (.cells #[.int .i64 0, .string ⟨#[]⟩, .string ⟨#[]⟩, .int .i64 0, .slice none 0 0] 24)).alloc (.cells #[.int .i64 0, .string ⟨#[]⟩, .string ⟨#[]⟩, .int .i64 0, .slice none 0 0] 24)).drew = D2 at *
        have HZ9 := Lib.hid hZ9
        have HZ8 := Lib.hid hZ8
        have e0 := hb_at hZ8 0 rfl
        have f0 := hb_free hZ8 0
        have e1 := hb_at hZ8 1 rfl
        have f1 := hb_free hZ8 1
        have e2 := hb_at hZ8 2 rfl
        have f2 := hb_free hZ8 2
        have e3 := hb_at hZ8 3 rfl
        have f3 := hb_free hZ8 3
        have e4 := hb_at hZ8 4 rfl
        have f4 := hb_free hZ8 4
        clear hZ8 hZ9
        go_simp
        refine hK.out _ _ (by have hB' : Below wr.heap.size wr ((((((D2.setCell ⟨(wr.heap.size + 1), 0, none⟩ (.int .i64 4)).setCell ⟨(wr.heap.size + 1), 1, none⟩ (.string ⟨#[]⟩)).setCell ⟨(wr.heap.size + 1), 2, none⟩ (.string ⟨#[]⟩)).setCell ⟨(wr.heap.size + 1), 3, none⟩ (.int .i64 0)).setCell ⟨(wr.heap.size + 1), 4, none⟩ (.slice q1 L1 c1))) := HB2.out.trans ((box_set (by omega) HZ8.out _ _ _ _ _).2.2.mono (Nat.le_refl _)); exact ⟨Lib.hid hB', keep_cell hB' C0.out, keep_cell hB' C1.out⟩) (fun hNew => ?_)
        clear hK K
        clear hHeld; have hHeld := hNew; clear hNew
        try simp only [Act.put, List.setIfInBounds_toArray, List.set_cons_zero, List.set_cons_succ]
        refine wpAnyH_ready (rs := [9]) (by kernel_rfl) (by simp) ?_
        refine AllReadyH.cons (o := ⟨none, _, _, _, _, _⟩) rfl (fun K hK => ?_) AllReadyH.nil
        clear e0 f0 e1 f1 e2 f2 e3 f3 e4 f4
        obtain ⟨u1, u2, u3⟩ := box_set (base := wr.heap.size) (by omega) HZ8.out (.int .i64 4) (.string ⟨#[]⟩) (.string ⟨#[]⟩) (.int .i64 0) (.slice q1 L1 c1)
        have hU9 := (u2 wr.heap.size (by omega)).trans HZ9.out
        have HU8 := Lib.hid u1
        have HU9 := Lib.hid hU9
        have HB3 := Lib.hid (HB2.out.trans u3)
        clear u1 u2 u3
        generalize (((((D2.setCell ⟨(wr.heap.size + 1), 0, none⟩ (.int .i64 4)).setCell ⟨(wr.heap.size + 1), 1, none⟩ (.string ⟨#[]⟩)).setCell ⟨(wr.heap.size + 1), 2, none⟩ (.string ⟨#[]⟩)).setCell ⟨(wr.heap.size + 1), 3, none⟩ (.int .i64 0)).setCell ⟨(wr.heap.size + 1), 4, none⟩ (.slice q1 L1 c1)) = D3 at *
        have e0 := hb_at hU9 0 rfl
        have f0 := hb_free hU9 0
        have e1 := hb_at hU9 1 rfl
        have f1 := hb_free hU9 1
        have e2 := hb_at hU9 2 rfl
        have f2 := hb_free hU9 2
        have e3 := hb_at hU9 3 rfl
        have f3 := hb_free hU9 3
        have e4 := hb_at hU9 4 rfl
        have f4 := hb_free hU9 4
        clear hU9
        go_simp
        refine hK.out _ _ (by have hB' : Below wr.heap.size wr ((((((D3.setCell ⟨wr.heap.size, 0, none⟩ (.int .i64 4)).setCell ⟨wr.heap.size, 1, none⟩ (.string ⟨#[]⟩)).setCell ⟨wr.heap.size, 2, none⟩ (.string ⟨#[]⟩)).setCell ⟨wr.heap.size, 3, none⟩ (.int .i64 0)).setCell ⟨wr.heap.size, 4, none⟩ (.slice q2 L2 c2))) := HB3.out.trans (box_set (by omega) HU9.out _ _ _ _ _).2.2; exact ⟨Lib.hid hB', keep_cell hB' C0.out, keep_cell hB' C1.out⟩) (fun hNew => ?_)
        clear hK K
        clear hHeld; have hHeld := hNew; clear hNew
        try simp only [Act.put, List.setIfInBounds_toArray, List.set_cons_zero, List.set_cons_succ]
        refine wpAnyH_done (by kernel_rfl) ?_ _
        go_wp2_with fail
        go_meet
        obtain ⟨u1, u2, u3⟩ := box_set (base := wr.heap.size) (by omega) HU9.out (.int .i64 4) (.string ⟨#[]⟩) (.string ⟨#[]⟩) (.int .i64 0) (.slice q2 L2 c2)
        exact ⟨_, _, rfl, rfl, (u2 (wr.heap.size + 1) (by omega)).trans HU8.out, u1, HB3.out.trans u3⟩
    case rest =>
      obtain ⟨b5, b6, rfl, rfl, h5, h6, hBx⟩ := hcut
      have HWC := Lib.hid (HBC.out.trans (hBx.mono hz))
      have J1 := Lib.hid (hb_below J1.out hBx j1)
      have J2 := Lib.hid (hb_below J2.out hBx j2)
      have J5 := Lib.hid h5
      have J6 := Lib.hid h6
      have HAB := Lib.hid (HAB.out.below HWC.out)
      have HXY := Lib.hid (HXY.out.below HWC.out)
      clear h5 h6 hBx C0 C1
      go_upto_region 4 with fail
      refine wp_region_held_drew (S := (fun w' => RowKit.Hid (Below wc.heap.size wc w') ∧ w'.cell? ⟨w.heap.size, 0, none⟩ = some (.int .i64 k1) ∧ w'.cell? ⟨w.heap.size, 1, none⟩ = some (.string p1) ∧ w'.cell? ⟨w.heap.size, 2, none⟩ = some (.string n1) ∧ w'.cell? ⟨w.heap.size, 3, none⟩ = some (.int .i64 0) ∧ w'.cell? ⟨w.heap.size, 4, none⟩ = some (.slice q1 L1 c1) ∧ w'.cell? ⟨w.heap.size + 1, 0, none⟩ = some (.int .i64 k1) ∧ w'.cell? ⟨w.heap.size + 1, 1, none⟩ = some (.string p1) ∧ w'.cell? ⟨w.heap.size + 1, 2, none⟩ = some (.string n1) ∧ w'.cell? ⟨w.heap.size + 1, 3, none⟩ = some (.int .i64 0) ∧ w'.cell? ⟨w.heap.size + 1, 4, none⟩ = some (.slice q2 L2 c2) ∧ w'.cell? ⟨b5, 0, none⟩ = some (.int .i64 4) ∧ w'.cell? ⟨b5, 1, none⟩ = some (.string ⟨#[]⟩) ∧ w'.cell? ⟨b5, 2, none⟩ = some (.string ⟨#[]⟩) ∧ w'.cell? ⟨b5, 3, none⟩ = some (.int .i64 0) ∧ w'.cell? ⟨b5, 4, none⟩ = some (.slice q1 L1 c1) ∧ w'.cell? ⟨b6, 0, none⟩ = some (.int .i64 4) ∧ w'.cell? ⟨b6, 1, none⟩ = some (.string ⟨#[]⟩) ∧ w'.cell? ⟨b6, 2, none⟩ = some (.string ⟨#[]⟩) ∧ w'.cell? ⟨b6, 3, none⟩ = some (.int .i64 0) ∧ w'.cell? ⟨b6, 4, none⟩ = some (.slice q2 L2 c2))) (by kernel_rfl) (by exact ⟨Lib.hid (below_drewN (Below.refl _ _) 1), (hb_at J1.out 0 rfl), (hb_at J1.out 1 rfl), (hb_at J1.out 2 rfl), (hb_at J1.out 3 rfl), (hb_at J1.out 4 rfl), (hb_at J2.out 0 rfl), (hb_at J2.out 1 rfl), (hb_at J2.out 2 rfl), (hb_at J2.out 3 rfl), (hb_at J2.out 4 rfl), (hb_at J5.out 0 rfl), (hb_at J5.out 1 rfl), (hb_at J5.out 2 rfl), (hb_at J5.out 3 rfl), (hb_at J5.out 4 rfl), (hb_at J6.out 0 rfl), (hb_at J6.out 1 rfl), (hb_at J6.out 2 rfl), (hb_at J6.out 3 rfl), (hb_at J6.out 4 rfl)⟩) (fun hHeld => ?_)
      refine wpAnyH_take (i := 0) (oi := ⟨some 48, _, _, _, _, _⟩) (v := ?_) rfl (by kernel_rfl) (by kernel_rfl) (by kernel_rfl) (fun _ _ _ h => h) (Or.inl ⟨by rfl, ?_⟩) (by assumption) ?_
      rotate_left
      focus (intro w hSw; (try dsimp only at hSw); go_simp; first | done | with_reducible rfl)
      try simp only [Act.put, List.setIfInBounds_toArray, List.set_cons_zero, List.set_cons_succ]
      refine wpAnyH_take (i := 1) (oi := ⟨some 49, _, _, _, _, _⟩) (v := ?_) rfl (by kernel_rfl) (by kernel_rfl) (by kernel_rfl) (fun _ _ _ h => h) (Or.inl ⟨by rfl, ?_⟩) (by assumption) ?_
      rotate_left
      focus (intro w hSw; (try dsimp only at hSw); go_simp; first | done | with_reducible rfl)
      try simp only [Act.put, List.setIfInBounds_toArray, List.set_cons_zero, List.set_cons_succ]
      refine wpAnyH_take (i := 3) (oi := ⟨some 51, _, _, _, _, _⟩) (v := ?_) rfl (by kernel_rfl) (by kernel_rfl) (by kernel_rfl) (fun _ _ _ h => h) (Or.inl ⟨by rfl, ?_⟩) (by assumption) ?_
      rotate_left
      focus (intro w hSw; (try dsimp only at hSw); go_simp; first | done | with_reducible rfl)
      try simp only [Act.put, List.setIfInBounds_toArray, List.set_cons_zero, List.set_cons_succ]
      refine wpAnyH_take (i := 4) (oi := ⟨some 52, _, _, _, _, _⟩) (v := ?_) rfl (by kernel_rfl) (by kernel_rfl) (by kernel_rfl) (fun _ _ _ h => h) (Or.inl ⟨by rfl, ?_⟩) (by assumption) ?_
      rotate_left
      focus (intro w hSw; (try dsimp only at hSw); go_simp; first | done | with_reducible rfl)
      try simp only [Act.put, List.setIfInBounds_toArray, List.set_cons_zero, List.set_cons_succ]
      refine wpAnyH_ready (rs := [2]) (by kernel_rfl) (by simp) ?_
      refine AllReadyH.cons (o := ⟨some 50, _, _, _, _, _⟩) rfl (fun K hK => ?_) AllReadyH.nil
      go_simp
      ((with_reducible refine (above_any d _ _ _ _ _ (HAB.out.below hHeld.1.out)).mono ?_); rintro e v1 ⟨r1, rfl, hm, hb⟩; have HM1 := Lib.hid hm; clear hm)
      go_wp2_with fail
      refine hK.out _ _ (by exact ⟨Lib.hid (hHeld.1.out.trans (hb.mono hHeld.1.out.size)), keep_cell hb hHeld.2.1, keep_cell hb hHeld.2.2.1, keep_cell hb hHeld.2.2.2.1, keep_cell hb hHeld.2.2.2.2.1, keep_cell hb hHeld.2.2.2.2.2.1, keep_cell hb hHeld.2.2.2.2.2.2.1, keep_cell hb hHeld.2.2.2.2.2.2.2.1, keep_cell hb hHeld.2.2.2.2.2.2.2.2.1, keep_cell hb hHeld.2.2.2.2.2.2.2.2.2.1, keep_cell hb hHeld.2.2.2.2.2.2.2.2.2.2.1, keep_cell hb hHeld.2.2.2.2.2.2.2.2.2.2.2.1, keep_cell hb hHeld.2.2.2.2.2.2.2.2.2.2.2.2.1, keep_cell hb hHeld.2.2.2.2.2.2.2.2.2.2.2.2.2.1, keep_cell hb hHeld.2.2.2.2.2.2.2.2.2.2.2.2.2.2.1, keep_cell hb hHeld.2.2.2.2.2.2.2.2.2.2.2.2.2.2.2.1, keep_cell hb hHeld.2.2.2.2.2.2.2.2.2.2.2.2.2.2.2.2.1, keep_cell hb hHeld.2.2.2.2.2.2.2.2.2.2.2.2.2.2.2.2.2.1, keep_cell hb hHeld.2.2.2.2.2.2.2.2.2.2.2.2.2.2.2.2.2.2.1, keep_cell hb hHeld.2.2.2.2.2.2.2.2.2.2.2.2.2.2.2.2.2.2.2.1, keep_cell hb hHeld.2.2.2.2.2.2.2.2.2.2.2.2.2.2.2.2.2.2.2.2⟩) (fun hNew => ?_)
      clear hK K
      clear hHeld hb; have hHeld := hNew; clear hNew
      try simp only [Act.put, List.setIfInBounds_toArray, List.set_cons_zero, List.set_cons_succ]
      refine wpAnyH_ready (rs := [5]) (by kernel_rfl) (by simp) ?_
      refine AllReadyH.cons (o := ⟨some 53, _, _, _, _, _⟩) rfl (fun K hK => ?_) AllReadyH.nil
      go_simp
      ((with_reducible refine (above_any d _ _ _ _ _ (HXY.out.below hHeld.1.out)).mono ?_); rintro e v2 ⟨r2, rfl, hm, hb⟩; obtain rfl := Mt.parts HK.out HM1.out hm; clear hm)
      go_wp2_with fail
      refine hK.out _ _ (by exact ⟨Lib.hid (hHeld.1.out.trans (hb.mono hHeld.1.out.size)), keep_cell hb hHeld.2.1, keep_cell hb hHeld.2.2.1, keep_cell hb hHeld.2.2.2.1, keep_cell hb hHeld.2.2.2.2.1, keep_cell hb hHeld.2.2.2.2.2.1, keep_cell hb hHeld.2.2.2.2.2.2.1, keep_cell hb hHeld.2.2.2.2.2.2.2.1, keep_cell hb hHeld.2.2.2.2.2.2.2.2.1, keep_cell hb hHeld.2.2.2.2.2.2.2.2.2.1, keep_cell hb hHeld.2.2.2.2.2.2.2.2.2.2.1, keep_cell hb hHeld.2.2.2.2.2.2.2.2.2.2.2.1, keep_cell hb hHeld.2.2.2.2.2.2.2.2.2.2.2.2.1, keep_cell hb hHeld.2.2.2.2.2.2.2.2.2.2.2.2.2.1, keep_cell hb hHeld.2.2.2.2.2.2.2.2.2.2.2.2.2.2.1, keep_cell hb hHeld.2.2.2.2.2.2.2.2.2.2.2.2.2.2.2.1, keep_cell hb hHeld.2.2.2.2.2.2.2.2.2.2.2.2.2.2.2.2.1, keep_cell hb hHeld.2.2.2.2.2.2.2.2.2.2.2.2.2.2.2.2.2.1, keep_cell hb hHeld.2.2.2.2.2.2.2.2.2.2.2.2.2.2.2.2.2.2.1, keep_cell hb hHeld.2.2.2.2.2.2.2.2.2.2.2.2.2.2.2.2.2.2.2.1, keep_cell hb hHeld.2.2.2.2.2.2.2.2.2.2.2.2.2.2.2.2.2.2.2.2⟩) (fun hNew => ?_)
      clear hK K
      clear hHeld hb; have hHeld := hNew; clear hNew
      try simp only [Act.put, List.setIfInBounds_toArray, List.set_cons_zero, List.set_cons_succ]
      refine wpAnyH_take (i := 6) (oi := ⟨some 54, _, _, _, _, _⟩) (v := ?_) rfl (by kernel_rfl) (by kernel_rfl) (by kernel_rfl) (fun _ _ _ h => h) (Or.inl ⟨by rfl, ?_⟩) (by assumption) ?_
      rotate_left
      focus (intro w hSw; (try dsimp only at hSw); go_simp; first | done | with_reducible rfl)
      try simp only [Act.put, List.setIfInBounds_toArray, List.set_cons_zero, List.set_cons_succ]
      refine wpAnyH_take (i := 7) (oi := ⟨some 55, _, _, _, _, _⟩) (v := ?_) rfl (by kernel_rfl) (by kernel_rfl) (by kernel_rfl) (fun _ _ _ h => h) (Or.inl ⟨by rfl, ?_⟩) (by assumption) ?_
      rotate_left
      focus (intro w hSw; (try dsimp only at hSw); go_simp; first | done | with_reducible rfl)
      try simp only [Act.put, List.setIfInBounds_toArray, List.set_cons_zero, List.set_cons_succ]
      refine wpAnyH_take (i := 8) (oi := ⟨some 56, _, _, _, _, _⟩) (v := ?_) rfl (by kernel_rfl) (by kernel_rfl) (by kernel_rfl) (fun _ _ _ h => h) (Or.inl ⟨by rfl, ?_⟩) (by assumption) ?_
      rotate_left
      focus (intro w hSw; (try dsimp only at hSw); go_simp; first | done | with_reducible rfl)
      try simp only [Act.put, List.setIfInBounds_toArray, List.set_cons_zero, List.set_cons_succ]
      refine wpAnyH_take (i := 9) (oi := ⟨some 57, _, _, _, _, _⟩) (v := ?_) rfl (by kernel_rfl) (by kernel_rfl) (by kernel_rfl) (fun _ _ _ h => h) (Or.inl ⟨by rfl, ?_⟩) (by assumption) ?_
      rotate_left
      focus (intro w hSw; (try dsimp only at hSw); go_simp; first | done | with_reducible rfl)
      try simp only [Act.put, List.setIfInBounds_toArray, List.set_cons_zero, List.set_cons_succ]
      refine wpAnyH_take (i := 11) (oi := ⟨some 59, _, _, _, _, _⟩) (v := ?_) rfl (by kernel_rfl) (by kernel_rfl) (by kernel_rfl) (fun _ _ _ h => h) (Or.inl ⟨by rfl, ?_⟩) (by assumption) ?_
      rotate_left
      focus (intro w hSw; (try dsimp only at hSw); go_simp; first | done | with_reducible rfl)
      try simp only [Act.put, List.setIfInBounds_toArray, List.set_cons_zero, List.set_cons_succ]
      refine wpAnyH_take (i := 12) (oi := ⟨some 60, _, _, _, _, _⟩) (v := ?_) rfl (by kernel_rfl) (by kernel_rfl) (by kernel_rfl) (fun _ _ _ h => h) (Or.inl ⟨by rfl, ?_⟩) (by assumption) ?_
      rotate_left
      focus (intro w hSw; (try dsimp only at hSw); go_simp; first | done | with_reducible rfl)
      try simp only [Act.put, List.setIfInBounds_toArray, List.set_cons_zero, List.set_cons_succ]
      refine wpAnyH_ready (rs := [10]) (by kernel_rfl) (by simp) ?_
      refine AllReadyH.cons (o := ⟨some 58, _, _, _, _, _⟩) rfl (fun K hK => ?_) AllReadyH.nil
      go_simp
      ((with_reducible refine (same7_any d _ _ _ _ _ (HAB.out.below hHeld.1.out)).mono ?_); rintro e v3 ⟨r3, rfl, hm, hb⟩; have HM3 := Lib.hid hm; clear hm)
      go_wp2_with fail
      refine hK.out _ _ (by exact ⟨Lib.hid (hHeld.1.out.trans (hb.mono hHeld.1.out.size)), keep_cell hb hHeld.2.1, keep_cell hb hHeld.2.2.1, keep_cell hb hHeld.2.2.2.1, keep_cell hb hHeld.2.2.2.2.1, keep_cell hb hHeld.2.2.2.2.2.1, keep_cell hb hHeld.2.2.2.2.2.2.1, keep_cell hb hHeld.2.2.2.2.2.2.2.1, keep_cell hb hHeld.2.2.2.2.2.2.2.2.1, keep_cell hb hHeld.2.2.2.2.2.2.2.2.2.1, keep_cell hb hHeld.2.2.2.2.2.2.2.2.2.2.1, keep_cell hb hHeld.2.2.2.2.2.2.2.2.2.2.2.1, keep_cell hb hHeld.2.2.2.2.2.2.2.2.2.2.2.2.1, keep_cell hb hHeld.2.2.2.2.2.2.2.2.2.2.2.2.2.1, keep_cell hb hHeld.2.2.2.2.2.2.2.2.2.2.2.2.2.2.1, keep_cell hb hHeld.2.2.2.2.2.2.2.2.2.2.2.2.2.2.2.1, keep_cell hb hHeld.2.2.2.2.2.2.2.2.2.2.2.2.2.2.2.2.1, keep_cell hb hHeld.2.2.2.2.2.2.2.2.2.2.2.2.2.2.2.2.2.1, keep_cell hb hHeld.2.2.2.2.2.2.2.2.2.2.2.2.2.2.2.2.2.2.1, keep_cell hb hHeld.2.2.2.2.2.2.2.2.2.2.2.2.2.2.2.2.2.2.2.1, keep_cell hb hHeld.2.2.2.2.2.2.2.2.2.2.2.2.2.2.2.2.2.2.2.2⟩) (fun hNew => ?_)
      clear hK K
      clear hHeld hb; have hHeld := hNew; clear hNew
      try simp only [Act.put, List.setIfInBounds_toArray, List.set_cons_zero, List.set_cons_succ]
      refine wpAnyH_ready (rs := [13]) (by kernel_rfl) (by simp) ?_
      refine AllReadyH.cons (o := ⟨some 61, _, _, _, _, _⟩) rfl (fun K hK => ?_) AllReadyH.nil
      go_simp
      ((with_reducible refine (same7_any d _ _ _ _ _ (HXY.out.below hHeld.1.out)).mono ?_); rintro e v4 ⟨r4, rfl, hm, hb⟩; obtain rfl := SameM.parts HK.out HM3.out hm; clear hm)
      go_wp2_with fail
      refine hK.out _ _ (by exact ⟨Lib.hid (hHeld.1.out.trans (hb.mono hHeld.1.out.size)), keep_cell hb hHeld.2.1, keep_cell hb hHeld.2.2.1, keep_cell hb hHeld.2.2.2.1, keep_cell hb hHeld.2.2.2.2.1, keep_cell hb hHeld.2.2.2.2.2.1, keep_cell hb hHeld.2.2.2.2.2.2.1, keep_cell hb hHeld.2.2.2.2.2.2.2.1, keep_cell hb hHeld.2.2.2.2.2.2.2.2.1, keep_cell hb hHeld.2.2.2.2.2.2.2.2.2.1, keep_cell hb hHeld.2.2.2.2.2.2.2.2.2.2.1, keep_cell hb hHeld.2.2.2.2.2.2.2.2.2.2.2.1, keep_cell hb hHeld.2.2.2.2.2.2.2.2.2.2.2.2.1, keep_cell hb hHeld.2.2.2.2.2.2.2.2.2.2.2.2.2.1, keep_cell hb hHeld.2.2.2.2.2.2.2.2.2.2.2.2.2.2.1, keep_cell hb hHeld.2.2.2.2.2.2.2.2.2.2.2.2.2.2.2.1, keep_cell hb hHeld.2.2.2.2.2.2.2.2.2.2.2.2.2.2.2.2.1, keep_cell hb hHeld.2.2.2.2.2.2.2.2.2.2.2.2.2.2.2.2.2.1, keep_cell hb hHeld.2.2.2.2.2.2.2.2.2.2.2.2.2.2.2.2.2.2.1, keep_cell hb hHeld.2.2.2.2.2.2.2.2.2.2.2.2.2.2.2.2.2.2.2.1, keep_cell hb hHeld.2.2.2.2.2.2.2.2.2.2.2.2.2.2.2.2.2.2.2.2⟩) (fun hNew => ?_)
      clear hK K
      clear hHeld hb; have hHeld := hNew; clear hNew
      try simp only [Act.put, List.setIfInBounds_toArray, List.set_cons_zero, List.set_cons_succ]
      refine wpAnyH_take (i := 14) (oi := ⟨some 62, _, _, _, _, _⟩) (v := ?_) rfl (by kernel_rfl) (by kernel_rfl) (by kernel_rfl) (fun _ _ _ h => h) (Or.inl ⟨by rfl, ?_⟩) (by assumption) ?_
      rotate_left
      focus (intro w hSw; (try dsimp only at hSw); go_simp; first | done | with_reducible rfl)
      try simp only [Act.put, List.setIfInBounds_toArray, List.set_cons_zero, List.set_cons_succ]
      refine wpAnyH_take (i := 15) (oi := ⟨some 63, _, _, _, _, _⟩) (v := ?_) rfl (by kernel_rfl) (by kernel_rfl) (by kernel_rfl) (fun _ _ _ h => h) (Or.inl ⟨by rfl, ?_⟩) (by assumption) ?_
      rotate_left
      focus (intro w hSw; (try dsimp only at hSw); go_simp; first | done | with_reducible rfl)
      try simp only [Act.put, List.setIfInBounds_toArray, List.set_cons_zero, List.set_cons_succ]
      refine wpAnyH_take (i := 16) (oi := ⟨some 64, _, _, _, _, _⟩) (v := ?_) rfl (by kernel_rfl) (by kernel_rfl) (by kernel_rfl) (fun _ _ _ h => h) (Or.inl ⟨by rfl, ?_⟩) (by assumption) ?_
      rotate_left
      focus (intro w hSw; (try dsimp only at hSw); go_simp; first | done | with_reducible rfl)
      try simp only [Act.put, List.setIfInBounds_toArray, List.set_cons_zero, List.set_cons_succ]
      refine wpAnyH_ready (rs := [17]) (by kernel_rfl) (by simp) ?_
      refine AllReadyH.cons (o := ⟨some 65, _, _, _, _, _⟩) rfl (fun K hK => ?_) AllReadyH.nil
      go_simp
      ((with_reducible refine (alive_any _).mono ?_); rintro e v5 ⟨rfl, hb⟩)
      go_wp2_with fail
      refine hK.out _ _ (by exact ⟨Lib.hid (hHeld.1.out.trans (hb.mono hHeld.1.out.size)), keep_cell hb hHeld.2.1, keep_cell hb hHeld.2.2.1, keep_cell hb hHeld.2.2.2.1, keep_cell hb hHeld.2.2.2.2.1, keep_cell hb hHeld.2.2.2.2.2.1, keep_cell hb hHeld.2.2.2.2.2.2.1, keep_cell hb hHeld.2.2.2.2.2.2.2.1, keep_cell hb hHeld.2.2.2.2.2.2.2.2.1, keep_cell hb hHeld.2.2.2.2.2.2.2.2.2.1, keep_cell hb hHeld.2.2.2.2.2.2.2.2.2.2.1, keep_cell hb hHeld.2.2.2.2.2.2.2.2.2.2.2.1, keep_cell hb hHeld.2.2.2.2.2.2.2.2.2.2.2.2.1, keep_cell hb hHeld.2.2.2.2.2.2.2.2.2.2.2.2.2.1, keep_cell hb hHeld.2.2.2.2.2.2.2.2.2.2.2.2.2.2.1, keep_cell hb hHeld.2.2.2.2.2.2.2.2.2.2.2.2.2.2.2.1, keep_cell hb hHeld.2.2.2.2.2.2.2.2.2.2.2.2.2.2.2.2.1, keep_cell hb hHeld.2.2.2.2.2.2.2.2.2.2.2.2.2.2.2.2.2.1, keep_cell hb hHeld.2.2.2.2.2.2.2.2.2.2.2.2.2.2.2.2.2.2.1, keep_cell hb hHeld.2.2.2.2.2.2.2.2.2.2.2.2.2.2.2.2.2.2.2.1, keep_cell hb hHeld.2.2.2.2.2.2.2.2.2.2.2.2.2.2.2.2.2.2.2.2⟩) (fun hNew => ?_)
      clear hK K
      clear hHeld hb; have hHeld := hNew; clear hNew
      try simp only [Act.put, List.setIfInBounds_toArray, List.set_cons_zero, List.set_cons_succ]
      refine wpAnyH_take (i := 18) (oi := ⟨some 66, _, _, _, _, _⟩) (v := ?_) rfl (by kernel_rfl) (by kernel_rfl) (by kernel_rfl) (fun _ _ _ h => h) (Or.inl ⟨by rfl, ?_⟩) (by assumption) ?_
      rotate_left
      focus (intro w hSw; (try dsimp only at hSw); go_simp; first | done | with_reducible rfl)
      try simp only [Act.put, List.setIfInBounds_toArray, List.set_cons_zero, List.set_cons_succ]
      refine wpAnyH_take (i := 19) (oi := ⟨some 4, _, _, _, _, _⟩) (v := ?_) rfl (by kernel_rfl) (by kernel_rfl) (by kernel_rfl) (fun _ _ _ h => h) (Or.inl ⟨by rfl, ?_⟩) (by assumption) ?_
      rotate_left
      focus (intro w hSw; (try dsimp only at hSw); go_simp; first | done | with_reducible rfl)
      try simp only [Act.put, List.setIfInBounds_toArray, List.set_cons_zero, List.set_cons_succ]
      refine wpAnyH_done (by kernel_rfl) ?_ _
      have HF := Lib.hid hHeld.1.out
      clear hHeld
      go_wp2
      go_ret
      exact ⟨rfl, HWC.out.trans (HF.out.mono HWC.out.size)⟩
end Go.Proofs.YtgflmahlghcchaaDoor
