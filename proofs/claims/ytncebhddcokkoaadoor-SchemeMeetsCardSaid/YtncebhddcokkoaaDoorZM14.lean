/- Texts in a row: Ub Xd Yc. -/
import Derived.Test.YtncebhddcokkoaaDoorZM10
import Derived.Test.YtncebhddcokkoaaDoorZM13
import Derived.Test.YtncebhddcokkoaaDoorZM8
import Derived.Deep.QuietTactic
import Derived.BigQuiet
import Derived.Deep.DeepCutAuto
import Derived.Outline
/- What Few tells of a term that it lets through. -/
namespace Go.Proofs.YtncebhddcokkoaaDoor
open Go.RowKit
def mn (s : ByteArray) : Nat := if 100000 < s.size then 100000 else s.size
theorem mn_le (s : ByteArray) : mn s ≤ 100000 := by unfold mn; split <;> omega
theorem mn_if (s : ByteArray) : (if (100000 : Int) < (s.size : Int) then (100000 : Int) else (s.size : Int)) = ((mn s : Nat) : Int) := by
  unfold mn
  by_cases h : 100000 < s.size
  · rw [if_pos h, if_pos (by omega)]; rfl
  · rw [if_neg h, if_neg (by omega)]
def SomeW (d : Nat) (t : Tm) (w : World) (e : Ending) (w' : World) : Prop := ∃ n : Int, e = .returned (.int .i64 n) ∧ 0 ≤ n ∧ n ≤ 100000 ∧ (n ≤ 600 → Sm d t ∧ ((tszN d t : Nat) : Int) ≤ n) ∧ Below w.heap.size w w'
set_option maxRecDepth 100000 in
set_option maxHeartbeats 2000000 in
theorem weight2_any (d : Nat) : ∀ (va : Value) (ta : Tm) (deep : Int) (w : World), IsT w d va ta → Calls Tryd.prog 71 #[va, .int .i64 deep] w (SomeW d ta w) := by
  induction d with
  | zero => intro va ta deep w h; cases h
  | succ d ih =>
    intro va ta deep w ha
    obtain ⟨d1, k1, p1, n1, N1, s1, l1, e1, rfl, rfl, hp1, hn1, hk1⟩ := ha.open
    obtain rfl : d = d1 := by omega
    obtain ⟨q1, c1, hs1, hm1, hr1⟩ := hk1
    subst hs1
    have HR1 := Lib.hid hr1
    clear ha e1 hr1
    unfold maxLen at hm1 hp1 hn1
    have HIH := Lib.hid ih
    clear ih
    by_cases hd : 90 < deep
    · go_enter Tryd.func71, Tryd.ntmps71
      go_wp2
      go_ret
      exact ⟨_, rfl, by decide, by decide, fun h => by omega, below_alloc w _⟩
    by_cases hl : (300 : Int) < (l1.length : Int)
    · go_enter Tryd.func71, Tryd.ntmps71
      go_wp2
      go_ret
      exact ⟨_, rfl, by decide, by decide, fun h => by omega, below_alloc w _⟩
    have hd' : deep ≤ 90 := by omega
    have hl' : (l1.length : Int) ≤ 300 := by omega
    have hd2 : decide (90 < deep) = false := by simpa using hd'
    have hl2 : decide ((300 : Int) < (l1.length : Int)) = false := by simpa using hl'
    clear hd hl
    have q1m := mn_if p1
    have q2m := mn_if n1
    have q1l := mn_le p1
    have q2l := mn_le n1
    generalize mn p1 = u1 at *
    generalize mn n1 = u2 at *
    have hnew := Lib.hid (hb_new w (.cells #[.int .i64 k1, .string p1, .string n1, .int .i64 N1, .slice q1 l1.length c1] 36))
    go_enter Tryd.func71, Tryd.ntmps71
    go_upto_region 3 with (fail)
    generalize hW1 : w.alloc (.cells #[.int .i64 k1, .string p1, .string n1, .int .i64 N1, .slice q1 l1.length c1] 36) = W1 at *
    have hBW : Below w.heap.size w W1 := by rw [← hW1]; exact below_alloc w _
    have HBW := Lib.hid hBW
    have hzw : w.heap.size + 1 ≤ W1.heap.size := by rw [← hW1]; simp
    have m1 := hb_at hnew.out 1 rfl
    have m2 := hb_at hnew.out 2 rfl
    have m4 := hb_at hnew.out 4 rfl
    clear hW1 hBW
    go_cut [5] (fun v wx => (∃ m : Int, v = .int .i64 m ∧ 1 ≤ m ∧ m ≤ 20000) ∧ wx = W1)
    case first =>
      go_wp2_with fail
      all_goals
        go_meet
        exact ⟨⟨_, rfl, by omega, by omega⟩, rfl⟩
    case rest =>
      obtain ⟨⟨m0, rfl, hm0, hm0'⟩, rfl⟩ := hcut
      go_wp2
      have M4 : RowKit.Hid (wc.cell? ⟨w.heap.size, 4, none⟩ = some (.slice q1 l1.length c1)) := Lib.hid m4
      clear m1 m2 m4
      go_loopw [5, 29] (fun n i wr => ∃ k : Nat, k ≤ l1.length ∧ i = .int .i64 k ∧ (∃ m : Int, n = .int .i64 m ∧ 1 ≤ m ∧ m ≤ 200000 ∧ (m ≤ 600 → (∀ x ∈ l1.take k, Sm d x) ∧ (((l1.take k).foldl (fun n t => n + tszN d t) 1 : Nat) : Int) ≤ m)) ∧ Below wc.heap.size wc wr) (fun _ i _ => l1.length - (intOf i).toNat)
      case atStart => exact ⟨0, Nat.zero_le _, rfl, ⟨_, rfl, hm0, by omega, fun _ => ⟨fun x hx => by simp at hx, by show ((1 : Nat) : Int) ≤ m0; omega⟩⟩, Below.refl _ _⟩
      case round =>
        obtain ⟨k, hk, rfl, ⟨m, rfl, hm1', hm2', hmI⟩, hB⟩ := hrel
        have HMI := Lib.hid hmI
        clear hmI
        have hzr := hB.size
        have HB := Lib.hid hB
        by_cases hlt : k < l1.length
        · have hx1 := List.getElem?_eq_getElem hlt
          have htk := List.take_succ_eq_append_getElem hlt
          have HTK := Lib.hid htk
          clear htk
          generalize l1[k] = x at *
          obtain ⟨b1, o1, k1', p1', n1', N1', s1', hq1, ha1, ht1⟩ := HR1.out k x hx1
          subst hq1
          have hBR : Below w.heap.size w wr := HBW.out.trans (hB.mono (by omega))
          obtain ⟨x0, x1, x2, x3, x4⟩ := ha1.below hBR ha1.lt
          have m4 : wr.cell? ⟨w.heap.size, 4, none⟩ = some (.slice (some ⟨b1, o1, none⟩) l1.length c1) := (hB.cell (p := ⟨w.heap.size, 4, none⟩) (by simp; omega)).trans M4.out
          have HC : RowKit.Hid (∀ deep, Calls Tryd.prog 71 #[tv k1' p1' n1' N1' s1', .int .i64 deep] wr (SomeW d x wr)) :=
            Lib.hid fun deep => HIH.out _ _ deep wr (ht1.below hBR)
          clear hx1 ht1 ha1 hB hBR
          by_cases hm : m < 100000
          · go_wp2_with (go_at_call 71; ((with_reducible refine (HC.out _).mono ?_); rintro e w3 ⟨m3, rfl, hg1, hg2, hg3, hb⟩; have HG := Lib.hid hg3; clear hg3))
            have HQ := Lib.hid (HB.out.trans (hb.mono hzr))
            go_roundw
            case rel =>
              refine ⟨k + 1, by omega, by go_num, ⟨m + m3, by go_num, by omega, by omega, fun h6 => ?_⟩, HQ.out⟩
              obtain ⟨i1, i2⟩ := HMI.out (by omega)
              obtain ⟨j1, j2⟩ := HG.out (by omega)
              rw [HTK.out]
              refine ⟨fun y hy => ?_, by rw [List.foldl_append]; simp only [List.foldl_cons, List.foldl_nil]; omega⟩
              rcases List.mem_append.1 hy with hy | hy
              · exact i1 y hy
              · obtain rfl := List.mem_singleton.1 hy; exact j1
            case measure => simp [intOf]; omega
          · go_wp2
            go_roundw
            case rel => exact ⟨k + 1, by omega, by go_num, ⟨m, rfl, by omega, by omega, fun h6 => by omega⟩, HB.out⟩
            case measure => simp [intOf]; omega
        · obtain rfl : k = l1.length := by omega
          rw [List.take_length] at HMI
          go_wp2
          all_goals
            go_ret
            refine ⟨_, rfl, by omega, by omega, fun h6 => ?_, HBW.out.trans (HB.out.mono (by omega))⟩
            obtain ⟨i1, i2⟩ := HMI.out (by omega)
            exact ⟨⟨by omega, i1⟩, by show ((l1.foldl (fun n t => n + tszN d t) 1 : Nat) : Int) ≤ _; omega⟩
def SomeF (d : Nat) (t : Tm) (w : World) (e : Ending) (w' : World) : Prop := ∃ r : Bool, e = .returned (.bool r) ∧ (r = true → Sm d t ∧ tszN d t ≤ 600) ∧ Below w.heap.size w w'
set_option maxRecDepth 100000 in
theorem few2_any (d : Nat) (va : Value) (ta : Tm) (w : World) (h : IsT w d va ta) : Calls Tryd.prog 44 #[va] w (SomeF d ta w) := by
  have HT := Lib.hid h
  obtain ⟨d1, k1, p1, n1, N1, s1, l1, e1, rfl, e2, _, _, _⟩ := h.open
  subst e2
  clear h e1
  have HC := Lib.hid (weight2_any d _ _ 0 _ (HT.out.below (below_alloc w (.cells #[.int .i64 k1, .string p1, .string n1, .int .i64 N1, s1] 36))))
  go_enter Tryd.func44, Tryd.ntmps44
  go_wp2_with (go_at_call 71; ((with_reducible refine HC.out.mono ?_); rintro e w3 ⟨m3, rfl, g1, g2, g3, hb⟩; have HG := Lib.hid g3; clear g3))
  go_ret
  refine ⟨_, rfl, fun hr => ?_, (below_alloc w _).trans (hb.mono (by simp))⟩
  have h6 : m3 ≤ 600 := by simpa using hr
  obtain ⟨i1, i2⟩ := HG.out h6
  exact ⟨i1, by omega⟩
end Go.Proofs.YtncebhddcokkoaaDoor
/- Match: its walk. -/
namespace Go.Proofs.YtncebhddcokkoaaDoor
open Go.RowKit
set_option linter.unusedSimpArgs false
set_option linter.unusedVariables false
def MatchR (ta tb : Tm) (w : World) (e : Ending) (w' : World) : Prop := ∃ (r : Bool) (v : Value), e = .returned (.tuple #[v, .bool r]) ∧ Mt [(ta, tb)] (fun _ => none) r ∧ Below w.heap.size w w'
def InvM (w wr : World) (D M b0 : Nat) (bx : Array Value) (st0 : List (Tm × Tm)) (sv : Value) (m : Nat) : Prop :=
  ∃ st P n, MSt w wr D M b0 bx sv st P n ∧ n + meas D st ≤ 30000 ∧ (∀ r, Mt st P r → Mt st0 (fun _ => none) r) ∧ meas D st ≤ m
set_option maxRecDepth 100000 in
set_option maxHeartbeats 4000000 in
theorem match_any (d : Nat) (va vb : Value) (ta tb : Tm) (w : World) (ha : IsT w d va ta) (hb : IsT w d vb tb) (hsa : Sm d ta) (hsb : Sm d tb) (hz : tszN d ta ≤ 30000) : Calls Tryd.prog 65 #[va, vb] w (MatchR ta tb w) := by
  have hmm := @run_makeMap Tryd.prog
  obtain ⟨d1, k1, p1, n1, N1, s1, l1, e1, eq1, rfl, _, _, hk1⟩ := ha.open
  obtain ⟨d2, k2, p2, n2, N2, s2, l2, e2, eq2, rfl, _, _, hk2⟩ := hb.open
  obtain ⟨q1, c1, rfl, _, _⟩ := hk1
  obtain ⟨q2, c2, rfl, _, _⟩ := hk2
  have HA := Lib.hid ha
  have HB := Lib.hid hb
  have HSA := Lib.hid hsa
  have HSB := Lib.hid hsb
  clear ha hb hsa hsb e1 e2 eq1 eq2
  generalize l1.length = L1 at *
  generalize l2.length = L2 at *
  go_enter Tryd.func65, Tryd.ntmps65
  go_wp2
  have hM0 : MSt w ((((w.alloc (.cells #[.int .i64 k1, .string p1, .string n1, .int .i64 N1, .slice q1 L1 c1] 36)).alloc (.cells #[.int .i64 k2, .string p2, .string n2, .int .i64 N2, .slice q2 L2 c2] 36)).alloc (.map #[] 0)).alloc (.cells #[.int .i64 k1, .string p1, .string n1, .int .i64 N1, .slice q1 L1 c1, .int .i64 k2, .string p2, .string n2, .int .i64 N2, .slice q2 L2 c2] 110))
      d (w.heap.size + 1 + 1) w.heap.size #[.int .i64 k1, .string p1, .string n1, .int .i64 N1, .slice q1 L1 c1] (.slice (some ⟨w.heap.size + 1 + 1 + 1, 0, none⟩) 1 1) [(ta, tb)] (fun _ => none) 0 := by
    have hp := TMap.made ((w.alloc (.cells #[.int .i64 k1, .string p1, .string n1, .int .i64 N1, .slice q1 L1 c1] 36)).alloc (.cells #[.int .i64 k2, .string p2, .string n2, .int .i64 N2, .slice q2 L2 c2] 36))
    have hn := hb_new (((w.alloc (.cells #[.int .i64 k1, .string p1, .string n1, .int .i64 N1, .slice q1 L1 c1] 36)).alloc (.cells #[.int .i64 k2, .string p2, .string n2, .int .i64 N2, .slice q2 L2 c2] 36)).alloc (.map #[] 0)) (.cells #[.int .i64 k1, .string p1, .string n1, .int .i64 N1, .slice q1 L1 c1, .int .i64 k2, .string p2, .string n2, .int .i64 N2, .slice q2 L2 c2] 110)
    simp only [World.size_alloc] at hp hn
    refine ⟨⟨[((k1, p1, n1, N1, .slice q1 L1 c1), (k2, p2, n2, N2, .slice q2 L2 c2))], ⟨HA.out, HB.out, HSB.out, trivial⟩, ⟨rfl, .inr ⟨_, 1, _, rfl, by omega, hn, Nat.le_refl _, by unfold maxLen; omega, rfl, rfl⟩⟩⟩,
      ⟨_, hp.kept fun x hx => hb_alloc hx _, fun s => .inl ⟨rfl, rfl⟩⟩, hb_alloc (hb_alloc (hb_alloc (hb_new w _) _) _) _, ⟨by omega, by omega⟩, (below2 w _ _).trans ((below2 _ _ _).mono (by simp; omega))⟩
  have HM0 := Lib.hid hM0
  clear hM0
  go_loopw [7] (fun sv wr => ∃ m, InvM w wr d (w.heap.size + 1 + 1) w.heap.size #[.int .i64 k1, .string p1, .string n1, .int .i64 N1, .slice q1 L1 c1] [(ta, tb)] sv m) (fun sv wr => leastN (InvM w wr d (w.heap.size + 1 + 1) w.heap.size #[.int .i64 k1, .string p1, .string n1, .int .i64 N1, .slice q1 L1 c1] [(ta, tb)] sv))
  case atStart => exact ⟨_, _, _, _, HM0.out, by show 0 + (tszN d ta + 0) ≤ 30000; omega, fun r h => h, Nat.le_refl _⟩
  case round =>
    obtain ⟨st, P, n, hM, hnm, hcont, hms⟩ := leastN_is hrel
    clear hrel
    have HMS := Lib.hid hms
    clear hms
    obtain ⟨vs, hvs, hown⟩ := hM.vs
    have HCT := Lib.hid hcont
    have HM := Lib.hid hM
    clear hcont hM
    match vs, st, hvs with
    | [], [], _ =>
      obtain ⟨ao, c, rfl, _⟩ := own_sl0 hown
      have hbx := HM.out.box
      have HMW := Lib.hid HM.out.below
      have z0 := hb_at hbx 0 rfl
      have z1 := hb_at hbx 1 rfl
      have z2 := hb_at hbx 2 rfl
      have z3 := hb_at hbx 3 rfl
      have z4 := hb_at hbx 4 rfl
      have hzr := HMW.out.size
      have HMA := Lib.hid (HM.out.below2 (below_alloc wr (.cells #[.int .i64 k1, .string p1, .string n1, .int .i64 N1, .slice q1 L1 c1] 36)))
      have HBA := Lib.hid (HMW.out.alloc HMW.out.size (.cells #[.int .i64 k1, .string p1, .string n1, .int .i64 N1, .slice q1 L1 c1] 36))
      have HVA := Lib.hid (vars_any d [ta] _ _ (KidsT.one (hb_new wr (.cells #[.int .i64 k1, .string p1, .string n1, .int .i64 N1, .slice q1 L1 c1] 36)) (HA.out.below HBA.out)) (by show 0 + tszN d ta ≤ 100000; omega))
      have HLEN : RowKit.Hid (([ta].foldl (varsT d) []).length ≤ 30000) := Lib.hid (by have h := varsT_length d [] ta; show (varsT d [] ta).length ≤ 30000; simp at h; omega)
      have HSZ : RowKit.Hid (∀ s ∈ [ta].foldl (varsT d) [], s.size ≤ maxLen) := Lib.hid (vars_sz HA.out (fun s hs => by cases hs))
      have HRES := Lib.hid (HCT.out true Mt.done)
      clear hbx HMS HCT hown hnm
      go_upto_region 21 with (go_at_call 68; ((with_reducible refine HVA.out.mono ?_); rintro e w3 ⟨v3, rfl, ho3, hb3⟩; obtain ⟨a3, cc3, rfl, _⟩ := own_sl0 ho3; have HO3 := Lib.hid (SRow.own rfl ho3); have HB3 := Lib.hid hb3; clear ho3 hb3))
      have ens : [ta].foldl (varsT d) [] = varsT d [] ta := rfl
      simp only [ens] at HO3 HLEN HSZ
      generalize hns : varsT d [] ta = ns at *
      clear hns ens
      have hz3 := HB3.out.size
      rw [World.size_alloc] at hz3
      have hB3w : Below w.heap.size w w3 := HBA.out.trans (HB3.out.mono HBA.out.size)
      have HB3w := Lib.hid hB3w
      have HM3 := Lib.hid (HMA.out.below2 HB3.out)
      have hz3w := hB3w.size
      have hl6 := HLEN.out
      clear hB3w z0 z1 z2 z3 z4
      obtain ⟨z, hz', hzc'⟩ := info43
      obtain ⟨i0, hi, hz0', hz1', hz2'⟩ := info_parts hz'
      have HI := Lib.hid hi
      have HZ0 := Lib.hid hz0'
      have HZ1 := Lib.hid hz1'
      have HZ2 := Lib.hid hz2'
      have HZC := Lib.hid hzc'
      clear hz' hzc' hi hz0' hz1' hz2'
      generalize hlen : ns.length = len at *
      go_loopw [13, 126] (fun sv i wx => ∃ j : Nat, j ≤ len ∧ i = .int .i64 j ∧ Below w3.heap.size w3 wx ∧ ∃ xs, wx.ownsRow w3.heap.size 38 6 sv j xs) (fun _ i _ => len - (intOf i).toNat)
      case atStart => exact ⟨0, Nat.zero_le _, rfl, Below.refl _ _, [], World.ownsRow_nil _ _ _ _⟩
      case round =>
        obtain ⟨j, hj, rfl, hbx, xs, hown⟩ := hrel
        have HBX := Lib.hid hbx
        have HOW := Lib.hid hown
        have hzx := hbx.size
        by_cases hlt : j < len
        · obtain ⟨s, hs⟩ : ∃ s, ns[j]? = some s := ⟨_, List.getElem?_eq_getElem (by omega)⟩
          have hss := HSZ.out s (List.mem_of_getElem? hs)
          obtain ⟨g3, c3', e3, hx3⟩ := HO3.out.below hbx
          injection e3 with e3 e4 e5
          subst e3
          clear e4 e5
          obtain ⟨gn, e6, hcs⟩ := hx3 j s hs
          subst e6
          have HMX := Lib.hid (HM3.out.below2 hbx)
          obtain ⟨gm, hT, hPO⟩ := HMX.out.put
          have HT := Lib.hid hT
          obtain ⟨d0, rfl⟩ := HA.out.pos
          obtain ⟨k5, p5, n5, N5, q5, l5, c5, t5, hu, hi5, hsm5⟩ := hPO.got s
          have HI5 := Lib.hid (copy_any _ _ t5 _ (hi5.below HMX.out.below) hsm5)
          have hki : (j : Int) < (len : Int) := by omega
          clear hT hPO hi5 hsm5 hbx hown hx3 hs
          go_wp2_with (first
            | (at_lookup; refine wpList_tm_look1 _ rfl _ _ rfl rfl HT.out s rfl hss (tv k5 p5 n5 N5 (.slice q5 l5 c5)) hu ?_)
            | (go_at_call 82; refine HI5.out.mono ?_; rintro e w5 ⟨k6, p6, n6, N6, q6, l6, c6, rfl, hb5⟩; have HB5 := Lib.hid hb5; have OW5 := Lib.hid (own_below HOW.out hb5); have HZ5 := Lib.hid hb5.size; clear hb5)
            | (at_builtin; refine wpList_append_own_at _ rfl _ _ 25 rfl w3.heap.size 38 i0 z 6 88 Tryd.underlying25 HI.out HZ0.out HZ1.out HZ2.out HZC.out (by decide) _ j xs rfl (OW5.out.alloc _) ⟨w5.heap.size, 0, none⟩ 1 1 [.string s, .int .i64 k6, .string p6, .string n6, .int .i64 N6, .slice q6 l6 c6] rfl rfl (fun j u hu => (by
                rw [add_zero_none]
                match j, hu with
                | 0, hu => cases hu; exact hb_at (hb_new w5 _) 0 rfl
                | 1, hu => cases hu; exact hb_at (hb_new w5 _) 1 rfl
                | 2, hu => cases hu; exact hb_at (hb_new w5 _) 2 rfl
                | 3, hu => cases hu; exact hb_at (hb_new w5 _) 3 rfl
                | 4, hu => cases hu; exact hb_at (hb_new w5 _) 4 rfl
                | 5, hu => cases hu; exact hb_at (hb_new w5 _) 5 rfl
                | j + 6, hu => simp at hu)) (by simp [Value.oneCell']) (by unfold maxLen; omega) (by omega) (by have := HZ5.out; simp; omega) ?_; intro v6 w6 ho6 hg6 _ _; have HO6 := Lib.hid ho6; have HG6 := Lib.hid hg6; clear ho6 hg6))
          have hB5 : Below w3.heap.size w3 w5 := HBX.out.trans (HB5.out.mono HBX.out.size)
          have hB6 := hB5.alloc hB5.size (.cells #[.string s, .int .i64 k6, .string p6, .string n6, .int .i64 N6, .slice q6 l6 c6] 38)
          have hB7 := hB6.grown HG6.out hB6.size (fun g hg => (HOW.out.lt g hg).1)
          go_roundw
          case rel => exact ⟨j + 1, by omega, by go_num, hB7, _, HO6.out⟩
          case measure => simp [intOf]; omega
        · obtain rfl : j = len := by omega
          obtain ⟨qs, cs, rfl, _⟩ := own_sl0 hown
          clear hbx hown
          go_wp2
          refine bodyPost_ret (v := .tuple #[.slice qs j cs, .bool true]) (by simp [results, Tryd.results65, go_sem]) rfl ?_
          exact ⟨true, _, rfl, HRES.out, HB3w.out.trans (HBX.out.mono hz3w)⟩
    | ((kg, pg, ng, Ng, sg), (ks, ps, ns, Ns, ss)) :: vl, (tg, ts) :: st, hvs =>
      have hown1 : wr.ownsRow w.heap.size 110 10 _ (vl.length + 1) (prL (((kg, pg, ng, Ng, sg), (ks, ps, ns, Ns, ss)) :: vl)) := hown
      obtain ⟨ao, c, rfl, hmc⟩ := own_sl0 hown1
      obtain ⟨g, rfl, hglo, _, ⟨cur, hcur⟩, hcell⟩ := own_top hown1
      have HPOP := Lib.hid (own_pop hown1)
      have hdps := hvs.dp
      obtain ⟨hg, hs, hsm, hrest⟩ := hvs
      obtain ⟨dg, kg', pg', ng', Ng', sg', lg, em, rfl, ev, hpg, hng, hkg⟩ := hg.open
      obtain ⟨ds, ks', ps', ns', Ns', ss', ls, em2, ets, ev2, hps, hns, hks⟩ := hs.open
      injection ev with ev
      injection ev2 with ev2
      simp at ev ev2
      obtain ⟨rfl, rfl, rfl, rfl, rfl⟩ := ev
      obtain ⟨rfl, rfl, rfl, rfl, rfl⟩ := ev2
      obtain ⟨qg, cg, rfl, hlg, _⟩ := id hkg
      obtain ⟨qs, cs, rfl, hls, _⟩ := id hks
      have hlen : vl.length + 1 ≤ 30000 := by
        have h1 := len_meas hdps
        have h2 := hrest.len
        simp at h1
        omega
      have C0 := hcell 0 _ rfl
      have C1 := hcell 1 _ rfl
      have C2 := hcell 2 _ rfl
      have C3 := hcell 3 _ rfl
      have C4 := hcell 4 _ rfl
      have C5 := hcell 5 _ rfl
      have C6 := hcell 6 _ rfl
      have C7 := hcell 7 _ rfl
      have C8 := hcell 8 _ rfl
      have C9 := hcell 9 _ rfl
      simp only [Nat.add_zero] at C0
      have HG := Lib.hid hg
      have HS := Lib.hid hs
      have HSM := Lib.hid hsm
      have HRS := Lib.hid hrest
      have HKG := Lib.hid hkg
      have HKS := Lib.hid hks
      have HTS := Lib.hid ets
      have hdg : dg ≤ d := by omega
      have hds : ds ≤ d := by omega
      have HDPS := Lib.hid hdps
      have hgs := hb_lt hcur
      clear hg hs hsm hrest hkg hks ets hcell hown hown1 hdps em em2 hcur
      generalize hLg : lg.length = Lg at *
      generalize hLs : ls.length = Ls at *
      generalize hm : vl.length = m at *
      have C0 := Lib.hid C0
      have C1 := Lib.hid C1
      have C2 := Lib.hid C2
      have C3 := Lib.hid C3
      have C4 := Lib.hid C4
      have C5 := Lib.hid C5
      have C6 := Lib.hid C6
      have C7 := Lib.hid C7
      have C8 := Lib.hid C8
      have C9 := Lib.hid C9
      have wi : (m : Int) < (m : Int) + 1 := by omega
      have wv : IntKind.i64.wrap (m : Int) = (m : Int) := IntWalk.i64_in _ (by omega)
      go_upto_region 4 with fail
      go_cut [8, 9] (fun v8 v9 wx => ∃ b8 b9, v8 = .pointer (some ⟨b8, 0, none⟩) ∧ v9 = .pointer (some ⟨b9, 0, none⟩) ∧ b8 ≠ b9 ∧ wx.heap[b8]? = some (.cells #[.int .i64 kg, .string pg, .string ng, .int .i64 Ng, .slice qg Lg cg] 36 (0, 0)) ∧ wx.heap[b9]? = some (.cells #[.int .i64 ks, .string ps, .string ns, .int .i64 Ns, .slice qs Ls cs] 36 (0, 0)) ∧ wr.heap.size ≤ b8 ∧ wr.heap.size ≤ b9 ∧ Below wr.heap.size wr wx)
      case first =>
        skip
        refine wp_region_held_drew (S := (fun w' => RowKit.Hid (Below wr.heap.size wr w') ∧ w'.cell? ⟨g, m * 10, none⟩ = some (.int .i64 kg) ∧ w'.cell? ⟨g, m * 10 + 1, none⟩ = some (.string pg) ∧ w'.cell? ⟨g, m * 10 + 2, none⟩ = some (.string ng) ∧ w'.cell? ⟨g, m * 10 + 3, none⟩ = some (.int .i64 Ng) ∧ w'.cell? ⟨g, m * 10 + 4, none⟩ = some (.slice qg Lg cg) ∧ w'.cell? ⟨g, m * 10 + 5, none⟩ = some (.int .i64 ks) ∧ w'.cell? ⟨g, m * 10 + 6, none⟩ = some (.string ps) ∧ w'.cell? ⟨g, m * 10 + 7, none⟩ = some (.string ns) ∧ w'.cell? ⟨g, m * 10 + 8, none⟩ = some (.int .i64 Ns) ∧ w'.cell? ⟨g, m * 10 + 9, none⟩ = some (.slice qs Ls cs))) (by kernel_rfl) (by exact ⟨Lib.hid (below_drewN (Below.refl _ _) 1), C0.out, C1.out, C2.out, C3.out, C4.out, C5.out, C6.out, C7.out, C8.out, C9.out⟩) (fun hHeld => ?_)
        refine wpAnyH_take (i := 0) (oi := ⟨some 24, _, _, _, _, _⟩) (v := ?_) rfl (by kernel_rfl) (by kernel_rfl) (by kernel_rfl) (fun _ _ _ h => h) (Or.inl ⟨by rfl, ?_⟩) (by assumption) ?_
        rotate_left
        focus (intro w hSw; (try dsimp only at hSw); go_simp; first | done | with_reducible rfl)
        try simp only [Act.put, List.setIfInBounds_toArray, List.set_cons_zero, List.set_cons_succ]
        refine wpAnyH_take (i := 1) (oi := ⟨some 25, _, _, _, _, _⟩) (v := ?_) rfl (by kernel_rfl) (by kernel_rfl) (by kernel_rfl) (fun _ _ _ h => h) (Or.inl ⟨by rfl, ?_⟩) (by assumption) ?_
        rotate_left
        focus (intro w hSw; (try dsimp only at hSw); go_simp; first | done | with_reducible rfl)
        try simp only [Act.put, List.setIfInBounds_toArray, List.set_cons_zero, List.set_cons_succ]
        refine wpAnyH_take (i := 2) (oi := ⟨some 26, _, _, _, _, _⟩) (v := ?_) rfl (by kernel_rfl) (by kernel_rfl) (by kernel_rfl) (fun _ _ _ h => h) (Or.inl ⟨by rfl, ?_⟩) (by assumption) ?_
        rotate_left
        focus (intro w hSw; (try dsimp only at hSw); go_simp; first | done | with_reducible rfl)
        try simp only [Act.put, List.setIfInBounds_toArray, List.set_cons_zero, List.set_cons_succ]
        refine wpAnyH_take (i := 3) (oi := ⟨some 27, _, _, _, _, _⟩) (v := ?_) rfl (by kernel_rfl) (by kernel_rfl) (by kernel_rfl) (fun _ _ _ h => h) (Or.inl ⟨by rfl, ?_⟩) (by assumption) ?_
        rotate_left
        focus (intro w hSw; (try dsimp only at hSw); go_simp; first | done | with_reducible rfl)
        try simp only [Act.put, List.setIfInBounds_toArray, List.set_cons_zero, List.set_cons_succ]
        refine wpAnyH_take (i := 4) (oi := ⟨some 28, _, _, _, _, _⟩) (v := ?_) rfl (by kernel_rfl) (by kernel_rfl) (by kernel_rfl) (fun _ _ _ h => h) (Or.inl ⟨by rfl, ?_⟩) (by assumption) ?_
        rotate_left
        focus (intro w hSw; (try dsimp only at hSw); go_simp; first | done | with_reducible rfl)
        try simp only [Act.put, List.setIfInBounds_toArray, List.set_cons_zero, List.set_cons_succ]
        refine wpAnyH_take (i := 5) (oi := ⟨some 29, _, _, _, _, _⟩) (v := ?_) rfl (by kernel_rfl) (by kernel_rfl) (by kernel_rfl) (fun _ _ _ h => h) (Or.inl ⟨by rfl, ?_⟩) (by assumption) ?_
        rotate_left
        focus (intro w hSw; (try dsimp only at hSw); go_simp; first | done | with_reducible rfl)
        try simp only [Act.put, List.setIfInBounds_toArray, List.set_cons_zero, List.set_cons_succ]
        refine wpAnyH_take (i := 6) (oi := ⟨some 30, _, _, _, _, _⟩) (v := ?_) rfl (by kernel_rfl) (by kernel_rfl) (by kernel_rfl) (fun _ _ _ h => h) (Or.inl ⟨by rfl, ?_⟩) (by assumption) ?_
        rotate_left
        focus (intro w hSw; (try dsimp only at hSw); go_simp; first | done | with_reducible rfl)
        try simp only [Act.put, List.setIfInBounds_toArray, List.set_cons_zero, List.set_cons_succ]
        refine wpAnyH_take (i := 7) (oi := ⟨some 31, _, _, _, _, _⟩) (v := ?_) rfl (by kernel_rfl) (by kernel_rfl) (by kernel_rfl) (fun _ _ _ h => h) (Or.inl ⟨by rfl, ?_⟩) (by assumption) ?_
        rotate_left
        focus (intro w hSw; (try dsimp only at hSw); go_simp; first | done | with_reducible rfl)
        try simp only [Act.put, List.setIfInBounds_toArray, List.set_cons_zero, List.set_cons_succ]
        refine wpAnyH_take (i := 8) (oi := ⟨some 32, _, _, _, _, _⟩) (v := ?_) rfl (by kernel_rfl) (by kernel_rfl) (by kernel_rfl) (fun _ _ _ h => h) (Or.inl ⟨by rfl, ?_⟩) (by assumption) ?_
        rotate_left
        focus (intro w hSw; (try dsimp only at hSw); go_simp; first | done | with_reducible rfl)
        try simp only [Act.put, List.setIfInBounds_toArray, List.set_cons_zero, List.set_cons_succ]
        refine wpAnyH_take (i := 9) (oi := ⟨some 33, _, _, _, _, _⟩) (v := ?_) rfl (by kernel_rfl) (by kernel_rfl) (by kernel_rfl) (fun _ _ _ h => h) (Or.inl ⟨by rfl, ?_⟩) (by assumption) ?_
        rotate_left
        focus (intro w hSw; (try dsimp only at hSw); go_simp; first | done | with_reducible rfl)
        try simp only [Act.put, List.setIfInBounds_toArray, List.set_cons_zero, List.set_cons_succ]
        refine wpAnyH_take (i := 10) (oi := ⟨some 34, _, _, _, _, _⟩) (v := ?_) rfl (by kernel_rfl) (by kernel_rfl) (by kernel_rfl) (fun _ _ _ h => h) (Or.inl ⟨by rfl, ?_⟩) (by assumption) ?_
        rotate_left
        focus (intro w hSw; (try dsimp only at hSw); go_simp; first | done | with_reducible rfl)
        try simp only [Act.put, List.setIfInBounds_toArray, List.set_cons_zero, List.set_cons_succ]
        refine wpAnyH_take (i := 11) (oi := ⟨some 35, _, _, _, _, _⟩) (v := ?_) rfl (by kernel_rfl) (by kernel_rfl) (by kernel_rfl) (fun _ _ _ h => h) (Or.inl ⟨by rfl, ?_⟩) (by assumption) ?_
        rotate_left
        focus (intro w hSw; (try dsimp only at hSw); go_simp; first | done | with_reducible rfl)
        try simp only [Act.put, List.setIfInBounds_toArray, List.set_cons_zero, List.set_cons_succ]
        refine wpAnyH_take (i := 12) (oi := ⟨some 36, _, _, _, _, _⟩) (v := ?_) rfl (by kernel_rfl) (by kernel_rfl) (by kernel_rfl) (fun _ _ _ h => h) (Or.inl ⟨by rfl, ?_⟩) (by assumption) ?_
        rotate_left
        focus (intro w hSw; (try dsimp only at hSw); go_simp; first | done | with_reducible rfl)
        try simp only [Act.put, List.setIfInBounds_toArray, List.set_cons_zero, List.set_cons_succ]
        refine wpAnyH_take (i := 13) (oi := ⟨some 37, _, _, _, _, _⟩) (v := ?_) rfl (by kernel_rfl) (by kernel_rfl) (by kernel_rfl) (fun _ _ _ h => h) (Or.inl ⟨by rfl, ?_⟩) (by assumption) ?_
        rotate_left
        focus (intro w hSw; (try dsimp only at hSw); go_simp; first | done | with_reducible rfl)
        try simp only [Act.put, List.setIfInBounds_toArray, List.set_cons_zero, List.set_cons_succ]
        refine wpAnyH_ready (rs := [14, 15]) (by kernel_rfl) (by simp) ?_
        refine AllReadyH.cons (o := ⟨some 8, _, _, _, _, _⟩) rfl (fun K hK => ?_) (AllReadyH.cons (o := ⟨some 9, _, _, _, _, _⟩) rfl (fun K hK => ?_) AllReadyH.nil)
        · go_simp
          refine hK.out _ _ (by have hB' : Below wr.heap.size wr ((wr.alloc (.cells #[.int .i64 0, .string ⟨#[]⟩, .string ⟨#[]⟩, .int .i64 0, .slice none 0 0] 36)).drew) := below_drewN (below_alloc wr (.cells #[.int .i64 0, .string ⟨#[]⟩, .string ⟨#[]⟩, .int .i64 0, .slice none 0 0] 36)) 1; exact ⟨Lib.hid hB', keep_cell hB' C0.out, keep_cell hB' C1.out, keep_cell hB' C2.out, keep_cell hB' C3.out, keep_cell hB' C4.out, keep_cell hB' C5.out, keep_cell hB' C6.out, keep_cell hB' C7.out, keep_cell hB' C8.out, keep_cell hB' C9.out⟩) (fun hNew => ?_)
          clear hK K
          clear hHeld; have hHeld := hNew; clear hNew
          try simp only [Act.put, List.setIfInBounds_toArray, List.set_cons_zero, List.set_cons_succ]
          refine wpAnyH_ready (rs := [15]) (by kernel_rfl) (by simp) ?_
          refine AllReadyH.cons (o := ⟨some 9, _, _, _, _, _⟩) rfl (fun K hK => ?_) AllReadyH.nil
          go_simp
          refine hK.out _ _ (by have hB' : Below wr.heap.size wr (((wr.alloc (.cells #[.int .i64 0, .string ⟨#[]⟩, .string ⟨#[]⟩, .int .i64 0, .slice none 0 0] 36)).alloc (.cells #[.int .i64 0, .string ⟨#[]⟩, .string ⟨#[]⟩, .int .i64 0, .slice none 0 0] 36)).drew) := below_drewN (below2 wr (.cells #[.int .i64 0, .string ⟨#[]⟩, .string ⟨#[]⟩, .int .i64 0, .slice none 0 0] 36) (.cells #[.int .i64 0, .string ⟨#[]⟩, .string ⟨#[]⟩, .int .i64 0, .slice none 0 0] 36)) 1; exact ⟨Lib.hid hB', keep_cell hB' C0.out, keep_cell hB' C1.out, keep_cell hB' C2.out, keep_cell hB' C3.out, keep_cell hB' C4.out, keep_cell hB' C5.out, keep_cell hB' C6.out, keep_cell hB' C7.out, keep_cell hB' C8.out, keep_cell hB' C9.out⟩) (fun hNew => ?_)
          clear hK K
          clear hHeld; have hHeld := hNew; clear hNew
          try simp only [Act.put, List.setIfInBounds_toArray, List.set_cons_zero, List.set_cons_succ]
          refine wpAnyH_ready (rs := [16]) (by kernel_rfl) (by simp) ?_
          refine AllReadyH.cons (o := ⟨none, _, _, _, _, _⟩) rfl (fun K hK => ?_) AllReadyH.nil
          have HB2 : RowKit.Hid (Below wr.heap.size wr (((wr.alloc (.cells #[.int .i64 0, .string ⟨#[]⟩, .string ⟨#[]⟩, .int .i64 0, .slice none 0 0] 36)).alloc (.cells #[.int .i64 0, .string ⟨#[]⟩, .string ⟨#[]⟩, .int .i64 0, .slice none 0 0] 36)).drew)) := Lib.hid (below_drewN (below2 wr (.cells #[.int .i64 0, .string ⟨#[]⟩, .string ⟨#[]⟩, .int .i64 0, .slice none 0 0] 36) (.cells #[.int .i64 0, .string ⟨#[]⟩, .string ⟨#[]⟩, .int .i64 0, .slice none 0 0] 36)) 1)
          obtain ⟨hz0, hz1⟩ := two_new wr (.cells #[.int .i64 0, .string ⟨#[]⟩, .string ⟨#[]⟩, .int .i64 0, .slice none 0 0] 36) (.cells #[.int .i64 0, .string ⟨#[]⟩, .string ⟨#[]⟩, .int .i64 0, .slice none 0 0] 36)
          have hZ9 : (((wr.alloc (.cells #[.int .i64 0, .string ⟨#[]⟩, .string ⟨#[]⟩, .int .i64 0, .slice none 0 0] 36)).alloc (.cells #[.int .i64 0, .string ⟨#[]⟩, .string ⟨#[]⟩, .int .i64 0, .slice none 0 0] 36)).drew).heap[(wr.heap.size + 1)]? = some (.cells #[.int .i64 0, .string ⟨#[]⟩, .string ⟨#[]⟩, .int .i64 0, .slice none 0 0] 36 (0, 0)) := hz1
          have hZ8 : (((wr.alloc (.cells #[.int .i64 0, .string ⟨#[]⟩, .string ⟨#[]⟩, .int .i64 0, .slice none 0 0] 36)).alloc (.cells #[.int .i64 0, .string ⟨#[]⟩, .string ⟨#[]⟩, .int .i64 0, .slice none 0 0] 36)).drew).heap[wr.heap.size]? = some (.cells #[.int .i64 0, .string ⟨#[]⟩, .string ⟨#[]⟩, .int .i64 0, .slice none 0 0] 36 (0, 0)) := hz0
          clear hz0 hz1
          generalize ((wr.alloc (.cells #[.int .i64 0, .string ⟨#[]⟩, .string ⟨#[]⟩, .int .i64 0, .slice none 0 0] 36)).alloc (.cells #[.int .i64 0, .string ⟨#[]⟩, .string ⟨#[]⟩, .int .i64 0, .slice none 0 0] 36)).drew = D2 at *
          have HZ9 := Lib.hid hZ9
          have HZ8 := Lib.hid hZ8
          have e0 := hb_at hZ8 0 rfl
          have f0 := hb_free hZ8 0
          have e1 := hb_at hZ8 1 rfl
          have f1 := hb_free hZ8 1
          have e2 := hb_at hZ8 2 rfl
          have f2 := hb_free hZ8 2
          have e3 := hb_at hZ8 3 rfl
          have f3 := hb_free hZ8 3
          have e4 := hb_at hZ8 4 rfl
          have f4 := hb_free hZ8 4
          clear hZ8 hZ9
          go_simp
          refine hK.out _ _ (by have hB' : Below wr.heap.size wr ((((((D2.setCell ⟨wr.heap.size, 0, none⟩ (.int .i64 kg)).setCell ⟨wr.heap.size, 1, none⟩ (.string pg)).setCell ⟨wr.heap.size, 2, none⟩ (.string ng)).setCell ⟨wr.heap.size, 3, none⟩ (.int .i64 Ng)).setCell ⟨wr.heap.size, 4, none⟩ (.slice qg Lg cg))) := HB2.out.trans ((box_set (by omega) HZ8.out _ _ _ _ _).2.2.mono (Nat.le_refl _)); exact ⟨Lib.hid hB', keep_cell hB' C0.out, keep_cell hB' C1.out, keep_cell hB' C2.out, keep_cell hB' C3.out, keep_cell hB' C4.out, keep_cell hB' C5.out, keep_cell hB' C6.out, keep_cell hB' C7.out, keep_cell hB' C8.out, keep_cell hB' C9.out⟩) (fun hNew => ?_)
          clear hK K
          clear hHeld; have hHeld := hNew; clear hNew
          try simp only [Act.put, List.setIfInBounds_toArray, List.set_cons_zero, List.set_cons_succ]
          refine wpAnyH_ready (rs := [17]) (by kernel_rfl) (by simp) ?_
          refine AllReadyH.cons (o := ⟨none, _, _, _, _, _⟩) rfl (fun K hK => ?_) AllReadyH.nil
          clear e0 f0 e1 f1 e2 f2 e3 f3 e4 f4
          obtain ⟨u1, u2, u3⟩ := box_set (base := wr.heap.size) (by omega) HZ8.out (.int .i64 kg) (.string pg) (.string ng) (.int .i64 Ng) (.slice qg Lg cg)
          have hU9 := (u2 (wr.heap.size + 1) (by omega)).trans HZ9.out
          have HU8 := Lib.hid u1
          have HU9 := Lib.hid hU9
          have HB3 := Lib.hid (HB2.out.trans u3)
          clear u1 u2 u3
          generalize (((((D2.setCell ⟨wr.heap.size, 0, none⟩ (.int .i64 kg)).setCell ⟨wr.heap.size, 1, none⟩ (.string pg)).setCell ⟨wr.heap.size, 2, none⟩ (.string ng)).setCell ⟨wr.heap.size, 3, none⟩ (.int .i64 Ng)).setCell ⟨wr.heap.size, 4, none⟩ (.slice qg Lg cg)) = D3 at *
          have e0 := hb_at hU9 0 rfl
          have f0 := hb_free hU9 0
          have e1 := hb_at hU9 1 rfl
          have f1 := hb_free hU9 1
          have e2 := hb_at hU9 2 rfl
          have f2 := hb_free hU9 2
          have e3 := hb_at hU9 3 rfl
          have f3 := hb_free hU9 3
          have e4 := hb_at hU9 4 rfl
          have f4 := hb_free hU9 4
          clear hU9
          go_simp
          refine hK.out _ _ (by have hB' : Below wr.heap.size wr ((((((D3.setCell ⟨(wr.heap.size + 1), 0, none⟩ (.int .i64 ks)).setCell ⟨(wr.heap.size + 1), 1, none⟩ (.string ps)).setCell ⟨(wr.heap.size + 1), 2, none⟩ (.string ns)).setCell ⟨(wr.heap.size + 1), 3, none⟩ (.int .i64 Ns)).setCell ⟨(wr.heap.size + 1), 4, none⟩ (.slice qs Ls cs))) := HB3.out.trans (box_set (by omega) HU9.out _ _ _ _ _).2.2; exact ⟨Lib.hid hB', keep_cell hB' C0.out, keep_cell hB' C1.out, keep_cell hB' C2.out, keep_cell hB' C3.out, keep_cell hB' C4.out, keep_cell hB' C5.out, keep_cell hB' C6.out, keep_cell hB' C7.out, keep_cell hB' C8.out, keep_cell hB' C9.out⟩) (fun hNew => ?_)
          clear hK K
          clear hHeld; have hHeld := hNew; clear hNew
          try simp only [Act.put, List.setIfInBounds_toArray, List.set_cons_zero, List.set_cons_succ]
          refine wpAnyH_done (by kernel_rfl) ?_ _
          go_wp2_with fail
          go_meet
          obtain ⟨u1, u2, u3⟩ := box_set (base := wr.heap.size) (by omega) HU9.out (.int .i64 ks) (.string ps) (.string ns) (.int .i64 Ns) (.slice qs Ls cs)
          exact ⟨_, _, rfl, rfl, by omega, (u2 wr.heap.size (by omega)).trans HU8.out, u1, by omega, by omega, HB3.out.trans u3⟩
        · go_simp
          refine hK.out _ _ (by have hB' : Below wr.heap.size wr ((wr.alloc (.cells #[.int .i64 0, .string ⟨#[]⟩, .string ⟨#[]⟩, .int .i64 0, .slice none 0 0] 36)).drew) := below_drewN (below_alloc wr (.cells #[.int .i64 0, .string ⟨#[]⟩, .string ⟨#[]⟩, .int .i64 0, .slice none 0 0] 36)) 1; exact ⟨Lib.hid hB', keep_cell hB' C0.out, keep_cell hB' C1.out, keep_cell hB' C2.out, keep_cell hB' C3.out, keep_cell hB' C4.out, keep_cell hB' C5.out, keep_cell hB' C6.out, keep_cell hB' C7.out, keep_cell hB' C8.out, keep_cell hB' C9.out⟩) (fun hNew => ?_)
          clear hK K
          clear hHeld; have hHeld := hNew; clear hNew
          try simp only [Act.put, List.setIfInBounds_toArray, List.set_cons_zero, List.set_cons_succ]
          refine wpAnyH_ready (rs := [14]) (by kernel_rfl) (by simp) ?_
          refine AllReadyH.cons (o := ⟨some 8, _, _, _, _, _⟩) rfl (fun K hK => ?_) AllReadyH.nil
          go_simp
          refine hK.out _ _ (by have hB' : Below wr.heap.size wr (((wr.alloc (.cells #[.int .i64 0, .string ⟨#[]⟩, .string ⟨#[]⟩, .int .i64 0, .slice none 0 0] 36)).alloc (.cells #[.int .i64 0, .string ⟨#[]⟩, .string ⟨#[]⟩, .int .i64 0, .slice none 0 0] 36)).drew) := below_drewN (below2 wr (.cells #[.int .i64 0, .string ⟨#[]⟩, .string ⟨#[]⟩, .int .i64 0, .slice none 0 0] 36) (.cells #[.int .i64 0, .string ⟨#[]⟩, .string ⟨#[]⟩, .int .i64 0, .slice none 0 0] 36)) 1; exact ⟨Lib.hid hB', keep_cell hB' C0.out, keep_cell hB' C1.out, keep_cell hB' C2.out, keep_cell hB' C3.out, keep_cell hB' C4.out, keep_cell hB' C5.out, keep_cell hB' C6.out, keep_cell hB' C7.out, keep_cell hB' C8.out, keep_cell hB' C9.out⟩) (fun hNew => ?_)
          clear hK K
          clear hHeld; have hHeld := hNew; clear hNew
          try simp only [Act.put, List.setIfInBounds_toArray, List.set_cons_zero, List.set_cons_succ]
          refine wpAnyH_ready (rs := [16]) (by kernel_rfl) (by simp) ?_
          refine AllReadyH.cons (o := ⟨none, _, _, _, _, _⟩) rfl (fun K hK => ?_) AllReadyH.nil
          have HB2 : RowKit.Hid (Below wr.heap.size wr (((wr.alloc (.cells #[.int .i64 0, .string ⟨#[]⟩, .string ⟨#[]⟩, .int .i64 0, .slice none 0 0] 36)).alloc (.cells #[.int .i64 0, .string ⟨#[]⟩, .string ⟨#[]⟩, .int .i64 0, .slice none 0 0] 36)).drew)) := Lib.hid (below_drewN (below2 wr (.cells #[.int .i64 0, .string ⟨#[]⟩, .string ⟨#[]⟩, .int .i64 0, .slice none 0 0] 36) (.cells #[.int .i64 0, .string ⟨#[]⟩, .string ⟨#[]⟩, .int .i64 0, .slice none 0 0] 36)) 1)
          obtain ⟨hz0, hz1⟩ := two_new wr (.cells #[.int .i64 0, .string ⟨#[]⟩, .string ⟨#[]⟩, .int .i64 0, .slice none 0 0] 36) (.cells #[.int .i64 0, .string ⟨#[]⟩, .string ⟨#[]⟩, .int .i64 0, .slice none 0 0] 36)
          have hZ9 : (((wr.alloc (.cells #[.int .i64 0, .string ⟨#[]⟩, .string ⟨#[]⟩, .int .i64 0, .slice none 0 0] 36)).alloc (.cells #[.int .i64 0, .string ⟨#[]⟩, .string ⟨#[]⟩, .int .i64 0, .slice none 0 0] 36)).drew).heap[wr.heap.size]? = some (.cells #[.int .i64 0, .string ⟨#[]⟩, .string ⟨#[]⟩, .int .i64 0, .slice none 0 0] 36 (0, 0)) := hz0
          have hZ8 : (((wr.alloc (.cells #[.int .i64 0, .string ⟨#[]⟩, .string ⟨#[]⟩, .int .i64 0, .slice none 0 0] 36)).alloc (.cells #[.int .i64 0, .string ⟨#[]⟩, .string ⟨#[]⟩, .int .i64 0, .slice none 0 0] 36)).drew).heap[(wr.heap.size + 1)]? = some (.cells #[.int .i64 0, .string ⟨#[]⟩, .string ⟨#[]⟩, .int .i64 0, .slice none 0 0] 36 (0, 0)) := hz1
          clear hz0 hz1
          generalize ((wr.alloc (.cells #[.int .i64 0, .string ⟨#[]⟩, .string ⟨#[]⟩, .int .i64 0, .slice none 0 0] 36)).alloc (.cells #[.int .i64 0, .string ⟨#[]⟩, .string ⟨#[]⟩, .int .i64 0, .slice none 0 0] 36)).drew = D2 at *
          have HZ9 := Lib.hid hZ9
          have HZ8 := Lib.hid hZ8
          have e0 := hb_at hZ8 0 rfl
          have f0 := hb_free hZ8 0
          have e1 := hb_at hZ8 1 rfl
          have f1 := hb_free hZ8 1
          have e2 := hb_at hZ8 2 rfl
          have f2 := hb_free hZ8 2
          have e3 := hb_at hZ8 3 rfl
          have f3 := hb_free hZ8 3
          have e4 := hb_at hZ8 4 rfl
          have f4 := hb_free hZ8 4
          clear hZ8 hZ9
          go_simp
          refine hK.out _ _ (by have hB' : Below wr.heap.size wr ((((((D2.setCell ⟨(wr.heap.size + 1), 0, none⟩ (.int .i64 kg)).setCell ⟨(wr.heap.size + 1), 1, none⟩ (.string pg)).setCell ⟨(wr.heap.size + 1), 2, none⟩ (.string ng)).setCell ⟨(wr.heap.size + 1), 3, none⟩ (.int .i64 Ng)).setCell ⟨(wr.heap.size + 1), 4, none⟩ (.slice qg Lg cg))) := HB2.out.trans ((box_set (by omega) HZ8.out _ _ _ _ _).2.2.mono (Nat.le_refl _)); exact ⟨Lib.hid hB', keep_cell hB' C0.out, keep_cell hB' C1.out, keep_cell hB' C2.out, keep_cell hB' C3.out, keep_cell hB' C4.out, keep_cell hB' C5.out, keep_cell hB' C6.out, keep_cell hB' C7.out, keep_cell hB' C8.out, keep_cell hB' C9.out⟩) (fun hNew => ?_)
          clear hK K
          clear hHeld; have hHeld := hNew; clear hNew
          try simp only [Act.put, List.setIfInBounds_toArray, List.set_cons_zero, List.set_cons_succ]
          refine wpAnyH_ready (rs := [17]) (by kernel_rfl) (by simp) ?_
          refine AllReadyH.cons (o := ⟨none, _, _, _, _, _⟩) rfl (fun K hK => ?_) AllReadyH.nil
          clear e0 f0 e1 f1 e2 f2 e3 f3 e4 f4
          obtain ⟨u1, u2, u3⟩ := box_set (base := wr.heap.size) (by omega) HZ8.out (.int .i64 kg) (.string pg) (.string ng) (.int .i64 Ng) (.slice qg Lg cg)
          have hU9 := (u2 wr.heap.size (by omega)).trans HZ9.out
          have HU8 := Lib.hid u1
          have HU9 := Lib.hid hU9
          have HB3 := Lib.hid (HB2.out.trans u3)
          clear u1 u2 u3
          generalize (((((D2.setCell ⟨(wr.heap.size + 1), 0, none⟩ (.int .i64 kg)).setCell ⟨(wr.heap.size + 1), 1, none⟩ (.string pg)).setCell ⟨(wr.heap.size + 1), 2, none⟩ (.string ng)).setCell ⟨(wr.heap.size + 1), 3, none⟩ (.int .i64 Ng)).setCell ⟨(wr.heap.size + 1), 4, none⟩ (.slice qg Lg cg)) = D3 at *
          have e0 := hb_at hU9 0 rfl
          have f0 := hb_free hU9 0
          have e1 := hb_at hU9 1 rfl
          have f1 := hb_free hU9 1
          have e2 := hb_at hU9 2 rfl
          have f2 := hb_free hU9 2
          have e3 := hb_at hU9 3 rfl
          have f3 := hb_free hU9 3
          have e4 := hb_at hU9 4 rfl
          have f4 := hb_free hU9 4
          clear hU9
          go_simp
          refine hK.out _ _ (by have hB' : Below wr.heap.size wr ((((((D3.setCell ⟨wr.heap.size, 0, none⟩ (.int .i64 ks)).setCell ⟨wr.heap.size, 1, none⟩ (.string ps)).setCell ⟨wr.heap.size, 2, none⟩ (.string ns)).setCell ⟨wr.heap.size, 3, none⟩ (.int .i64 Ns)).setCell ⟨wr.heap.size, 4, none⟩ (.slice qs Ls cs))) := HB3.out.trans (box_set (by omega) HU9.out _ _ _ _ _).2.2; exact ⟨Lib.hid hB', keep_cell hB' C0.out, keep_cell hB' C1.out, keep_cell hB' C2.out, keep_cell hB' C3.out, keep_cell hB' C4.out, keep_cell hB' C5.out, keep_cell hB' C6.out, keep_cell hB' C7.out, keep_cell hB' C8.out, keep_cell hB' C9.out⟩) (fun hNew => ?_)
          clear hK K
          clear hHeld; have hHeld := hNew; clear hNew
          try simp only [Act.put, List.setIfInBounds_toArray, List.set_cons_zero, List.set_cons_succ]
          refine wpAnyH_done (by kernel_rfl) ?_ _
          go_wp2_with fail
          go_meet
          obtain ⟨u1, u2, u3⟩ := box_set (base := wr.heap.size) (by omega) HU9.out (.int .i64 ks) (.string ps) (.string ns) (.int .i64 Ns) (.slice qs Ls cs)
          exact ⟨_, _, rfl, rfl, by omega, (u2 (wr.heap.size + 1) (by omega)).trans HU8.out, u1, by omega, by omega, HB3.out.trans u3⟩
      case rest =>
        skip
        obtain ⟨b8, b9, rfl, rfl, hne, hb8, hb9, hl8, hl9, hBc⟩ := hcut
        have hMp : MSt w wc d (w.heap.size + 1 + 1) w.heap.size #[.int .i64 k1, .string p1, .string n1, .int .i64 N1, .slice q1 L1 c1] (.slice (some ⟨g, 0, none⟩) m c) st P n := by
          have h := HM.out.below2 hBc
          refine ⟨⟨vl, HRS.out, ?_⟩, h.put, h.box, h.lo, h.below⟩
          rw [hm]
          exact own_below HPOP.out hBc
        have hMl := hMp.lo
        have hBw := hMp.below
        have HMP := Lib.hid hMp
        have hzc := hBc.size
        have hzw := HM.out.below.size
        have HCC := Lib.hid hBc
        clear hMp hBc HM HPOP C0 C1 C2 C3 C4 C5 C6 C7 C8 C9 wi wv
        have K8 := Lib.hid hb8
        have K9 := Lib.hid hb9
        have f0 := hb_at hb8 0 rfl
        have f1 := hb_at hb8 1 rfl
        have f2 := hb_at hb8 2 rfl
        have f3 := hb_at hb8 3 rfl
        have f4 := hb_at hb8 4 rfl
        have h0 := hb_at hb9 0 rfl
        have h1 := hb_at hb9 1 rfl
        have h2 := hb_at hb9 2 rfl
        have h3 := hb_at hb9 3 rfl
        have h4 := hb_at hb9 4 rfl
        have hl8' := hb_lt hb8
        have hl9' := hb_lt hb9
        clear hb8 hb9
        have wi : (m : Int) ≤ (c : Int) := by omega
        have wi2 : m ≤ c := by omega
        have wv : IntKind.i64.wrap (m : Int) = (m : Int) := IntWalk.i64_in _ (by omega)
        by_cases hk1 : kg = 1
        · subst hk1
          obtain ⟨gm, hT, hPO⟩ := HMP.out.put
          have HT := Lib.hid hT
          have HPO := Lib.hid hPO
          have hgn := hPO ng
          clear hT hPO
          obtain ⟨esM, clM, hMh⟩ := HT.out.heap
          have HMH := Lib.hid hMh
          have hne8 : b8 ≠ w.heap.size + 1 + 1 := fun e => by have h := K8.out; rw [e, hMh] at h; cases h
          have hne9 : b9 ≠ w.heap.size + 1 + 1 := fun e => by have h := K9.out; rw [e, hMh] at h; cases h
          clear hMh
          have HS1 : RowKit.Hid (∀ W, Below w.heap.size w W → IsT W d (tv ks ps ns Ns (.slice qs Ls cs)) ts) := Lib.hid fun W hW => HS.out.below hW
          rcases hgn with ⟨hn1, hn2⟩ | ⟨v, t, hv1, hv2, hv3, hv4⟩
          · have HN2 := Lib.hid hn2
            have hms1 : meas d st < meas d ((Tm.mk 1 pg ng Ng lg, ts) :: st) := by
              have h1 := meas_cons d (Tm.mk 1 pg ng Ng lg, ts) st
              have h2 := tsz_pos HG.out.dp
              have h3 : tszN d (Tm.mk 1 pg ng Ng lg, ts).1 = tszN d (Tm.mk 1 pg ng Ng lg) := rfl
              omega
            have hnm1 : n + 1 + meas d st ≤ 30000 := by
              have h1 := meas_cons d (Tm.mk 1 pg ng Ng lg, ts) st
              have h2 := tsz_pos HG.out.dp
              have h3 : tszN d (Tm.mk 1 pg ng Ng lg, ts).1 = tszN d (Tm.mk 1 pg ng Ng lg) := rfl
              omega
            clear hn2
            go_wp2_with (first
              | (at_lookup; refine wpList_tm_look _ rfl _ _ rfl rfl HT.out ng rfl hng zT false (by rw [hn1]; rfl) (by rw [hn1]; rfl) ?_; unfold zT)
              | (at_mapUpdate; refine wpList_tm_put _ rfl _ _ _ rfl rfl (HT.out.kept fun x hx => hb_alloc hx _) (by unfold maxLen; omega) ng rfl hng (tv ks ps ns Ns (.slice qs Ls cs)) rfl ?_; intro w1 ht1 htn1
                 have HT1 := Lib.hid ht1
                 have HTN := Lib.hid htn1
                 have hz1 := htn1.grown.size
                 rw [World.size_alloc] at hz1
                 have u8 := hb_grown (hb_alloc K8.out (.cells #[.int .i64 0, .string ⟨#[]⟩, .string ⟨#[]⟩, .int .i64 0, .slice none 0 0] 36)) htn1.grown (fun e => hne8 (Option.some.inj e))
                 have u9 := hb_grown (hb_alloc K9.out (.cells #[.int .i64 0, .string ⟨#[]⟩, .string ⟨#[]⟩, .int .i64 0, .slice none 0 0] 36)) htn1.grown (fun e => hne9 (Option.some.inj e))
                 have i2 := hb_at u8 2 rfl
                 have j0 := hb_at u9 0 rfl
                 have j1 := hb_at u9 1 rfl
                 have j2 := hb_at u9 2 rfl
                 have j3 := hb_at u9 3 rfl
                 have j4 := hb_at u9 4 rfl
                 have hB1 : Below w.heap.size w w1 := turned_below (hBw.alloc hBw.size _) (Nat.le_refl _) htn1 (by omega)
                 have HB1 := Lib.hid hB1
                 have hM2 := MSt.turn (HMP.out.kept (fun g x hx => hb_alloc hx _) (hBw.alloc hBw.size _)) HPO.out (hb_alloc HMH.out _) ht1 htn1 HS.out HSM.out
                 have HM2 := Lib.hid hM2
                 clear ht1 htn1 u8 u9 hB1 hM2)
              | (at_lookup; refine wpList_tm_look1 _ rfl _ _ rfl rfl HT1.out ng rfl hng (tv ks ps ns Ns (.slice qs Ls cs)) (by unfold upV; rw [if_pos rfl]; rfl) ?_)
              | (go_at_call 81; ((with_reducible refine (same_any d _ _ ts ts w1 (HS1.out _ HB1.out) (HS1.out _ HB1.out)).mono ?_); rintro e w2 ⟨he, hb2⟩; rw [same_self] at he; subst he)))
            have hI : InvM w w2 d (w.heap.size + 1 + 1) w.heap.size #[.int .i64 k1, .string p1, .string n1, .int .i64 N1, .slice q1 L1 c1] [(ta, tb)] (.slice (some ⟨g, 0, none⟩) m c) (meas d st) :=
              ⟨st, _, n + 1, HM2.out.below2 hb2, hnm1, fun r h => HCT.out r (Mt.new HN2.out h), Nat.le_refl _⟩
            go_roundw
            case rel => exact ⟨_, hI⟩
            case measure => exact Nat.lt_of_le_of_lt (leastN_le hI) (Nat.lt_of_lt_of_le hms1 HMS.out)
          · have HV2 := Lib.hid hv2
            have HV3 : RowKit.Hid (∀ W, Below w.heap.size w W → IsT W d v t) := Lib.hid fun W hW => hv3.below hW
            have hms1 : meas d st < meas d ((Tm.mk 1 pg ng Ng lg, ts) :: st) := by
              have h1 := meas_cons d (Tm.mk 1 pg ng Ng lg, ts) st
              have h2 := tsz_pos HG.out.dp
              have h3 : tszN d (Tm.mk 1 pg ng Ng lg, ts).1 = tszN d (Tm.mk 1 pg ng Ng lg) := rfl
              omega
            obtain ⟨dv, kv, pv, nv, Nv, sv, lv, _, _, rfl, _, _, qv, cv, rfl, _, _⟩ := hv3.open
            generalize lv.length = Lv at *
            have u8 := hb_alloc K8.out (.cells #[.int .i64 kv, .string pv, .string nv, .int .i64 Nv, .slice qv Lv cv] 36)
            have u9 := hb_alloc K9.out (.cells #[.int .i64 kv, .string pv, .string nv, .int .i64 Nv, .slice qv Lv cv] 36)
            have hB1 := hBw.alloc hBw.size (.cells #[.int .i64 kv, .string pv, .string nv, .int .i64 Nv, .slice qv Lv cv] 36)
            have HB1 := Lib.hid hB1
            have HM1 := Lib.hid (HMP.out.kept (fun g x hx => hb_alloc hx (.cells #[.int .i64 kv, .string pv, .string nv, .int .i64 Nv, .slice qv Lv cv] 36)) hB1)
            have HT1 := Lib.hid (HT.out.kept (w' := wc.alloc (.cells #[.int .i64 kv, .string pv, .string nv, .int .i64 Nv, .slice qv Lv cv] 36)) fun x hx => hb_alloc hx _)
            clear hv2 hv3 u8 u9 hB1
            by_cases htt : t = ts
            · have HTT := Lib.hid htt
              have hs1 : same t ts = true := same_iff.2 htt
              clear htt
              go_wp2_with (first
                | (at_lookup; refine wpList_tm_look _ rfl _ _ rfl rfl HT.out ng rfl hng (tv kv pv nv Nv (.slice qv Lv cv)) true (by rw [hv1]; rfl) (by rw [hv1]; rfl) ?_)
                | (at_lookup; refine wpList_tm_look1 _ rfl _ _ rfl rfl HT1.out ng rfl hng (tv kv pv nv Nv (.slice qv Lv cv)) (by rw [hv1]; rfl) ?_)
                | (go_at_call 81; ((with_reducible refine (same_any d _ _ t ts _ (HV3.out _ HB1.out) (HS1.out _ HB1.out)).mono ?_); rintro e w2 ⟨he, hb2⟩; rw [hs1] at he; subst he)))
              have hI : InvM w w2 d (w.heap.size + 1 + 1) w.heap.size #[.int .i64 k1, .string p1, .string n1, .int .i64 N1, .slice q1 L1 c1] [(ta, tb)] (.slice (some ⟨g, 0, none⟩) m c) (meas d st) :=
                ⟨st, _, n, HM1.out.below2 hb2, by omega, fun r h => HCT.out r (Mt.old (by rw [HV2.out, HTT.out]) h), Nat.le_refl _⟩
              go_roundw
              case rel => exact ⟨_, hI⟩
              case measure => exact Nat.lt_of_le_of_lt (leastN_le hI) (Nat.lt_of_lt_of_le hms1 HMS.out)
            · have HTT := Lib.hid htt
              have hs1 : same t ts = false := same_no htt
              clear htt
              go_wp2_with (first
                | (at_lookup; refine wpList_tm_look _ rfl _ _ rfl rfl HT.out ng rfl hng (tv kv pv nv Nv (.slice qv Lv cv)) true (by rw [hv1]; rfl) (by rw [hv1]; rfl) ?_)
                | (at_lookup; refine wpList_tm_look1 _ rfl _ _ rfl rfl HT1.out ng rfl hng (tv kv pv nv Nv (.slice qv Lv cv)) (by rw [hv1]; rfl) ?_)
                | (go_at_call 81; ((with_reducible refine (same_any d _ _ t ts _ (HV3.out _ HB1.out) (HS1.out _ HB1.out)).mono ?_); rintro e w2 ⟨he, hb2⟩; rw [hs1] at he; subst he)))
              refine bodyPost_ret (v := .tuple #[.slice none 0 0, .bool false]) (by simp [results, Tryd.results65, go_sem]) rfl ?_
              exact ⟨false, _, rfl, HCT.out _ (Mt.clash HV2.out HTT.out), HB1.out.trans (hb2.mono HB1.out.size)⟩
        · have HTS2 := HTS.out
          subst HTS2
          have hk1' : (kg == 1) = false := by simpa using hk1
          have HK1 := Lib.hid hk1
          clear hk1
          by_cases hk : kg = ks
          rotate_left
          · go_wp2
            refine bodyPost_ret (v := .tuple #[.slice none 0 0, .bool false]) (by simp [results, Tryd.results65, go_sem]) rfl ?_
            exact ⟨false, _, rfl, HCT.out _ (Mt.differ HK1.out fun h => hk h.1), hBw⟩
          subst hk
          by_cases hp : pg = ps
          rotate_left
          · have hp' : ¬ pg.toList = ps.toList := fun h => hp (toList_inj h)
            have HP := Lib.hid hp
            clear hp
            go_wp2
            refine bodyPost_ret (v := .tuple #[.slice none 0 0, .bool false]) (by simp [results, Tryd.results65, go_sem]) rfl ?_
            exact ⟨false, _, rfl, HCT.out _ (Mt.differ HK1.out fun h => HP.out h.2.1), hBw⟩
          subst hp
          by_cases hn : ng = ns
          rotate_left
          · have hn' : ¬ ng.toList = ns.toList := fun h => hn (toList_inj h)
            have HP := Lib.hid hn
            clear hn
            go_wp2
            refine bodyPost_ret (v := .tuple #[.slice none 0 0, .bool false]) (by simp [results, Tryd.results65, go_sem]) rfl ?_
            exact ⟨false, _, rfl, HCT.out _ (Mt.differ HK1.out fun h => HP.out h.2.2.1), hBw⟩
          subst hn
          by_cases hN : Ng = Ns
          rotate_left
          · go_wp2
            refine bodyPost_ret (v := .tuple #[.slice none 0 0, .bool false]) (by simp [results, Tryd.results65, go_sem]) rfl ?_
            exact ⟨false, _, rfl, HCT.out _ (Mt.differ HK1.out fun h => hN h.2.2.2.1), hBw⟩
          subst hN
          by_cases hL : Lg = Ls
          rotate_left
          · have hl' : ((Lg : Int) != (Ls : Int)) = true := by simp; omega
            have HP : RowKit.Hid (lg.length ≠ ls.length) := Lib.hid (by omega)
            clear hL
            go_wp2
            refine bodyPost_ret (v := .tuple #[.slice none 0 0, .bool false]) (by simp [results, Tryd.results65, go_sem]) rfl ?_
            exact ⟨false, _, rfl, HCT.out _ (Mt.differ HK1.out fun h => HP.out h.2.2.2.2), hBw⟩
          subst hL
          have hm1 : meas d ((lg.zip ls).reverse ++ st) + 1 = meas d ((Tm.mk kg pg ng Ng lg, Tm.mk kg pg ng Ng ls) :: st) := meas_go HG.out.dp (Nat.le_refl _) (by omega)
          have HM1 := Lib.hid hm1
          have HNM := Lib.hid hnm
          have HDP := Lib.hid HG.out.dp
          have HDPS2 := Lib.hid HS.out.dp
          have hst : st.length ≤ 30000 := by
            have h1 := HRS.out.len
            omega
          clear hm1 hnm
          have hL6 : Lg ≤ 30000 := by
            have h4 := len_zip_meas HG.out.dp (m := ls) (y := Tm.mk kg pg ng Ng ls) (rest := st) (by omega)
            have h5 := HNM.out
            rw [List.length_zip] at h4
            omega
          skip
          go_wp2
          go_loopw [7, 104] (fun sv i wx => ∃ j : Nat, j ≤ Lg ∧ i = .int .i64 j ∧ MSt w wx d (w.heap.size + 1 + 1) w.heap.size #[.int .i64 k1, .string p1, .string n1, .int .i64 N1, .slice q1 L1 c1] sv (((lg.zip ls).take j).reverse ++ st) P n ∧ wx.heap[b8]? = some (.cells #[.int .i64 kg, .string pg, .string ng, .int .i64 Ng, .slice qg Lg cg] 36 (0, 0)) ∧ wx.heap[b9]? = some (.cells #[.int .i64 kg, .string pg, .string ng, .int .i64 Ng, .slice qs Lg cs] 36 (0, 0))) (fun _ i _ => Lg - (intOf i).toNat)
          case atStart => exact ⟨0, Nat.zero_le _, rfl, HMP.out, K8.out, K9.out⟩
          case round =>
            obtain ⟨j, hj, rfl, hMj, hj8, hj9⟩ := hrel
            have HMJ := Lib.hid hMj
            have J8 := Lib.hid hj8
            have J9 := Lib.hid hj9
            clear hMj hj8 hj9
            by_cases hlt : j < Lg
            · obtain ⟨x, hx⟩ : ∃ x, lg[j]? = some x := ⟨_, List.getElem?_eq_getElem (by omega)⟩
              obtain ⟨y, hy⟩ : ∃ y, ls[j]? = some y := ⟨_, List.getElem?_eq_getElem (by omega)⟩
              obtain ⟨_, _, eg, _, hkg⟩ := HKG.out
              obtain ⟨_, _, es, _, hks⟩ := HKS.out
              injection eg with eg e2 e3
              clear e2 e3
              injection es with es e2 e3
              clear e2 e3
              subst eg
              subst es
              obtain ⟨bg, og, kx, px, nx, Nx, sx, rfl, tgx, hix⟩ := hkg j x hx
              obtain ⟨bs, os, ky, py, ny, Ny, sy, rfl, tsy, hiy⟩ := hks j y hy
              obtain ⟨qx, lx, cx, rfl⟩ := hix.spell
              obtain ⟨qy, ly, cy, rfl⟩ := hiy.spell
              obtain ⟨X0, X1, X2, X3, X4⟩ := tgx.below HMJ.out.below tgx.lt
              obtain ⟨Y0, Y1, Y2, Y3, Y4⟩ := tsy.below HMJ.out.below tsy.lt
              have X0 := Lib.hid X0
              have X1 := Lib.hid X1
              have X2 := Lib.hid X2
              have X3 := Lib.hid X3
              have X4 := Lib.hid X4
              have Y0 := Lib.hid Y0
              have Y1 := Lib.hid Y1
              have Y2 := Lib.hid Y2
              have Y3 := Lib.hid Y3
              have Y4 := Lib.hid Y4
              have HIX := Lib.hid (hix.more hdg)
              have HIY := Lib.hid (hiy.more hds)
              have HSY := Lib.hid (kid_sm HDPS2.out HSM.out (List.mem_of_getElem? hy))
              have HNX : RowKit.Hid (((lg.zip ls).take (j + 1)).reverse ++ st = (x, y) :: (((lg.zip ls).take j).reverse ++ st)) := Lib.hid (zip_next hx hy)
              have hlst : (((lg.zip ls).take j).reverse ++ st).length ≤ 100000 := by
                have h1 := len_meas (HRS.out.dp)
                have h2 : ((lg.zip ls).take j).length ≤ 30000 := by
                  have h3 := HNM.out
                  have h4 := len_zip_meas HDP.out (m := ls) (y := Tm.mk kg pg ng Ng ls) (rest := st) (by omega)
                  rw [List.length_take]
                  omega
                rw [List.length_append, List.length_reverse]
                omega
              have HLS := Lib.hid hlst
              have wij : (j : Int) < (Lg : Int) := by omega
              clear hkg hks tgx tsy hix hiy hx hy hlst
              go_upto_region 17 with fail
              refine Inv.regionP (by kernel_rfl) ?_
              refine Inv.start0 ?_ (by kernel_rfl)
              refine Inv.regionT [0, 1, 2, 3, 4, 5, 6, 7, 8, 9, 10, 11, 12] [] 13 [14] [some 107, some 108, some 109, some 110, some 111, some 112, some 113, some 114, some 115, some 116, some 117, some 118, some 119, some 120, some 7] [[], [], [1], [], [2, 3], [4], [], [6], [], [7, 8], [9], [5, 10], [11]] (by kernel_rfl) (by kernel_rfl) (by kernel_rfl) (by kernel_rfl) (by kernel_rfl) [Inv.MP.is (u7), Inv.MP.is (.pointer (some ⟨b8, 4, none⟩)), Inv.MP.is (.slice (some ⟨bg, og, none⟩) Lg cg), Inv.MP.is (.int .i64 (j : Nat)), Inv.MP.is (.pointer (some ⟨bg, og + j * 5, none⟩)), Inv.MP.is (tv kx px nx Nx (.slice qx lx cx)), Inv.MP.is (.pointer (some ⟨b9, 4, none⟩)), Inv.MP.is (.slice (some ⟨bs, os, none⟩) Lg cs), Inv.MP.is (.int .i64 (j : Nat)), Inv.MP.is (.pointer (some ⟨bs, os + j * 5, none⟩)), Inv.MP.is (tv ky py ny Ny (.slice qy ly cy)), Inv.MP.is (.agg #[.int .i64 kx, .string px, .string nx, .int .i64 Nx, .slice qx lx cx, .int .i64 ky, .string py, .string ny, .int .i64 Ny, .slice qy ly cy]), Inv.MP.pair #[.int .i64 kx, .string px, .string nx, .int .i64 Nx, .slice qx lx cx, .int .i64 ky, .string py, .string ny, .int .i64 Ny, .slice qy ly cy]] [] (by intro x hx; cases hx) _ (by kernel_rfl) ⟨?_, ?_, ?_, ?_, ?_, ?_, ?_, ?_, ?_, ?_, ?_, ?_, ?_, trivial⟩ (fun vs wq hbq hv htie => ?_)
              · intro vs w' hb hv K hK
                clear hv
                have hK2 := hK.out
                clear hK
                simp only [Inv.putD, Inv.dst, List.foldl_cons, List.foldl_nil, List.getD_cons_zero, List.getD_cons_succ, Act.put, List.setIfInBounds_toArray, List.set_cons_zero, List.set_cons_succ, List.filterMap_cons, List.filterMap_nil, List.getElem?_toArray, List.getElem?_cons_zero, List.getElem?_cons_succ, List.getElem_toArray, List.getElem_cons_zero, List.getElem_cons_succ] at hK2 ⊢
                have hK := Lib.hid hK2
                clear hK2
                simp only [Region.wanted, Inv.yieldedD, Inv.dst, List.getD_cons_zero, List.getD_cons_succ]
                go_simp
                refine hK.out _ _ (Eq.refl _) (Below.refl _ _) (Inv.noTies _ _ _ _ _)
              · intro vs w' hb hv K hK
                clear hv
                have hK2 := hK.out
                clear hK
                simp only [Inv.putD, Inv.dst, List.foldl_cons, List.foldl_nil, List.getD_cons_zero, List.getD_cons_succ, Act.put, List.setIfInBounds_toArray, List.set_cons_zero, List.set_cons_succ, List.filterMap_cons, List.filterMap_nil, List.getElem?_toArray, List.getElem?_cons_zero, List.getElem?_cons_succ, List.getElem_toArray, List.getElem_cons_zero, List.getElem_cons_succ] at hK2 ⊢
                have hK := Lib.hid hK2
                clear hK2
                simp only [Region.wanted, Inv.yieldedD, Inv.dst, List.getD_cons_zero, List.getD_cons_succ]
                go_simp
                refine hK.out _ _ (Eq.refl _) (Below.refl _ _) (Inv.noTies _ _ _ _ _)
              · intro vs w' hb hv K hK
                have h1 : (Inv.MP.is (.pointer (some ⟨b8, 4, none⟩))).p (vs 1) w' := hv 1 (by simp)
                clear hv
                have hK2 := hK.out
                clear hK
                simp only [Inv.putD, Inv.dst, List.foldl_cons, List.foldl_nil, List.getD_cons_zero, List.getD_cons_succ, Act.put, List.setIfInBounds_toArray, List.set_cons_zero, List.set_cons_succ, List.filterMap_cons, List.filterMap_nil, List.getElem?_toArray, List.getElem?_cons_zero, List.getElem?_cons_succ, List.getElem_toArray, List.getElem_cons_zero, List.getElem_cons_succ] at hK2 ⊢
                have hK := Lib.hid hK2
                clear hK2
                generalize vs 1 = y1 at *
                have h1 : y1 = _ := h1
                subst h1
                have z4 := hb_at (hb_below J8.out hb (hb_lt J8.out)) 4 rfl
                simp only [Region.wanted, Inv.yieldedD, Inv.dst, List.getD_cons_zero, List.getD_cons_succ]
                go_simp
                refine hK.out _ _ (Eq.refl _) (Below.refl _ _) (Inv.noTies _ _ _ _ _)
              · intro vs w' hb hv K hK
                clear hv
                have hK2 := hK.out
                clear hK
                simp only [Inv.putD, Inv.dst, List.foldl_cons, List.foldl_nil, List.getD_cons_zero, List.getD_cons_succ, Act.put, List.setIfInBounds_toArray, List.set_cons_zero, List.set_cons_succ, List.filterMap_cons, List.filterMap_nil, List.getElem?_toArray, List.getElem?_cons_zero, List.getElem?_cons_succ, List.getElem_toArray, List.getElem_cons_zero, List.getElem_cons_succ] at hK2 ⊢
                have hK := Lib.hid hK2
                clear hK2
                simp only [Region.wanted, Inv.yieldedD, Inv.dst, List.getD_cons_zero, List.getD_cons_succ]
                go_simp
                refine hK.out _ _ (Eq.refl _) (Below.refl _ _) (Inv.noTies _ _ _ _ _)
              · intro vs w' hb hv K hK
                have h2 : (Inv.MP.is (.slice (some ⟨bg, og, none⟩) Lg cg)).p (vs 2) w' := hv 2 (by simp)
                have h3 : (Inv.MP.is (.int .i64 (j : Nat))).p (vs 3) w' := hv 3 (by simp)
                clear hv
                have hK2 := hK.out
                clear hK
                simp only [Inv.putD, Inv.dst, List.foldl_cons, List.foldl_nil, List.getD_cons_zero, List.getD_cons_succ, Act.put, List.setIfInBounds_toArray, List.set_cons_zero, List.set_cons_succ, List.filterMap_cons, List.filterMap_nil, List.getElem?_toArray, List.getElem?_cons_zero, List.getElem?_cons_succ, List.getElem_toArray, List.getElem_cons_zero, List.getElem_cons_succ] at hK2 ⊢
                have hK := Lib.hid hK2
                clear hK2
                generalize vs 2 = y2 at *
                generalize vs 3 = y3 at *
                have h2 : y2 = _ := h2
                subst h2
                have h3 : y3 = _ := h3
                subst h3
                simp only [Region.wanted, Inv.yieldedD, Inv.dst, List.getD_cons_zero, List.getD_cons_succ]
                go_simp
                refine hK.out _ _ (Eq.refl _) (Below.refl _ _) (Inv.noTies _ _ _ _ _)
              · intro vs w' hb hv K hK
                have h4 : (Inv.MP.is (.pointer (some ⟨bg, og + j * 5, none⟩))).p (vs 4) w' := hv 4 (by simp)
                clear hv
                have hK2 := hK.out
                clear hK
                simp only [Inv.putD, Inv.dst, List.foldl_cons, List.foldl_nil, List.getD_cons_zero, List.getD_cons_succ, Act.put, List.setIfInBounds_toArray, List.set_cons_zero, List.set_cons_succ, List.filterMap_cons, List.filterMap_nil, List.getElem?_toArray, List.getElem?_cons_zero, List.getElem?_cons_succ, List.getElem_toArray, List.getElem_cons_zero, List.getElem_cons_succ] at hK2 ⊢
                have hK := Lib.hid hK2
                clear hK2
                generalize vs 4 = y4 at *
                have h4 : y4 = _ := h4
                subst h4
                have x0 := keep_cell hb X0.out
                have x1 := keep_cell hb X1.out
                have x2 := keep_cell hb X2.out
                have x3 := keep_cell hb X3.out
                have x4 := keep_cell hb X4.out
                simp only [Region.wanted, Inv.yieldedD, Inv.dst, List.getD_cons_zero, List.getD_cons_succ]
                go_simp
                refine hK.out _ _ (Eq.refl _) (Below.refl _ _) (Inv.noTies _ _ _ _ _)
              · intro vs w' hb hv K hK
                clear hv
                have hK2 := hK.out
                clear hK
                simp only [Inv.putD, Inv.dst, List.foldl_cons, List.foldl_nil, List.getD_cons_zero, List.getD_cons_succ, Act.put, List.setIfInBounds_toArray, List.set_cons_zero, List.set_cons_succ, List.filterMap_cons, List.filterMap_nil, List.getElem?_toArray, List.getElem?_cons_zero, List.getElem?_cons_succ, List.getElem_toArray, List.getElem_cons_zero, List.getElem_cons_succ] at hK2 ⊢
                have hK := Lib.hid hK2
                clear hK2
                simp only [Region.wanted, Inv.yieldedD, Inv.dst, List.getD_cons_zero, List.getD_cons_succ]
                go_simp
                refine hK.out _ _ (Eq.refl _) (Below.refl _ _) (Inv.noTies _ _ _ _ _)
              · intro vs w' hb hv K hK
                have h6 : (Inv.MP.is (.pointer (some ⟨b9, 4, none⟩))).p (vs 6) w' := hv 6 (by simp)
                clear hv
                have hK2 := hK.out
                clear hK
                simp only [Inv.putD, Inv.dst, List.foldl_cons, List.foldl_nil, List.getD_cons_zero, List.getD_cons_succ, Act.put, List.setIfInBounds_toArray, List.set_cons_zero, List.set_cons_succ, List.filterMap_cons, List.filterMap_nil, List.getElem?_toArray, List.getElem?_cons_zero, List.getElem?_cons_succ, List.getElem_toArray, List.getElem_cons_zero, List.getElem_cons_succ] at hK2 ⊢
                have hK := Lib.hid hK2
                clear hK2
                generalize vs 6 = y6 at *
                have h6 : y6 = _ := h6
                subst h6
                have z4 := hb_at (hb_below J9.out hb (hb_lt J9.out)) 4 rfl
                simp only [Region.wanted, Inv.yieldedD, Inv.dst, List.getD_cons_zero, List.getD_cons_succ]
                go_simp
                refine hK.out _ _ (Eq.refl _) (Below.refl _ _) (Inv.noTies _ _ _ _ _)
              · intro vs w' hb hv K hK
                clear hv
                have hK2 := hK.out
                clear hK
                simp only [Inv.putD, Inv.dst, List.foldl_cons, List.foldl_nil, List.getD_cons_zero, List.getD_cons_succ, Act.put, List.setIfInBounds_toArray, List.set_cons_zero, List.set_cons_succ, List.filterMap_cons, List.filterMap_nil, List.getElem?_toArray, List.getElem?_cons_zero, List.getElem?_cons_succ, List.getElem_toArray, List.getElem_cons_zero, List.getElem_cons_succ] at hK2 ⊢
                have hK := Lib.hid hK2
                clear hK2
                simp only [Region.wanted, Inv.yieldedD, Inv.dst, List.getD_cons_zero, List.getD_cons_succ]
                go_simp
                refine hK.out _ _ (Eq.refl _) (Below.refl _ _) (Inv.noTies _ _ _ _ _)
              · intro vs w' hb hv K hK
                have h7 : (Inv.MP.is (.slice (some ⟨bs, os, none⟩) Lg cs)).p (vs 7) w' := hv 7 (by simp)
                have h8 : (Inv.MP.is (.int .i64 (j : Nat))).p (vs 8) w' := hv 8 (by simp)
                clear hv
                have hK2 := hK.out
                clear hK
                simp only [Inv.putD, Inv.dst, List.foldl_cons, List.foldl_nil, List.getD_cons_zero, List.getD_cons_succ, Act.put, List.setIfInBounds_toArray, List.set_cons_zero, List.set_cons_succ, List.filterMap_cons, List.filterMap_nil, List.getElem?_toArray, List.getElem?_cons_zero, List.getElem?_cons_succ, List.getElem_toArray, List.getElem_cons_zero, List.getElem_cons_succ] at hK2 ⊢
                have hK := Lib.hid hK2
                clear hK2
                generalize vs 7 = y7 at *
                generalize vs 8 = y8 at *
                have h7 : y7 = _ := h7
                subst h7
                have h8 : y8 = _ := h8
                subst h8
                simp only [Region.wanted, Inv.yieldedD, Inv.dst, List.getD_cons_zero, List.getD_cons_succ]
                go_simp
                refine hK.out _ _ (Eq.refl _) (Below.refl _ _) (Inv.noTies _ _ _ _ _)
              · intro vs w' hb hv K hK
                have h9 : (Inv.MP.is (.pointer (some ⟨bs, os + j * 5, none⟩))).p (vs 9) w' := hv 9 (by simp)
                clear hv
                have hK2 := hK.out
                clear hK
                simp only [Inv.putD, Inv.dst, List.foldl_cons, List.foldl_nil, List.getD_cons_zero, List.getD_cons_succ, Act.put, List.setIfInBounds_toArray, List.set_cons_zero, List.set_cons_succ, List.filterMap_cons, List.filterMap_nil, List.getElem?_toArray, List.getElem?_cons_zero, List.getElem?_cons_succ, List.getElem_toArray, List.getElem_cons_zero, List.getElem_cons_succ] at hK2 ⊢
                have hK := Lib.hid hK2
                clear hK2
                generalize vs 9 = y9 at *
                have h9 : y9 = _ := h9
                subst h9
                have x0 := keep_cell hb Y0.out
                have x1 := keep_cell hb Y1.out
                have x2 := keep_cell hb Y2.out
                have x3 := keep_cell hb Y3.out
                have x4 := keep_cell hb Y4.out
                simp only [Region.wanted, Inv.yieldedD, Inv.dst, List.getD_cons_zero, List.getD_cons_succ]
                go_simp
                refine hK.out _ _ (Eq.refl _) (Below.refl _ _) (Inv.noTies _ _ _ _ _)
              · intro vs w' hb hv K hK
                have h5 : (Inv.MP.is (tv kx px nx Nx (.slice qx lx cx))).p (vs 5) w' := hv 5 (by simp)
                have h10 : (Inv.MP.is (tv ky py ny Ny (.slice qy ly cy))).p (vs 10) w' := hv 10 (by simp)
                clear hv
                have hK2 := hK.out
                clear hK
                simp only [Inv.putD, Inv.dst, List.foldl_cons, List.foldl_nil, List.getD_cons_zero, List.getD_cons_succ, Act.put, List.setIfInBounds_toArray, List.set_cons_zero, List.set_cons_succ, List.filterMap_cons, List.filterMap_nil, List.getElem?_toArray, List.getElem?_cons_zero, List.getElem?_cons_succ, List.getElem_toArray, List.getElem_cons_zero, List.getElem_cons_succ] at hK2 ⊢
                have hK := Lib.hid hK2
                clear hK2
                generalize vs 5 = y5 at *
                generalize vs 10 = y10 at *
                have h5 : y5 = _ := h5
                subst h5
                have h10 : y10 = _ := h10
                subst h10
                simp only [Region.wanted, Inv.yieldedD, Inv.dst, List.getD_cons_zero, List.getD_cons_succ]
                go_simp
                refine hK.out _ _ (Eq.refl _) (Below.refl _ _) (Inv.noTies _ _ _ _ _)
              · intro vs w' hb hv K hK
                have h11 : (Inv.MP.is (.agg #[.int .i64 kx, .string px, .string nx, .int .i64 Nx, .slice qx lx cx, .int .i64 ky, .string py, .string ny, .int .i64 Ny, .slice qy ly cy])).p (vs 11) w' := hv 11 (by simp)
                clear hv
                have hK2 := hK.out
                clear hK
                simp only [Inv.putD, Inv.dst, List.foldl_cons, List.foldl_nil, List.getD_cons_zero, List.getD_cons_succ, Act.put, List.setIfInBounds_toArray, List.set_cons_zero, List.set_cons_succ, List.filterMap_cons, List.filterMap_nil, List.getElem?_toArray, List.getElem?_cons_zero, List.getElem?_cons_succ, List.getElem_toArray, List.getElem_cons_zero, List.getElem_cons_succ] at hK2 ⊢
                have hK := Lib.hid hK2
                clear hK2
                generalize vs 11 = y11 at *
                have h11 : y11 = _ := h11
                subst h11
                simp only [Region.wanted, Inv.yieldedD, Inv.dst, List.getD_cons_zero, List.getD_cons_succ]
                go_simp
                refine hK.out _ _ ⟨_, rfl, hb_new _ _⟩ (below_alloc _ _) (Inv.noTies _ _ _ _ _)
              · have h0 : vs 0 = u7 := hv 0 (by simp)
                have h12 : (Inv.MP.pair #[.int .i64 kx, .string px, .string nx, .int .i64 Nx, .slice qx lx cx, .int .i64 ky, .string py, .string ny, .int .i64 Ny, .slice qy ly cy]).p (vs 12) wq := hv 12 (by simp)
                clear hv htie
                simp only [List.range, List.range.loop, Inv.putD, Inv.dst, List.foldl_cons, List.foldl_nil, List.getD_cons_zero, List.getD_cons_succ, Act.put, List.setIfInBounds_toArray, List.set_cons_zero, List.set_cons_succ, List.filterMap_cons, List.filterMap_nil, List.getElem?_toArray, List.getElem?_cons_zero, List.getElem?_cons_succ, List.getElem_toArray, List.getElem_cons_zero, List.getElem_cons_succ]
                generalize vs 0 = yy0 at *
                generalize vs 1 = yy1 at *
                generalize vs 2 = yy2 at *
                generalize vs 3 = yy3 at *
                generalize vs 4 = yy4 at *
                generalize vs 5 = yy5 at *
                generalize vs 6 = yy6 at *
                generalize vs 7 = yy7 at *
                generalize vs 8 = yy8 at *
                generalize vs 9 = yy9 at *
                generalize vs 10 = yy10 at *
                generalize vs 11 = yy11 at *
                generalize vs 12 = yy12 at *
                subst h0
                obtain ⟨bp, rfl, hbp⟩ := h12
                obtain ⟨v', w', hr, hM2, hkp⟩ := MSt.push (HMJ.out.below2 hbq) bp kx Nx ky Ny px nx py ny qx qy lx cx ly cy hbp (x, y) HIX.out HIY.out HSY.out HLS.out 1
                refine wpList_append_at rfl (.tmp 107) (.tmp 119) rfl rfl rfl rfl hr ?_
                have M8 := Lib.hid (hkp _ _ _ _ (hb_below J8.out hbq (hb_lt J8.out)) (by decide))
                have M9 := Lib.hid (hkp _ _ _ _ (hb_below J9.out hbq (hb_lt J9.out)) (by decide))
                have HM2 := Lib.hid hM2
                clear hr hM2 hkp hbp
                go_wp2_with fail
                go_roundw
                case rel => exact ⟨j + 1, by omega, by go_num, by rw [HNX.out]; exact HM2.out, M8.out, M9.out⟩
                case measure => simp [intOf]; omega
            · obtain rfl : j = Lg := by omega
              have hall : (lg.zip ls).take j = lg.zip ls := List.take_of_length_le (by rw [List.length_zip]; omega)
              have hI : InvM w _ d (w.heap.size + 1 + 1) w.heap.size #[.int .i64 k1, .string p1, .string n1, .int .i64 N1, .slice q1 L1 c1] [(ta, tb)] _ (meas d ((lg.zip ls).reverse ++ st)) :=
                ⟨_, P, n, (by have h := HMJ.out; rw [hall] at h; exact h), by have h1 := HNM.out; have h2 := HM1.out; omega, fun r h => HCT.out r (Mt.go HK1.out (by omega) h), Nat.le_refl _⟩
              have HI := Lib.hid hI
              clear hI hall
              go_wp2
              go_roundw
              case rel => exact ⟨_, HI.out⟩
              case measure => exact Nat.lt_of_le_of_lt (leastN_le HI.out) (Nat.lt_of_lt_of_le (show meas d ((lg.zip ls).reverse ++ st) < meas d ((Tm.mk kg pg ng Ng lg, Tm.mk kg pg ng Ng ls) :: st) from by have h2 := HM1.out; omega) HMS.out)
end Go.Proofs.YtncebhddcokkoaaDoor
/- Above, and Same, of the program. -/
namespace Go.Proofs.YtncebhddcokkoaaDoor
open Go.RowKit
def AboveR (ta tb : Tm) (w : World) (e : Ending) (w' : World) : Prop := ∃ r : Bool, e = .returned (.bool r) ∧ Mt [(ta, tb)] (fun _ => none) r ∧ Below w.heap.size w w'
/-- May Match go through these two? -/
structure Two (w : World) (d : Nat) (va vb : Value) (ta tb : Tm) : Prop where
  a : IsT w d va ta
  b : IsT w d vb tb
  sa : Sm d ta
  sb : Sm d tb
  za : tszN d ta ≤ 30000
  zb : tszN d tb ≤ 30000
theorem Two.below {w w' : World} {d : Nat} {va vb : Value} {ta tb : Tm} (h : Two w d va vb ta tb) (hb : Below w.heap.size w w') : Two w' d va vb ta tb := ⟨h.a.below hb, h.b.below hb, h.sa, h.sb, h.za, h.zb⟩
theorem Two.turn {w : World} {d : Nat} {va vb : Value} {ta tb : Tm} (h : Two w d va vb ta tb) : Two w d vb va tb ta := ⟨h.b, h.a, h.sb, h.sa, h.zb, h.za⟩
theorem Two.shape {w : World} {d : Nat} {va vb : Value} {ta tb : Tm} (h : Two w d va vb ta tb) : ∃ k1 p1 n1 N1 q1 l1 c1 k2 p2 n2 N2 q2 l2 c2, va = tv k1 p1 n1 N1 (.slice q1 l1 c1) ∧ vb = tv k2 p2 n2 N2 (.slice q2 l2 c2) := by
  obtain ⟨_, k1, p1, n1, N1, _, l1, _, _, rfl, _, _, q1, c1, rfl, _, _⟩ := h.a.open
  obtain ⟨_, k2, p2, n2, N2, _, l2, _, _, rfl, _, _, q2, c2, rfl, _, _⟩ := h.b.open
  exact ⟨_, _, _, _, _, _, _, _, _, _, _, _, _, _, rfl, rfl⟩
set_option maxRecDepth 100000 in
theorem above_any (d : Nat) (va vb : Value) (ta tb : Tm) (w : World) (h : Two w d va vb ta tb) : Calls Tryd.prog 37 #[va, vb] w (AboveR ta tb w) := by
  have HT := Lib.hid h
  obtain ⟨k1, p1, n1, N1, q1, l1, c1, k2, p2, n2, N2, q2, l2, c2, rfl, rfl⟩ := h.shape
  have hB0 := below2 w (.cells #[.int .i64 k1, .string p1, .string n1, .int .i64 N1, .slice q1 l1 c1] 36) (.cells #[.int .i64 k2, .string p2, .string n2, .int .i64 N2, .slice q2 l2 c2] 36)
  have HB0 := Lib.hid hB0
  have HT1 := Lib.hid (HT.out.below hB0)
  clear h hB0
  go_enter Tryd.func37, Tryd.ntmps37
  go_wp2_with (go_at_call 65; refine (match_any d _ _ ta tb _ HT1.out.a HT1.out.b HT1.out.sa HT1.out.sb HT1.out.za).mono ?_; rintro e w3 ⟨r, v, rfl, hm, hb⟩; have HM := Lib.hid hm; have HB3 := Lib.hid hb; clear hm hb)
  go_ret
  exact ⟨r, rfl, HM.out, HB0.out.trans (HB3.out.mono HB0.out.size)⟩
/-- What Same says. -/
def SameM (ta tb : Tm) (r : Bool) : Prop := ∃ r1, Mt [(ta, tb)] (fun _ => none) r1 ∧ (r1 = false → r = false) ∧ (r1 = true → Mt [(tb, ta)] (fun _ => none) r)
theorem SameM.parts {k : Int} {p n e : ByteArray} {la lb : List Tm} {r r' : Bool} (hk : k ≠ 1) (h : SameM (.mk k p n 0 la) (.mk k p n 0 lb) r) (h' : SameM (.mk 4 e e 0 la) (.mk 4 e e 0 lb) r') : r = r' := by
  obtain ⟨r1, h1, h2, h3⟩ := h
  obtain ⟨r2, h4, h5, h6⟩ := h'
  obtain rfl := h1.parts hk h4
  cases r1 with
  | false => rw [h2 rfl, h5 rfl]
  | true => exact (h3 rfl).parts hk (h6 rfl)
def Same7R (ta tb : Tm) (w : World) (e : Ending) (w' : World) : Prop := ∃ r : Bool, e = .returned (.bool r) ∧ SameM ta tb r ∧ Below w.heap.size w w'
set_option maxRecDepth 100000 in
set_option maxHeartbeats 4000000 in
theorem same7_any (d : Nat) (va vb : Value) (ta tb : Tm) (w : World) (h : Two w d va vb ta tb) : Calls Tryd.prog 38 #[va, vb] w (Same7R ta tb w) := by
  have HT := Lib.hid h
  obtain ⟨k1, p1, n1, N1, q1, l1, c1, k2, p2, n2, N2, q2, l2, c2, rfl, rfl⟩ := h.shape
  have hB0 := below2 w (.cells #[.int .i64 k1, .string p1, .string n1, .int .i64 N1, .slice q1 l1 c1] 36) (.cells #[.int .i64 k2, .string p2, .string n2, .int .i64 N2, .slice q2 l2 c2] 36)
  have b0 := hb_alloc (hb_new w (.cells #[.int .i64 k1, .string p1, .string n1, .int .i64 N1, .slice q1 l1 c1] 36)) (.cells #[.int .i64 k2, .string p2, .string n2, .int .i64 N2, .slice q2 l2 c2] 36)
  have b1 := hb_new (w.alloc (.cells #[.int .i64 k1, .string p1, .string n1, .int .i64 N1, .slice q1 l1 c1] 36)) (.cells #[.int .i64 k2, .string p2, .string n2, .int .i64 N2, .slice q2 l2 c2] 36)
  rw [World.size_alloc] at b1
  have K0 := Lib.hid b0
  have K1 := Lib.hid b1
  have HB0 := Lib.hid hB0
  have HT1 := Lib.hid (HT.out.below hB0)
  clear h hB0 b0 b1
  have HC : RowKit.Hid (∀ W, Below w.heap.size w W → Two W d (tv k1 p1 n1 N1 (.slice q1 l1 c1)) (tv k2 p2 n2 N2 (.slice q2 l2 c2)) ta tb) := Lib.hid fun W hW => HT.out.below hW
  go_enter Tryd.func38, Tryd.ntmps38
  go_wp2_with (first
    | (go_at_call 37; (with_reducible refine (above_any d (tv k1 p1 n1 N1 (.slice q1 l1 c1)) (tv k2 p2 n2 N2 (.slice q2 l2 c2)) ta tb _ HT1.out).mono ?_); rintro e w3 ⟨r1, rfl, hm, hb⟩; have HM := Lib.hid hm; have HB3 := Lib.hid hb; have u0 := hb_below K0.out hb (by simp <;> omega); have u1 := hb_below K1.out hb (by simp <;> omega); have x0 := hb_at u0 0 rfl; have x1 := hb_at u0 1 rfl; have x2 := hb_at u0 2 rfl; have x3 := hb_at u0 3 rfl; have x4 := hb_at u0 4 rfl; have y0 := hb_at u1 0 rfl; have y1 := hb_at u1 1 rfl; have y2 := hb_at u1 2 rfl; have y3 := hb_at u1 3 rfl; have y4 := hb_at u1 4 rfl; have HT3 := Lib.hid (HT1.out.below hb).turn; clear hm hb u0 u1; cases r1)
    | (go_at_call 37; (with_reducible refine (above_any d (tv k2 p2 n2 N2 (.slice q2 l2 c2)) (tv k1 p1 n1 N1 (.slice q1 l1 c1)) tb ta _ HT3.out).mono ?_); rintro e w5 ⟨r5, rfl, hm, hb⟩; have HM5 := Lib.hid hm; have HB5 := Lib.hid hb; clear hm hb))
  · go_ret
    exact ⟨false, rfl, ⟨false, HM.out, fun _ => rfl, (by intro h; cases h)⟩, HB0.out.trans (HB3.out.mono HB0.out.size)⟩
  · have hB3 : Below w.heap.size w w3 := HB0.out.trans (HB3.out.mono HB0.out.size)
    go_ret
    exact ⟨r5, rfl, ⟨true, HM.out, (by intro h; cases h), fun _ => HM5.out⟩, hB3.trans (HB5.out.mono hB3.size)⟩
end Go.Proofs.YtncebhddcokkoaaDoor
