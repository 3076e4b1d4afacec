/- The document's Vars. -/
import Derived.Test.YthcpmdgdbceeiaaGreatDoorRj
import Derived.Test.YthcpmdgdbceeiaaGreatDoorU1
namespace Go.Proofs.YthcpmdgdbceeiaaGreatDoor
open Go.RowKit
theorem oper_append {w w' : World} {o : Oper} {a : Act} {K : Act → World → Prop} {Q : Exit → Act → World → Prop} (s x : Operand)
    (ho : o.op = .call { callee := .builtin .append, args := #[s, x], argTypes := #[29, 29] }) (hty : o.type = 29) {v vx v' : Value} (hs : a.eval s = v) (hx : a.eval x = vx)
    (hrun : (Builtin.append_ #[29, 29] 29 #[v, vx]).run Tryz.prog w = .ok v' w') (h : K (a.put o.dst v') w') : Oper.wp Tryz.prog o a w K Q := by
  unfold Oper.wp execOp
  simp only [ho, hty, resolve, invoke, builtin, Sem.run_bind, Sem.run_pure, Result.andThen_ok, List.map_toArray, List.map_cons, List.map_nil, hs, hx, hrun]
  exact h
theorem wpList_append {w w' : World} {ops : Array Oper} {rest : List Oper} {o : Oper} {a : Act} {Q : Exit → Act → World → Prop} (hg : o.guard = none) (s x : Operand)
    (ho : o.op = .call { callee := .builtin .append, args := #[s, x], argTypes := #[29, 29] }) (hty : o.type = 29) {v vx v' : Value} (hs : a.eval s = v) (hx : a.eval x = vx)
    (hrun : (Builtin.append_ #[29, 29] 29 #[v, vx]).run Tryz.prog w = .ok v' w') (h : wpList Tryz.prog ops Q rest (a.put o.dst v') w') : wpList Tryz.prog ops Q (o :: rest) a w := by
  have hw : Region.wanted o (yielded ops a.tmps) = true := by simp [Region.wanted, hg]
  unfold wpList
  rw [if_pos hw]
  exact .inl (oper_append s x ho hty hs hx hrun h)
def VarsQ (d : Nat) (t : Tm) (ns : List ByteArray) (w : World) (e : Ending) (w' : World) : Prop := ∃ v', e = .returned v' ∧ SRow w' v' (varsT d ns t) ∧ Below w.heap.size w w'
set_option maxRecDepth 100000 in
set_option maxHeartbeats 4000000 in
theorem rvars_any (d : Nat) : ∀ (vo va : Value) (ns : List ByteArray) (ta : Tm) (w : World), IsT w d va ta → SRow w vo ns → ns.length + tszN d ta ≤ 100000 → Calls Tryz.prog 20 #[vo, va] w (VarsQ d ta ns w) := by
  induction d with
  | zero => intro vo va ns ta w h; cases h
  | succ d ih =>
    intro vo va ns ta w ha ho hroom
    obtain ⟨d1, k1, p1, n1, N1, s1, l1, e1, rfl, rfl, hp1, hn1, hk1⟩ := ha.open
    obtain rfl : d = d1 := by omega
    obtain ⟨q1, c1, hs1, hm1, hr1⟩ := hk1
    subst hs1
    have HR1 := Lib.hid hr1
    have HO := Lib.hid ho
    obtain ⟨qo, co, rfl, _⟩ := ho
    have hroom2 : ns.length + l1.foldl (fun n t => n + tszN d t) 1 ≤ 100000 := hroom
    have hf := foldl_add (tszN d) l1 1
    have hroom3 : (put1 ns k1 n1).length + l1.foldl (fun n t => n + tszN d t) 0 ≤ 100000 := by
      have := put1_length ns k1 n1
      omega
    have hnl : ns.length ≤ 100000 := by omega
    have HROOM := Lib.hid hroom3
    clear ha e1 hr1 hroom hroom2 hf hroom3
    unfold maxLen at hm1 hp1 hn1
    have HIH := Lib.hid ih
    clear ih
    have HX := Lib.hid (hb_new w (.cells #[.int .i64 k1, .string p1, .string n1, .int .i64 N1, .slice q1 l1.length c1] 24))
    have HB0 : RowKit.Hid (Below w.heap.size w (w.alloc (.cells #[.int .i64 k1, .string p1, .string n1, .int .i64 N1, .slice q1 l1.length c1] 24))) := Lib.hid (below_alloc w _)
    go_enter Tryz.func20, Tryz.ntmps20
    go_upto_region 1 with (fail)
    have hzw : (w.alloc (.cells #[.int .i64 k1, .string p1, .string n1, .int .i64 N1, .slice q1 l1.length c1] 24)).heap.size = w.heap.size + 1 := by simp
    generalize (w.alloc (.cells #[.int .i64 k1, .string p1, .string n1, .int .i64 N1, .slice q1 l1.length c1] 24)) = W1 at *
    have HO1 := Lib.hid (HO.out.below HB0.out)
    have x0 := hb_at HX.out 0 rfl
    have x2 := hb_at HX.out 2 rfl
    go_cut [15] (fun v wx => v = .bool (decide (k1 = 1) && !inN n1 ns) ∧ wx = W1)
    case first =>
      have HIN := Lib.hid (in_any n1 _ ns W1 HO1.out (by omega))
      by_cases hk1 : k1 = 1
      · subst hk1
        have e1 : ((1 : Int) == 1) = true := rfl
        go_wp2_with (go_at_call 25; ((with_reducible refine HIN.out.mono ?_); rintro e w3 ⟨rfl, rfl⟩))
        all_goals
          go_meet
          simp
      · have e1 : (k1 == 1) = false := by simpa using hk1
        go_wp2
        go_meet
        simp [hk1]
    case rest =>
    obtain ⟨rfl, rfl⟩ := hcut
    by_cases hk : k1 = 1 ∧ inN n1 ns = false
    · have hput : put1 ns k1 n1 = ns ++ [n1] := by unfold put1; rw [if_pos hk]
      have e1 : (decide (k1 = 1) && !inN n1 ns) = true := by simp [hk.1, hk.2]
      rw [e1]
      clear e1 hk
      go_upto_region 2 with fail
      refine Inv.region (by kernel_rfl) 6 [some 16, some 17, some 18, some 19, some 20, some 21, some 22, some 0] [[], [], [0, 1], [], [3], [4]] (by kernel_rfl) (by kernel_rfl) (by kernel_rfl) (by kernel_rfl) [Inv.MP.made0 wc.heap.size, Inv.MP.is (.slice qo ns.length co), Inv.MP.own wc.heap.size ns, Inv.MP.is (.pointer (some ⟨w.heap.size, 2, none⟩)), Inv.MP.is (.string n1), Inv.MP.row [n1]] [] (by intro x hx; cases hx) ⟨?_, ?_, ?_, ?_, ?_, ?_, trivial⟩ (fun vs wq hbq hv htie => ?_)
      · intro vs w' hb hv K hK
        clear hv
        have hK2 := hK.out
        clear hK
        simp only [Inv.putD, Inv.dst, List.foldl_cons, List.foldl_nil, List.getD_cons_zero, List.getD_cons_succ, Act.put, List.setIfInBounds_toArray, List.set_cons_zero, List.set_cons_succ] at hK2 ⊢
        have hK := Lib.hid hK2
        clear hK2
        simp only [Region.wanted, Inv.yieldedD, Inv.dst, List.getD_cons_zero, List.getD_cons_succ]
        go_simp
        refine hK.out _ _ ⟨_, rfl, hb.size, hb_new _ _⟩ (below_alloc _ _) (Inv.noTies _ _ _ _ _)
      · intro vs w' hb hv K hK
        clear hv
        have hK2 := hK.out
        clear hK
        simp only [Inv.putD, Inv.dst, List.foldl_cons, List.foldl_nil, List.getD_cons_zero, List.getD_cons_succ, Act.put, List.setIfInBounds_toArray, List.set_cons_zero, List.set_cons_succ] at hK2 ⊢
        have hK := Lib.hid hK2
        clear hK2
        simp only [Region.wanted, Inv.yieldedD, Inv.dst, List.getD_cons_zero, List.getD_cons_succ]
        go_simp
        refine hK.out _ _ (Eq.refl _) (Below.refl _ _) (Inv.noTies _ _ _ _ _)
      · intro vs w' hb hv K hK
        have h0 : (Inv.MP.made0 wc.heap.size).p (vs 0) w' := hv 0 (by simp)
        have h1 : (Inv.MP.is (.slice qo ns.length co)).p (vs 1) w' := hv 1 (by simp)
        clear hv
        have hK2 := hK.out
        clear hK
        simp only [Inv.putD, Inv.dst, List.foldl_cons, List.foldl_nil, List.getD_cons_zero, List.getD_cons_succ, Act.put, List.setIfInBounds_toArray, List.set_cons_zero, List.set_cons_succ] at hK2 ⊢
        have hK := Lib.hid hK2
        clear hK2
        generalize vs 0 = y0 at *
        generalize vs 1 = y1 at *
        obtain ⟨g, rfl, hg1, hg2⟩ := h0
        have h1 : y1 = _ := h1
        subst h1
        simp only [Region.wanted, if_true]
        obtain ⟨v2, w2, hr2, ho2, hb2⟩ := append0 w' wc.heap.size g _ ns hg2 hg1 (HO1.out.below hb) (by omega)
        refine oper_append (.tmp 16) (.tmp 17) rfl rfl rfl rfl hr2 ?_
        exact hK.out _ _ ho2 hb2 (Inv.noTies _ _ _ _ _)
      · intro vs w' hb hv K hK
        clear hv
        have hK2 := hK.out
        clear hK
        simp only [Inv.putD, Inv.dst, List.foldl_cons, List.foldl_nil, List.getD_cons_zero, List.getD_cons_succ, Act.put, List.setIfInBounds_toArray, List.set_cons_zero, List.set_cons_succ] at hK2 ⊢
        have hK := Lib.hid hK2
        clear hK2
        simp only [Region.wanted, Inv.yieldedD, Inv.dst, List.getD_cons_zero, List.getD_cons_succ]
        go_simp
        refine hK.out _ _ (Eq.refl _) (Below.refl _ _) (Inv.noTies _ _ _ _ _)
      · intro vs w' hb hv K hK
        have h3 : (Inv.MP.is (.pointer (some ⟨w.heap.size, 2, none⟩))).p (vs 3) w' := hv 3 (by simp)
        clear hv
        have hK2 := hK.out
        clear hK
        simp only [Inv.putD, Inv.dst, List.foldl_cons, List.foldl_nil, List.getD_cons_zero, List.getD_cons_succ, Act.put, List.setIfInBounds_toArray, List.set_cons_zero, List.set_cons_succ] at hK2 ⊢
        have hK := Lib.hid hK2
        clear hK2
        generalize vs 3 = y3 at *
        have h3 : y3 = _ := h3
        subst h3
        have x2' := keep_cell hb x2
        simp only [Region.wanted, Inv.yieldedD, Inv.dst, List.getD_cons_zero, List.getD_cons_succ]
        go_simp
        refine hK.out _ _ (Eq.refl _) (Below.refl _ _) (Inv.noTies _ _ _ _ _)
      · intro vs w' hb hv K hK
        have h4 : (Inv.MP.is (.string n1)).p (vs 4) w' := hv 4 (by simp)
        clear hv
        have hK2 := hK.out
        clear hK
        simp only [Inv.putD, Inv.dst, List.foldl_cons, List.foldl_nil, List.getD_cons_zero, List.getD_cons_succ, Act.put, List.setIfInBounds_toArray, List.set_cons_zero, List.set_cons_succ] at hK2 ⊢
        have hK := Lib.hid hK2
        clear hK2
        generalize vs 4 = y4 at *
        have h4 : y4 = _ := h4
        subst h4
        simp only [Region.wanted, Inv.yieldedD, Inv.dst, List.getD_cons_zero, List.getD_cons_succ]
        go_simp
        refine hK.out _ _ (SRow.one (hb_new _ _)) (below_alloc _ _) (Inv.noTies _ _ _ _ _)
      · have h2 : wq.ownsRow wc.heap.size 9 1 (vs 2) ns.length (ns.map .string) := hv 2 (by omega)
        have h5 : SRow wq (vs 5) [n1] := hv 5 (by omega)
        clear hv
        simp only [List.range, List.range.loop, Inv.putD, Inv.dst, List.foldl_cons, List.foldl_nil, List.getD_cons_zero, List.getD_cons_succ, Act.put, List.setIfInBounds_toArray, List.set_cons_zero, List.set_cons_succ]
        simp only [List.drop_succ_cons, List.drop_zero]
        generalize vs 0 = y0
        generalize vs 1 = y1
        generalize vs 2 = y2 at *
        generalize vs 3 = y3
        generalize vs 4 = y4
        generalize vs 5 = y5 at *
        obtain ⟨v', w', hr, ho, hg, _⟩ := append_s wq wc.heap.size y2 y5 ns [n1] h2 h5 (by simp; omega) (by have := hbq.size; exact this)
        refine wpList_append rfl (.tmp 18) (.tmp 21) rfl rfl rfl rfl hr ?_
        have hBc : Below wc.heap.size wc w' := hbq.trans ((Below.refl _ wq).grown hg (by have := hbq.size; exact this) (fun k hk => (h2.lt k hk).1))
        have hS : SRow w' v' (put1 ns k1 n1) := by rw [hput]; exact SRow.own rfl ho
        clear hr ho hg h2 h5 hbq hput
        have hx := hb_below HX.out hBc (hb_lt HX.out)
        have HX2 := Lib.hid hx
        have HB1 : RowKit.Hid (Below w.heap.size w w') := Lib.hid (HB0.out.trans (hBc.mono (by omega)))
        have hzc := hBc.size
        have HS := Lib.hid hS
        clear hx hS hBc x0 x2 HX
        go_wp2
        go_loopw [0, 5] (fun v i wr => ∃ k : Nat, k ≤ l1.length ∧ i = .int .i64 k ∧ SRow wr v (varsTo d k l1 (put1 ns k1 n1)) ∧ Below w'.heap.size w' wr) (fun _ i _ => l1.length - (intOf i).toNat)
        case atStart => exact ⟨0, Nat.zero_le _, rfl, HS.out, Below.refl _ _⟩
        case round =>
          obtain ⟨k, hk, rfl, hS, hB⟩ := hrel
          have hzr := hB.size
          have HB := Lib.hid hB
          have HSr := Lib.hid hS
          obtain ⟨qv, cv, rfl, _⟩ := hS
          have xk := hb_at (hb_below HX2.out hB (hb_lt HX2.out)) 4 rfl
          by_cases hlt : k < l1.length
          · have hx1 := List.getElem?_eq_getElem hlt
            have hrm := room_at hlt HROOM.out
            have HN := Lib.hid (varsTo_next (d := d) (ns := put1 ns k1 n1) hlt)
            generalize l1[k] = x at *
            obtain ⟨b1, o1, k1', p1', n1', N1', s1', hq1, ha1, ht1⟩ := HR1.out k x hx1
            subst hq1
            obtain ⟨q3, l3, c3, hs3⟩ := ht1.spell
            subst hs3
            have hBR : Below w.heap.size w wr := HB1.out.trans (hB.mono (by omega))
            obtain ⟨y0, y1, y2, y3, y4⟩ := ha1.below hBR ha1.lt
            have HC := Lib.hid (HIH.out _ _ _ x wr (ht1.below hBR) HSr.out hrm)
            clear hx1 ht1 ha1 hB hBR hrm
            generalize varsTo d k l1 (put1 ns k1 n1) = vs at *
            go_wp2_with (go_at_call 20; ((with_reducible refine HC.out.mono ?_); rintro e w3 ⟨v3, rfl, hs3, hb⟩))
            have HQ := Lib.hid (HB.out.trans (hb.mono hzr))
            have HS3 := Lib.hid hs3
            go_roundw
            case rel => exact ⟨k + 1, by omega, by go_num, by rw [HN.out]; exact HS3.out, HQ.out⟩
            case measure => simp [intOf]; omega
          · obtain rfl : k = l1.length := by omega
            have HE : RowKit.Hid (varsTo d l1.length l1 (put1 ns k1 n1) = varsT (d + 1) ns (.mk k1 p1 n1 N1 l1)) := Lib.hid (by unfold varsTo; rw [List.take_length]; rfl)
            generalize varsTo d l1.length l1 (put1 ns k1 n1) = vs at *
            go_wp2
            go_ret
            exact ⟨_, rfl, by rw [← HE.out]; exact HSr.out, HB1.out.trans (HB.out.mono (by omega))⟩
    · have hput : put1 ns k1 n1 = ns := by unfold put1; rw [if_neg hk]
      have e1 : (decide (k1 = 1) && !inN n1 ns) = false := by
        cases h : (decide (k1 = 1) && !inN n1 ns) with
        | false => rfl
        | true => simp at h; exact absurd h hk
      rw [e1]
      clear e1
      have hS : SRow wc (.slice qo ns.length co) (put1 ns k1 n1) := by rw [hput]; exact HO1.out
      have hBc : Below wc.heap.size wc wc := Below.refl _ _
      have hx := hb_below HX.out hBc (hb_lt HX.out)
      have HX2 := Lib.hid hx
      have HB1 : RowKit.Hid (Below w.heap.size w wc) := Lib.hid (HB0.out.trans (hBc.mono (by omega)))
      have hzc := hBc.size
      have HS := Lib.hid hS
      clear hx hS hBc x0 x2 HX
      go_wp2
      go_loopw [0, 5] (fun v i wr => ∃ k : Nat, k ≤ l1.length ∧ i = .int .i64 k ∧ SRow wr v (varsTo d k l1 (put1 ns k1 n1)) ∧ Below wc.heap.size wc wr) (fun _ i _ => l1.length - (intOf i).toNat)
      case atStart => exact ⟨0, Nat.zero_le _, rfl, HS.out, Below.refl _ _⟩
      case round =>
        obtain ⟨k, hk, rfl, hS, hB⟩ := hrel
        have hzr := hB.size
        have HB := Lib.hid hB
        have HSr := Lib.hid hS
        obtain ⟨qv, cv, rfl, _⟩ := hS
        have xk := hb_at (hb_below HX2.out hB (hb_lt HX2.out)) 4 rfl
        by_cases hlt : k < l1.length
        · have hx1 := List.getElem?_eq_getElem hlt
          have hrm := room_at hlt HROOM.out
          have HN := Lib.hid (varsTo_next (d := d) (ns := put1 ns k1 n1) hlt)
          generalize l1[k] = x at *
          obtain ⟨b1, o1, k1', p1', n1', N1', s1', hq1, ha1, ht1⟩ := HR1.out k x hx1
          subst hq1
          obtain ⟨q3, l3, c3, hs3⟩ := ht1.spell
          subst hs3
          have hBR : Below w.heap.size w wr := HB1.out.trans (hB.mono (by omega))
          obtain ⟨y0, y1, y2, y3, y4⟩ := ha1.below hBR ha1.lt
          have HC := Lib.hid (HIH.out _ _ _ x wr (ht1.below hBR) HSr.out hrm)
          clear hx1 ht1 ha1 hB hBR hrm
          generalize varsTo d k l1 (put1 ns k1 n1) = vs at *
          go_wp2_with (go_at_call 20; ((with_reducible refine HC.out.mono ?_); rintro e w3 ⟨v3, rfl, hs3, hb⟩))
          have HQ := Lib.hid (HB.out.trans (hb.mono hzr))
          have HS3 := Lib.hid hs3
          go_roundw
          case rel => exact ⟨k + 1, by omega, by go_num, by rw [HN.out]; exact HS3.out, HQ.out⟩
          case measure => simp [intOf]; omega
        · obtain rfl : k = l1.length := by omega
          have HE : RowKit.Hid (varsTo d l1.length l1 (put1 ns k1 n1) = varsT (d + 1) ns (.mk k1 p1 n1 N1 l1)) := Lib.hid (by unfold varsTo; rw [List.take_length]; rfl)
          generalize varsTo d l1.length l1 (put1 ns k1 n1) = vs at *
          go_wp2
          go_ret
          exact ⟨_, rfl, by rw [← HE.out]; exact HSr.out, HB1.out.trans (HB.out.mono (by omega))⟩
end Go.Proofs.YthcpmdgdbceeiaaGreatDoor
