/- Texts in a row: Rj Uc Kr. -/
import Derived.Test.YtncebhddcokkoaaDoorZU20
import Derived.Test.YtncebhddcokkoaaDoorZU11
import Derived.Test.YtncebhddcokkoaaDoorZU2
/- An append to an empty slice of one's own that has no room: what was there stays. -/
namespace Go.Proofs.YtncebhddcokkoaaDoor
open Go.RowKit
/-- A slice of texts of one's own. -/
def Inr.MP.vown (base : Nat) (xs : List ByteArray) : Inr.MP := ⟨fun v w => w.ownsRow base 9 1 v xs.length (xs.map .string), fun v w w' h hb => own_kept h fun g x hg hx => by
  rw [hb.block g (hb_lt hx), hx]⟩
def Inr.MP.vrow (xs : List ByteArray) : Inr.MP := ⟨fun v w => SRow w v xs, fun v w w' h hb => h.below hb⟩
/-- An empty slice that was made. -/
def Inr.MP.vmade0 (base : Nat) : Inr.MP := ⟨fun v w => ∃ g, v = .slice (some ⟨g, 0, none⟩) 0 0 ∧ base ≤ g ∧ w.heap[g]? = some (.cells #[] 9 (0, 0)), fun v w w' ⟨g, h1, h2, h3⟩ hb => ⟨g, h1, h2, hb_below h3 hb (hb_lt h3)⟩⟩
set_option maxRecDepth 100000 in
theorem append0 (W : World) (base g : Nat) (vx : Value) (l : List ByteArray) (hg : W.heap[g]? = some (.cells #[] 9 (0, 0))) (hbg : base ≤ g) (hr : SRow W vx l) (hn : l.length ≤ 200000) :
    ∃ v' W', (Builtin.append_ #[33, 33] 33 #[.slice (some ⟨g, 0, none⟩) 0 0, vx]).run Tryd.prog W = .ok v' W' ∧ W'.ownsRow base 9 1 v' l.length (l.map .string) ∧ Below W.heap.size W W' := by
  have hgl := hb_lt hg
  obtain ⟨i0, hi, hz0, hz1, hz2⟩ := info_parts info9
  have hown : W.ownsRow base 9 1 (.slice (some ⟨g, 0, none⟩) 0 0) ([] : List ByteArray).length (([] : List ByteArray).map .string) :=
    ⟨rfl, .inr ⟨g, 0, #[], rfl, hbg, hg, Nat.le_refl _, Nat.zero_le _, rfl, rfl⟩⟩
  obtain ⟨v', W', h1, h2, h3, h4⟩ := append_s W base _ vx [] l hown hr (by simpa using hn) (by omega)
  by_cases hl : l = []
  · subst hl
    obtain ⟨q, c, rfl, _⟩ := hr
    have hrun : (Builtin.append_ #[33, 33] 33 #[.slice (some ⟨g, 0, none⟩) 0 0, .slice q ([] : List ByteArray).length c]).run Tryd.prog W = .ok (.slice (some ⟨g, 0, none⟩) 0 0) W := by
      simp [Builtin.append_, run_underlying Tryd.underlying33, sizeOf, typeInfo, hi, Builtin.lenOf, Builtin.firstCells, storeCells, loadCells, loadCellsFrom]
      cases q <;> simp [storeCells, loadCells, loadCellsFrom, Builtin.firstCells]
    exact ⟨_, W, hrun, hown, Below.refl _ _⟩
  · obtain ⟨q, c, rfl, hx⟩ := hr
    cases q with
    | none =>
      obtain ⟨y, hy⟩ := List.exists_mem_of_ne_nil l hl
      obtain ⟨j, hj, e⟩ := List.getElem_of_mem hy
      obtain ⟨b, h, _⟩ := hx j y (by rw [List.getElem?_eq_getElem hj, e])
      cases h
    | some ad =>
      have hcells : ∀ j u, (l.map Value.string)[j]? = some u → W.cell? (ad.add j) = some u := by
        intro j u hu
        rw [List.getElem?_map] at hu
        cases hj : l[j]? with
        | none => rw [hj] at hu; cases hu
        | some s =>
          rw [hj] at hu
          cases hu
          obtain ⟨g2, e, h2⟩ := hx j s hj
          cases e
          rw [add_zero_none]
          exact h2
      have hpos : 0 < l.length := List.length_pos_iff.2 hl
      have hrun := run_append_grow (P := Tryd.prog) W 33 33 9 i0 _ Tryd.underlying33 hi hz0 ⟨g, 0, none⟩ 0 0 [] (by simp) (fun j v h => by simp at h) ad l.length c (l.map .string) (by simp [hz1]) hcells (by omega) (by omega) (growslice_fits (by omega) (by rw [hz2]; omega))
      rw [hrun] at h1
      cases h1
      refine ⟨_, _, hrun, by simpa using h2, ((Below.refl _ W).drew).alloc (Nat.le_refl _) _⟩
end Go.Proofs.YtncebhddcokkoaaDoor
/- The document's Vars. -/
namespace Go.Proofs.YtncebhddcokkoaaDoor
open Go.RowKit
theorem oper_append {w w' : World} {o : Oper} {a : Act} {K : Act → World → Prop} {Q : Exit → Act → World → Prop} (s x : Operand)
    (ho : o.op = .call { callee := .builtin .append, args := #[s, x], argTypes := #[33, 33] }) (hty : o.type = 33) {v vx v' : Value} (hs : a.eval s = v) (hx : a.eval x = vx)
    (hrun : (Builtin.append_ #[33, 33] 33 #[v, vx]).run Tryd.prog w = .ok v' w') (h : K (a.put o.dst v') w') : Oper.wp Tryd.prog o a w K Q := by
  unfold Oper.wp execOp
  simp only [ho, hty, resolve, invoke, builtin, Sem.run_bind, Sem.run_pure, Result.andThen_ok, List.map_toArray, List.map_cons, List.map_nil, hs, hx, hrun]
  exact h
theorem wpList_append {w w' : World} {ops : Array Oper} {rest : List Oper} {o : Oper} {a : Act} {Q : Exit → Act → World → Prop} (hg : o.guard = none) (s x : Operand)
    (ho : o.op = .call { callee := .builtin .append, args := #[s, x], argTypes := #[33, 33] }) (hty : o.type = 33) {v vx v' : Value} (hs : a.eval s = v) (hx : a.eval x = vx)
    (hrun : (Builtin.append_ #[33, 33] 33 #[v, vx]).run Tryd.prog w = .ok v' w') (h : wpList Tryd.prog ops Q rest (a.put o.dst v') w') : wpList Tryd.prog ops Q (o :: rest) a w := by
  have hw : Region.wanted o (yielded ops a.tmps) = true := by simp [Region.wanted, hg]
  unfold wpList
  rw [if_pos hw]
  exact .inl (oper_append s x ho hty hs hx hrun h)
def VarsQ (d : Nat) (t : Tm) (ns : List ByteArray) (w : World) (e : Ending) (w' : World) : Prop := ∃ v', e = .returned v' ∧ SRow w' v' (varsT d ns t) ∧ Below w.heap.size w w'
set_option maxRecDepth 100000 in
set_option maxHeartbeats 4000000 in
theorem rvars_any (d : Nat) : ∀ (vo va : Value) (ns : List ByteArray) (ta : Tm) (w : World), IsT w d va ta → SRow w vo ns → ns.length + tszN d ta ≤ 100000 → Calls Tryd.prog 35 #[vo, va] w (VarsQ d ta ns w) := by
  induction d with
  | zero => intro vo va ns ta w h; cases h
  | succ d ih =>
    intro vo va ns ta w ha ho hroom
    obtain ⟨d1, k1, p1, n1, N1, s1, l1, e1, rfl, rfl, hp1, hn1, hk1⟩ := ha.open
    obtain rfl : d = d1 := by omega
    obtain ⟨q1, c1, hs1, hm1, hr1⟩ := hk1
    subst hs1
    have HR1 := Lib.hid hr1
    have HO := Lib.hid ho
    obtain ⟨qo, co, rfl, _⟩ := ho
    have hroom2 : ns.length + l1.foldl (fun n t => n + tszN d t) 1 ≤ 100000 := hroom
    have hf := foldl_add (tszN d) l1 1
    have hroom3 : (put1 ns k1 n1).length + l1.foldl (fun n t => n + tszN d t) 0 ≤ 100000 := by
      have := put1_length ns k1 n1
      omega
    have hnl : ns.length ≤ 100000 := by omega
    have HROOM := Lib.hid hroom3
    clear ha e1 hr1 hroom hroom2 hf hroom3
    unfold maxLen at hm1 hp1 hn1
    have HIH := Lib.hid ih
    clear ih
    have HX := Lib.hid (hb_new w (.cells #[.int .i64 k1, .string p1, .string n1, .int .i64 N1, .slice q1 l1.length c1] 36))
    have HB0 : RowKit.Hid (Below w.heap.size w (w.alloc (.cells #[.int .i64 k1, .string p1, .string n1, .int .i64 N1, .slice q1 l1.length c1] 36))) := Lib.hid (below_alloc w _)
    go_enter Tryd.func35, Tryd.ntmps35
    go_upto_region 1 with (fail)
    have hzw : (w.alloc (.cells #[.int .i64 k1, .string p1, .string n1, .int .i64 N1, .slice q1 l1.length c1] 36)).heap.size = w.heap.size + 1 := by simp
    generalize (w.alloc (.cells #[.int .i64 k1, .string p1, .string n1, .int .i64 N1, .slice q1 l1.length c1] 36)) = W1 at *
    have HO1 := Lib.hid (HO.out.below HB0.out)
    have x0 := hb_at HX.out 0 rfl
    have x2 := hb_at HX.out 2 rfl
    go_cut [15] (fun v wx => v = .bool (decide (k1 = 1) && !inN n1 ns) ∧ wx = W1)
    case first =>
      have HIN := Lib.hid (in_any n1 _ ns W1 HO1.out (by omega))
      by_cases hk1 : k1 = 1
      · subst hk1
        have e1 : ((1 : Int) == 1) = true := rfl
        go_wp2_with (go_at_call 36; ((with_reducible refine HIN.out.mono ?_); rintro e w3 ⟨rfl, rfl⟩))
        all_goals
          go_meet
          simp
      · have e1 : (k1 == 1) = false := by simpa using hk1
        go_wp2
        go_meet
        simp [hk1]
    case rest =>
    obtain ⟨rfl, rfl⟩ := hcut
    by_cases hk : k1 = 1 ∧ inN n1 ns = false
    · have hput : put1 ns k1 n1 = ns ++ [n1] := by unfold put1; rw [if_pos hk]
      have e1 : (decide (k1 = 1) && !inN n1 ns) = true := by simp [hk.1, hk.2]
      rw [e1]
      clear e1 hk
      go_upto_region 2 with fail
      refine Inr.region (by kernel_rfl) 6 [some 16, some 17, some 18, some 19, some 20, some 21, some 22, some 0] [[], [], [0, 1], [], [3], [4]] (by kernel_rfl) (by kernel_rfl) (by kernel_rfl) (by kernel_rfl) [Inr.MP.vmade0 wc.heap.size, Inr.MP.is (.slice qo ns.length co), Inr.MP.vown wc.heap.size ns, Inr.MP.is (.pointer (some ⟨w.heap.size, 2, none⟩)), Inr.MP.is (.string n1), Inr.MP.vrow [n1]] [] (by intro x hx; cases hx) ⟨?_, ?_, ?_, ?_, ?_, ?_, trivial⟩ (fun vs wq hbq hv htie => ?_)
      · intro vs w' hb hv K hK
        clear hv
        have hK2 := hK.out
        clear hK
        simp only [Inr.putD, Inr.dst, List.foldl_cons, List.foldl_nil, List.getD_cons_zero, List.getD_cons_succ, Act.put, List.setIfInBounds_toArray, List.set_cons_zero, List.set_cons_succ] at hK2 ⊢
        have hK := Lib.hid hK2
        clear hK2
        simp only [Region.wanted, Inr.yieldedD, Inr.dst, List.getD_cons_zero, List.getD_cons_succ]
        go_simp
        refine hK.out _ _ ⟨_, rfl, hb.size, hb_new _ _⟩ (below_alloc _ _) (Inr.noTies _ _ _ _ _)
      · intro vs w' hb hv K hK
        clear hv
        have hK2 := hK.out
        clear hK
        simp only [Inr.putD, Inr.dst, List.foldl_cons, List.foldl_nil, List.getD_cons_zero, List.getD_cons_succ, Act.put, List.setIfInBounds_toArray, List.set_cons_zero, List.set_cons_succ] at hK2 ⊢
        have hK := Lib.hid hK2
        clear hK2
        simp only [Region.wanted, Inr.yieldedD, Inr.dst, List.getD_cons_zero, List.getD_cons_succ]
        go_simp
        refine hK.out _ _ (Eq.refl _) (Below.refl _ _) (Inr.noTies _ _ _ _ _)
      · intro vs w' hb hv K hK
        have h0 : (Inr.MP.vmade0 wc.heap.size).p (vs 0) w' := hv 0 (by simp)
        have h1 : (Inr.MP.is (.slice qo ns.length co)).p (vs 1) w' := hv 1 (by simp)
        clear hv
        have hK2 := hK.out
        clear hK
        simp only [Inr.putD, Inr.dst, List.foldl_cons, List.foldl_nil, List.getD_cons_zero, List.getD_cons_succ, Act.put, List.setIfInBounds_toArray, List.set_cons_zero, List.set_cons_succ] at hK2 ⊢
        have hK := Lib.hid hK2
        clear hK2
        generalize vs 0 = y0 at *
        generalize vs 1 = y1 at *
        obtain ⟨g, rfl, hg1, hg2⟩ := h0
        have h1 : y1 = _ := h1
        subst h1
        simp only [Region.wanted, if_true]
        obtain ⟨v2, w2, hr2, ho2, hb2⟩ := append0 w' wc.heap.size g _ ns hg2 hg1 (HO1.out.below hb) (by omega)
        refine oper_append (.tmp 16) (.tmp 17) rfl rfl rfl rfl hr2 ?_
        exact hK.out _ _ ho2 hb2 (Inr.noTies _ _ _ _ _)
      · intro vs w' hb hv K hK
        clear hv
        have hK2 := hK.out
        clear hK
        simp only [Inr.putD, Inr.dst, List.foldl_cons, List.foldl_nil, List.getD_cons_zero, List.getD_cons_succ, Act.put, List.setIfInBounds_toArray, List.set_cons_zero, List.set_cons_succ] at hK2 ⊢
        have hK := Lib.hid hK2
        clear hK2
        simp only [Region.wanted, Inr.yieldedD, Inr.dst, List.getD_cons_zero, List.getD_cons_succ]
        go_simp
        refine hK.out _ _ (Eq.refl _) (Below.refl _ _) (Inr.noTies _ _ _ _ _)
      · intro vs w' hb hv K hK
        have h3 : (Inr.MP.is (.pointer (some ⟨w.heap.size, 2, none⟩))).p (vs 3) w' := hv 3 (by simp)
        clear hv
        have hK2 := hK.out
        clear hK
        simp only [Inr.putD, Inr.dst, List.foldl_cons, List.foldl_nil, List.getD_cons_zero, List.getD_cons_succ, Act.put, List.setIfInBounds_toArray, List.set_cons_zero, List.set_cons_succ] at hK2 ⊢
        have hK := Lib.hid hK2
        clear hK2
        generalize vs 3 = y3 at *
        have h3 : y3 = _ := h3
        subst h3
        have x2' := keep_cell hb x2
        simp only [Region.wanted, Inr.yieldedD, Inr.dst, List.getD_cons_zero, List.getD_cons_succ]
        go_simp
        refine hK.out _ _ (Eq.refl _) (Below.refl _ _) (Inr.noTies _ _ _ _ _)
      · intro vs w' hb hv K hK
        have h4 : (Inr.MP.is (.string n1)).p (vs 4) w' := hv 4 (by simp)
        clear hv
        have hK2 := hK.out
        clear hK
        simp only [Inr.putD, Inr.dst, List.foldl_cons, List.foldl_nil, List.getD_cons_zero, List.getD_cons_succ, Act.put, List.setIfInBounds_toArray, List.set_cons_zero, List.set_cons_succ] at hK2 ⊢
        have hK := Lib.hid hK2
        clear hK2
        generalize vs 4 = y4 at *
        have h4 : y4 = _ := h4
        subst h4
        simp only [Region.wanted, Inr.yieldedD, Inr.dst, List.getD_cons_zero, List.getD_cons_succ]
        go_simp
        refine hK.out _ _ (SRow.one (hb_new _ _)) (below_alloc _ _) (Inr.noTies _ _ _ _ _)
      · have h2 : wq.ownsRow wc.heap.size 9 1 (vs 2) ns.length (ns.map .string) := hv 2 (by omega)
        have h5 : SRow wq (vs 5) [n1] := hv 5 (by omega)
        clear hv
        simp only [List.range, List.range.loop, Inr.putD, Inr.dst, List.foldl_cons, List.foldl_nil, List.getD_cons_zero, List.getD_cons_succ, Act.put, List.setIfInBounds_toArray, List.set_cons_zero, List.set_cons_succ]
        simp only [List.drop_succ_cons, List.drop_zero]
        generalize vs 0 = y0
        generalize vs 1 = y1
        generalize vs 2 = y2 at *
        generalize vs 3 = y3
        generalize vs 4 = y4
        generalize vs 5 = y5 at *
        obtain ⟨v', w', hr, ho, hg, _⟩ := append_s wq wc.heap.size y2 y5 ns [n1] h2 h5 (by simp; omega) (by have := hbq.size; exact this)
        refine wpList_append rfl (.tmp 18) (.tmp 21) rfl rfl rfl rfl hr ?_
        have hBc : Below wc.heap.size wc w' := hbq.trans ((Below.refl _ wq).grown hg (by have := hbq.size; exact this) (fun k hk => (h2.lt k hk).1))
        have hS : SRow w' v' (put1 ns k1 n1) := by rw [hput]; exact SRow.own rfl ho
        clear hr ho hg h2 h5 hbq hput
        have hx := hb_below HX.out hBc (hb_lt HX.out)
        have HX2 := Lib.hid hx
        have HB1 : RowKit.Hid (Below w.heap.size w w') := Lib.hid (HB0.out.trans (hBc.mono (by omega)))
        have hzc := hBc.size
        have HS := Lib.hid hS
        clear hx hS hBc x0 x2 HX
        go_wp2
        go_loopw [0, 5] (fun v i wr => ∃ k : Nat, k ≤ l1.length ∧ i = .int .i64 k ∧ SRow wr v (varsTo d k l1 (put1 ns k1 n1)) ∧ Below w'.heap.size w' wr) (fun _ i _ => l1.length - (intOf i).toNat)
        case atStart => exact ⟨0, Nat.zero_le _, rfl, HS.out, Below.refl _ _⟩
        case round =>
          obtain ⟨k, hk, rfl, hS, hB⟩ := hrel
          have hzr := hB.size
          have HB := Lib.hid hB
          have HSr := Lib.hid hS
          obtain ⟨qv, cv, rfl, _⟩ := hS
          have xk := hb_at (hb_below HX2.out hB (hb_lt HX2.out)) 4 rfl
          by_cases hlt : k < l1.length
          · have hx1 := List.getElem?_eq_getElem hlt
            have hrm := room_at hlt HROOM.out
            have HN := Lib.hid (varsTo_next (d := d) (ns := put1 ns k1 n1) hlt)
            generalize l1[k] = x at *
            obtain ⟨b1, o1, k1', p1', n1', N1', s1', hq1, ha1, ht1⟩ := HR1.out k x hx1
            subst hq1
            obtain ⟨q3, l3, c3, hs3⟩ := ht1.spell
            subst hs3
            have hBR : Below w.heap.size w wr := HB1.out.trans (hB.mono (by omega))
            obtain ⟨y0, y1, y2, y3, y4⟩ := ha1.below hBR ha1.lt
            have HC := Lib.hid (HIH.out _ _ _ x wr (ht1.below hBR) HSr.out hrm)
            clear hx1 ht1 ha1 hB hBR hrm
            generalize varsTo d k l1 (put1 ns k1 n1) = vs at *
            go_wp2_with (go_at_call 35; ((with_reducible refine HC.out.mono ?_); rintro e w3 ⟨v3, rfl, hs3, hb⟩))
            have HQ := Lib.hid (HB.out.trans (hb.mono hzr))
            have HS3 := Lib.hid hs3
            go_roundw
            case rel => exact ⟨k + 1, by omega, by go_num, by rw [HN.out]; exact HS3.out, HQ.out⟩
            case measure => simp [intOf]; omega
          · obtain rfl : k = l1.length := by omega
            have HE : RowKit.Hid (varsTo d l1.length l1 (put1 ns k1 n1) = varsT (d + 1) ns (.mk k1 p1 n1 N1 l1)) := Lib.hid (by unfold varsTo; rw [List.take_length]; rfl)
            generalize varsTo d l1.length l1 (put1 ns k1 n1) = vs at *
            go_wp2
            go_ret
            exact ⟨_, rfl, by rw [← HE.out]; exact HSr.out, HB1.out.trans (HB.out.mono (by omega))⟩
    · have hput : put1 ns k1 n1 = ns := by unfold put1; rw [if_neg hk]
      have e1 : (decide (k1 = 1) && !inN n1 ns) = false := by
        cases h : (decide (k1 = 1) && !inN n1 ns) with
        | false => rfl
        | true => simp at h; exact absurd h hk
      rw [e1]
      clear e1
      have hS : SRow wc (.slice qo ns.length co) (put1 ns k1 n1) := by rw [hput]; exact HO1.out
      have hBc : Below wc.heap.size wc wc := Below.refl _ _
      have hx := hb_below HX.out hBc (hb_lt HX.out)
      have HX2 := Lib.hid hx
      have HB1 : RowKit.Hid (Below w.heap.size w wc) := Lib.hid (HB0.out.trans (hBc.mono (by omega)))
      have hzc := hBc.size
      have HS := Lib.hid hS
      clear hx hS hBc x0 x2 HX
      go_wp2
      go_loopw [0, 5] (fun v i wr => ∃ k : Nat, k ≤ l1.length ∧ i = .int .i64 k ∧ SRow wr v (varsTo d k l1 (put1 ns k1 n1)) ∧ Below wc.heap.size wc wr) (fun _ i _ => l1.length - (intOf i).toNat)
      case atStart => exact ⟨0, Nat.zero_le _, rfl, HS.out, Below.refl _ _⟩
      case round =>
        obtain ⟨k, hk, rfl, hS, hB⟩ := hrel
        have hzr := hB.size
        have HB := Lib.hid hB
        have HSr := Lib.hid hS
        obtain ⟨qv, cv, rfl, _⟩ := hS
        have xk := hb_at (hb_below HX2.out hB (hb_lt HX2.out)) 4 rfl
        by_cases hlt : k < l1.length
        · have hx1 := List.getElem?_eq_getElem hlt
          have hrm := room_at hlt HROOM.out
          have HN := Lib.hid (varsTo_next (d := d) (ns := put1 ns k1 n1) hlt)
          generalize l1[k] = x at *
          obtain ⟨b1, o1, k1', p1', n1', N1', s1', hq1, ha1, ht1⟩ := HR1.out k x hx1
          subst hq1
          obtain ⟨q3, l3, c3, hs3⟩ := ht1.spell
          subst hs3
          have hBR : Below w.heap.size w wr := HB1.out.trans (hB.mono (by omega))
          obtain ⟨y0, y1, y2, y3, y4⟩ := ha1.below hBR ha1.lt
          have HC := Lib.hid (HIH.out _ _ _ x wr (ht1.below hBR) HSr.out hrm)
          clear hx1 ht1 ha1 hB hBR hrm
          generalize varsTo d k l1 (put1 ns k1 n1) = vs at *
          go_wp2_with (go_at_call 35; ((with_reducible refine HC.out.mono ?_); rintro e w3 ⟨v3, rfl, hs3, hb⟩))
          have HQ := Lib.hid (HB.out.trans (hb.mono hzr))
          have HS3 := Lib.hid hs3
          go_roundw
          case rel => exact ⟨k + 1, by omega, by go_num, by rw [HN.out]; exact HS3.out, HQ.out⟩
          case measure => simp [intOf]; omega
        · obtain rfl : k = l1.length := by omega
          have HE : RowKit.Hid (varsTo d l1.length l1 (put1 ns k1 n1) = varsT (d + 1) ns (.mk k1 p1 n1 N1 l1)) := Lib.hid (by unfold varsTo; rw [List.take_length]; rfl)
          generalize varsTo d l1.length l1 (put1 ns k1 n1) = vs at *
          go_wp2
          go_ret
          exact ⟨_, rfl, by rw [← HE.out]; exact HSr.out, HB1.out.trans (HB.out.mono (by omega))⟩
end Go.Proofs.YtncebhddcokkoaaDoor
/- How long a list of what is to be made the same can be. -/
namespace Go.Proofs.YtncebhddcokkoaaDoor
set_option linter.unusedSimpArgs false
set_option linter.unusedVariables false
namespace Abs
/-- One is strictly below another one. -/
def SB (A : Abs) (x u : Nat) : Prop := ∃ z a, A.l[A.r x]? = some z ∧ a ∈ z.kids ∧ A.Reach a (A.r u)
theorem SB.ne {A : Abs} (hA : A.Ok) (hF : A.Fin) (hL : A.Like) {x u : Nat} (h : A.SB x u) : A.r x ≠ A.r u := by
  obtain ⟨z, a, hz, ha, hr⟩ := h
  intro e
  have hm := mod_val hA hF hL (fun _ => Tm.mk 0 ⟨#[]⟩ ⟨#[]⟩ 0 [])
  have hxl := (List.getElem?_eq_some_iff.1 hz).1
  have h15 : z.k ≠ 1 ∧ z.k ≠ 5 := by
    constructor
    · intro e; have := hA.leaf _ z hz (.inl e); rw [this] at ha; cases ha
    · intro e; have := hA.leaf _ z hz (.inr e); rw [this] at ha; cases ha
  have hal : a < A.l.length := by have := hA.kid _ z hz a ha; omega
  have e1 := hm.2 _ z hz h15.1 h15.2
  have hmem : A.val (fun _ => Tm.mk 0 ⟨#[]⟩ ⟨#[]⟩ 0 []) a ∈ z.kids.map (A.val (fun _ => Tm.mk 0 ⟨#[]⟩ ⟨#[]⟩ 0 [])) := List.mem_map_of_mem ha
  have hs : Sub (A.val (fun _ => Tm.mk 0 ⟨#[]⟩ ⟨#[]⟩ 0 []) (A.r u)) (A.val (fun _ => Tm.mk 0 ⟨#[]⟩ ⟨#[]⟩ 0 []) (A.r x)) := by
    rw [e1]
    rcases hr.mod hA hm hal with h | h
    · rw [← h]; exact .kid hmem
    · exact .deep hmem h
  rw [e] at hs
  exact hs.irrefl
/-- What is below stays so where a variable is bound. -/
theorem Reach.bnd {A : Abs} {m : Nat → Int} (hA : A.Ok) {a b : Nat} {x : Inf} (ha : A.l[a]? = some x) (hx : x.k = 1) {i z : Nat} (h : A.Reach i z) : (A.bind a b m).Reach i (if z = a then b else z) := by
  induction h with
  | here i => exact .here (A := A.bind a b m) i
  | @kid i y z c h hy h2 ih =>
    have hne : A.r i ≠ a := by
      intro e
      rw [e, ha] at h
      cases h
      have := hA.leaf a x ha (.inl hx)
      rw [this] at hy
      cases hy
    have er : (A.bind a b m).r i = A.r i := if_neg hne
    exact .kid (A := A.bind a b m) (by rw [er]; exact h) hy ih
theorem reach_same {A : Abs} {i j z : Nat} (e : A.r i = A.r j) (h : A.Reach i z) : A.Reach j z := by
  rcases h.split with rfl | ⟨x, y, hx, hy, h2⟩
  · rw [e]; exact .here j
  · exact .kid (by rw [← e]; exact hx) hy h2
/-- And where two types of others that are the same become one. -/
theorem Reach.mrg {A : Abs} {m : Nat → Int} {a b : Nat} {x y : Inf} (ha : A.l[a]? = some x) (hb : A.l[b]? = some y) (hrb : A.r b = b) (hab : a ≠ b) (hlen : x.kids.length = y.kids.length)
    (hkids : ∀ (j u v : Nat), x.kids[j]? = some u → y.kids[j]? = some v → A.r u = A.r v) {i z : Nat} (h : A.Reach i z) : (A.bind a b m).Reach i (if z = a then b else z) := by
  induction h with
  | here i => exact .here (A := A.bind a b m) i
  | @kid i k z c h hy h2 ih =>
    by_cases e : A.r i = a
    · rw [e, ha] at h
      cases h
      have er : (A.bind a b m).r i = b := if_pos e
      obtain ⟨j, hj, rfl⟩ := List.getElem_of_mem hy
      have e1 : x.kids[j]? = some (x.kids[j]) := List.getElem?_eq_getElem hj
      have e2 : y.kids[j]? = some (y.kids[j]'(by omega)) := List.getElem?_eq_getElem (by omega)
      have e3 := hkids j _ _ e1 e2
      refine .kid (A := A.bind a b m) (by rw [er]; exact hb) (List.mem_of_getElem? e2) (reach_same (A := A.bind a b m) (item_bind e3) ih)
    · have er : (A.bind a b m).r i = A.r i := if_neg e
      exact .kid (A := A.bind a b m) (by rw [er]; exact h) hy ih
theorem SB.bnd {A : Abs} {m : Nat → Int} (hA : A.Ok) {a b : Nat} {x : Inf} (ha : A.l[a]? = some x) (hx : x.k = 1) {p q : Nat} (h : A.SB p q) : (A.bind a b m).SB p q := by
  obtain ⟨z, k, hz, hk, hr⟩ := h
  have hne : A.r p ≠ a := by
    intro e
    rw [e, ha] at hz
    cases hz
    have := hA.leaf a x ha (.inl hx)
    rw [this] at hk
    cases hk
  have er : (A.bind a b m).r p = A.r p := if_neg hne
  exact ⟨z, k, by rw [er]; exact hz, hk, hr.bnd hA ha hx⟩
theorem SB.mrg {A : Abs} {m : Nat → Int} {a b : Nat} {x y : Inf} (ha : A.l[a]? = some x) (hb : A.l[b]? = some y) (hrb : A.r b = b) (hab : a ≠ b) (hlen : x.kids.length = y.kids.length)
    (hkids : ∀ (j u v : Nat), x.kids[j]? = some u → y.kids[j]? = some v → A.r u = A.r v) {p q : Nat} (h : A.SB p q) : (A.bind a b m).SB p q := by
  obtain ⟨z, k, hz, hk, hr⟩ := h
  have hr2 := hr.mrg (m := m) ha hb hrb hab hlen hkids
  by_cases e : A.r p = a
  · rw [e, ha] at hz
    cases hz
    have er : (A.bind a b m).r p = b := if_pos e
    obtain ⟨j, hj, rfl⟩ := List.getElem_of_mem hk
    have e1 : x.kids[j]? = some (x.kids[j]) := List.getElem?_eq_getElem hj
    have e2 : y.kids[j]? = some (y.kids[j]'(by omega)) := List.getElem?_eq_getElem (by omega)
    exact ⟨y, _, by rw [er]; exact hb, List.mem_of_getElem? e2, reach_same (A := A.bind a b m) (item_bind (hkids j _ _ e1 e2)) hr2⟩
  · have er : (A.bind a b m).r p = A.r p := if_neg e
    exact ⟨z, k, by rw [er]; exact hz, hk, hr2⟩
/-- How many Kids a type has, and itself. -/
def kl (A : Abs) (x : Nat) : Nat := match A.l[x]? with
  | some z => z.kids.length + 1
  | none => 0
def sg (A : Abs) : List Item → Nat
  | [] => 0
  | .pr _ _ :: l => sg A l
  | .mk x _ :: l => kl A x + sg A l
def marks : List Item → List Nat
  | [] => []
  | .pr _ _ :: l => marks l
  | .mk x _ :: l => x :: marks l
theorem sg_marks (A : Abs) : ∀ l : List Item, sg A l = ((marks l).map A.kl).sum
  | [] => rfl
  | .pr _ _ :: l => sg_marks A l
  | .mk x _ :: l => by simp only [sg, marks, List.map_cons, List.sum_cons, sg_marks A l]
def Item.fst : Item → Nat
  | .pr u _ => u
  | .mk x _ => x
/-- What holds of the list of a run. -/
structure Stk (A : Abs) (l : List Item) : Prop where
  g1 : l.length ≤ 1 + sg A l
  g2 : ∀ pre x y s, l = pre ++ .mk x y :: s → s.length ≤ sg A s
  n1 : ∀ pre x y s, l = pre ++ .mk x y :: s → ∀ it ∈ pre, A.SB x it.fst
theorem Stk.one (A : Abs) (u v : Nat) : Stk A [.pr u v] := by
  refine ⟨by simp [sg], fun pre x y s e => ?_, fun pre x y s e => ?_⟩ <;>
  · cases pre with
    | nil => cases e
    | cons a pre =>
      injection e with _ e
      cases pre <;> cases e
theorem Stk.tail {A B : Abs} {it : Item} {l : List Item} (h : Stk A (it :: l)) (hl : B.l = A.l) (hs : ∀ p q, A.SB p q → B.SB p q) : Stk B l := by
  have hsg : ∀ l, sg B l = sg A l := by
    intro l
    induction l with
    | nil => rfl
    | cons i l ih => cases i <;> simp only [sg, ih, kl, hl]
  have h1 := h.g1
  refine ⟨?_, fun pre x y s e => ?_, fun pre x y s e i hi => ?_⟩
  · rw [hsg]
    cases it with
    | pr u v => rw [List.length_cons] at h1; simp only [sg] at h1; omega
    | mk x y => have := h.g2 [] x y l rfl; omega
  · rw [hsg]; exact h.g2 (it :: pre) x y s (by rw [e]; rfl)
  · exact hs _ _ (h.n1 (it :: pre) x y s (by rw [e]; rfl) i (by simp [hi]))
theorem Stk.kids {A : Abs} (hA : A.Ok) {u v : Nat} {l : List Item} {x y : Inf} (h : Stk A (.pr u v :: l)) (hu : A.l[A.r u]? = some x) (hlen : x.kids.length = y.kids.length) : Stk A ((x.kids.zip y.kids).map (fun z => Item.pr z.1 z.2) ++ .mk (A.r u) (A.r v) :: l) := by
  have h1 := h.g1
  have hkl : A.kl (A.r u) = x.kids.length + 1 := by unfold kl; rw [hu]
  have hsp : ∀ (ks : List (Nat × Nat)) (s : List Item), sg A (ks.map (fun z => Item.pr z.1 z.2) ++ s) = sg A s := by
    intro ks s
    induction ks with
    | nil => rfl
    | cons k ks ih => simp only [List.map_cons, List.cons_append, sg, ih]
  rw [List.length_cons] at h1
  simp only [sg] at h1
  have hmem : ∀ it ∈ (x.kids.zip y.kids).map (fun z => Item.pr z.1 z.2), ∃ a b, it = .pr a b ∧ a ∈ x.kids := by
    intro it hit
    obtain ⟨w, hw, rfl⟩ := List.mem_map.1 hit
    exact ⟨_, _, rfl, (List.of_mem_zip hw).1⟩
  have below : ∀ it ∈ (x.kids.zip y.kids).map (fun z => Item.pr z.1 z.2), A.SB (A.r u) it.fst := by
    intro it hit
    obtain ⟨a, b, rfl, ha⟩ := hmem it hit
    exact ⟨x, a, by rw [hA.idem]; exact hu, ha, .here a⟩
  have trans : ∀ p, A.SB p u → ∀ it, (it = .mk (A.r u) (A.r v) ∨ it ∈ (x.kids.zip y.kids).map (fun z => Item.pr z.1 z.2)) → A.SB p it.fst := by
    rintro p ⟨z, a, hz, ha, hr⟩ it (rfl | hit)
    · exact ⟨z, a, hz, ha, by show A.Reach a (A.r (A.r u)); rw [hA.idem]; exact hr⟩
    · obtain ⟨c, d, rfl, hc⟩ := hmem it hit
      refine ⟨z, a, hz, ha, ?_⟩
      have key : ∀ {i w : Nat}, A.Reach i w → w = A.r u → A.Reach i (A.r c) := by
        intro i w hr
        induction hr with
        | here i => intro e; exact .kid (by rw [e]; exact hu) hc (.here c)
        | kid h hy _ ih => intro e; exact .kid h hy (ih e)
      exact key hr rfl
  have split : ∀ pre a b s, (x.kids.zip y.kids).map (fun z => Item.pr z.1 z.2) ++ .mk (A.r u) (A.r v) :: l = pre ++ .mk a b :: s →
      (pre = (x.kids.zip y.kids).map (fun z => Item.pr z.1 z.2) ∧ a = A.r u ∧ s = l) ∨ ∃ p, pre = (x.kids.zip y.kids).map (fun z => Item.pr z.1 z.2) ++ .mk (A.r u) (A.r v) :: p ∧ l = p ++ .mk a b :: s := by
    intro pre a b s e
    rcases List.append_eq_append_iff.1 e with ⟨t, e1, e2⟩ | ⟨t, e1, e2⟩
    · cases t with
      | nil =>
        rw [List.append_nil] at e1
        injection e2 with e3 e4
        injection e3 with e5 e6
        exact .inl ⟨e1, e5.symm, e4.symm⟩
      | cons i t =>
        injection e2 with e3 e4
        subst e3
        exact .inr ⟨t, e1, e4⟩
    · cases t with
      | nil =>
        rw [List.append_nil] at e1
        injection e2 with e3 e4
        injection e3 with e5 e6
        exact .inl ⟨e1.symm, e5, e4⟩
      | cons i t =>
        injection e2 with e3 e4
        have : Item.mk a b ∈ (x.kids.zip y.kids).map (fun z => Item.pr z.1 z.2) := by rw [e1, ← e3]; simp
        obtain ⟨_, _, h2, _⟩ := hmem _ this
        cases h2
  refine ⟨?_, fun pre a b s e => ?_, fun pre a b s e it hit => ?_⟩
  · rw [hsp, List.length_append, List.length_map, List.length_zip, List.length_cons]
    simp only [sg, hkl]
    omega
  · rcases split pre a b s e with ⟨_, _, rfl⟩ | ⟨p, _, e2⟩
    · omega
    · exact h.g2 (.pr u v :: p) a b s (by rw [e2]; rfl)
  · rcases split pre a b s e with ⟨rfl, rfl, rfl⟩ | ⟨p, rfl, e2⟩
    · exact below it hit
    · have hp := h.n1 (.pr u v :: p) a b s (by rw [e2]; rfl)
      rcases List.mem_append.1 hit with hit | hit
      · exact trans a (hp (.pr u v) (by simp)) it (.inr hit)
      · rcases List.mem_cons.1 hit with rfl | hit
        · exact trans a (hp (.pr u v) (by simp)) _ (.inl rfl)
        · exact hp it (by simp [hit])
theorem nodup_sum {f : Nat → Nat} : ∀ (xs l : List Nat), xs.Nodup → (∀ x ∈ xs, x ∈ l) → (xs.map f).sum ≤ (l.map f).sum
  | [], l, _, _ => by simp
  | x :: xs, l, hn, hs => by
    have hx := hs x (by simp)
    have hp := (List.perm_cons_erase hx).map f
    have h2 := nodup_sum (f := f) xs (l.erase x) (List.nodup_cons.1 hn).2 fun y hy => by
      refine (List.mem_erase_of_ne ?_).2 (hs y (by simp [hy]))
      rintro rfl
      exact (List.nodup_cons.1 hn).1 hy
    have h3 := hp.sum_nat
    rw [h3]
    simp only [List.map_cons, List.sum_cons]
    omega
theorem kl_sum (A : Abs) : ((List.range A.l.length).map A.kl).sum = (A.l.map fun x => x.kids.length + 1).sum := by
  congr 1
  apply List.ext_getElem?
  intro i
  rw [List.getElem?_map, List.getElem?_map]
  by_cases hi : i < A.l.length
  · rw [List.getElem?_range hi, List.getElem?_eq_getElem hi]
    simp only [Option.map_some, kl, List.getElem?_eq_getElem hi]
  · rw [List.getElem?_eq_none (by simpa using hi), List.getElem?_eq_none (by omega)]
    rfl
theorem Stk.nodup {A : Abs} (hA : A.Ok) (hF : A.Fin) (hL : A.Like) : ∀ {l : List Item}, (∀ pre x y s, l = pre ++ .mk x y :: s → ∀ it ∈ pre, A.SB x it.fst) → (marks l).Nodup
  | [], _ => List.nodup_nil
  | .pr u v :: l, h => Stk.nodup hA hF hL (l := l) fun pre x y s e it hit => h (.pr u v :: pre) x y s (by rw [e]; rfl) it (by simp [hit])
  | .mk x y :: l, h => by
    refine List.nodup_cons.2 ⟨fun hx => ?_, Stk.nodup hA hF hL (l := l) fun pre x' y' s e it hit => h (.mk x y :: pre) x' y' s (by rw [e]; rfl) it (by simp [hit])⟩
    have : ∀ l : List Item, x ∈ marks l → ∃ pre y' s, l = pre ++ .mk x y' :: s := by
      intro l
      induction l with
      | nil => intro h; cases h
      | cons i l ih =>
        intro h
        cases i with
        | pr u v =>
          obtain ⟨pre, y', s, e⟩ := ih h
          exact ⟨.pr u v :: pre, y', s, by rw [e]; rfl⟩
        | mk a b =>
          rcases List.mem_cons.1 h with rfl | h
          · exact ⟨[], b, l, rfl⟩
          · obtain ⟨pre, y', s, e⟩ := ih h
            exact ⟨.mk a b :: pre, y', s, by rw [e]; rfl⟩
    obtain ⟨pre, y', s, e⟩ := this l hx
    have h2 := h (.mk x y :: pre) x y' s (by rw [e]; rfl) (.mk x y) (by simp)
    exact h2.ne hA hF hL rfl
/-- How long it is. -/
theorem Stk.len {A : Abs} (hA : A.Ok) (hF : A.Fin) (hL : A.Like) {l : List Item} (h : Stk A l) (hm : ∀ x ∈ marks l, x < A.l.length) : l.length ≤ 1 + (A.l.map fun x => x.kids.length + 1).sum := by
  have h1 := h.g1
  have h2 := nodup_sum (f := A.kl) (marks l) (List.range A.l.length) (Stk.nodup hA hF hL h.n1) fun x hx => List.mem_range.2 (hm x hx)
  rw [sg_marks] at h1
  rw [kl_sum] at h2
  omega
end Abs
end Go.Proofs.YtncebhddcokkoaaDoor
