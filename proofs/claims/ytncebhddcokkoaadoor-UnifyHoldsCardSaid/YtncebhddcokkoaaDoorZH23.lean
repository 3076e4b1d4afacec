/- Texts in a row: Vb Zn Pm. -/
import Derived.Test.YtncebhddcokkoaaDoorZH22
import Derived.Outline
import Derived.Test.YtncebhddcokkoaaDoorZH19
import Derived.Test.YtncebhddcokkoaaDoorZH20
import Derived.Test.YtncebhddcokkoaaDoorZH21
import Derived.Laws.MakeOwn
/- The document's Subst: types put in the place of variables, whole. -/
namespace Go.Proofs.YtncebhddcokkoaaDoor
open Go.RowKit
set_option linter.unusedSimpArgs false
set_option linter.unusedVariables false
def Inr.MP.inX (X : Nat → Prop) (d : Nat) (t : Tm) : Inr.MP := ⟨fun v w => IsX X w d v t, fun v w w' h hb => h.below hb⟩
/-- A slice of one term that was made. -/
def Inr.MP.oneX (X : Nat → Prop) (d : Nat) (t : Tm) : Inr.MP := ⟨fun v w => ∃ g k p n N q l c, v = .slice (some ⟨g, 0, none⟩) 1 1 ∧ w.heap[g]? = some (.cells #[.int .i64 k, .string p, .string n, .int .i64 N, .slice q l c] 36 (0, 0)) ∧ IsX X w d (tv k p n N (.slice q l c)) t,
  fun v w w' ⟨g, k, p, n, N, q, l, c, h1, h2, h3⟩ hb => ⟨g, k, p, n, N, q, l, c, h1, hb_below h2 hb (hb_lt h2), h3.below hb⟩⟩
/-- A slice of terms whose own lists lie in given blocks. -/
def KidsE (X : Nat → Prop) (w : World) (d : Nat) (s : Value) (kids : List Tm) : Prop := ∃ q c, s = .slice q kids.length c ∧ kids.length ≤ maxLen ∧
  ∀ i x, kids[i]? = some x → ∃ b o k' p' n' N' s', q = some ⟨b, o, none⟩ ∧ True ∧ TAt w b (o + i * 5) k' p' n' N' s' ∧ IsX X w d (tv k' p' n' N' s') x
theorem KidsE.below {X : Nat → Prop} {w w' : World} {d : Nat} {s : Value} {kids : List Tm} (h : KidsE X w d s kids) (hb : Below w.heap.size w w') : KidsE X w' d s kids := by
  obtain ⟨q, c, h1, h4, h5⟩ := h
  refine ⟨q, c, h1, h4, fun i y hy => ?_⟩
  obtain ⟨b, o, k', p', n', N', s', e, hX, ha, ht⟩ := h5 i y hy
  exact ⟨b, o, k', p', n', N', s', e, hX, ha.below hb ha.lt, ht.below hb⟩
def RSubA (B0 d2 : Nat) (x : Tm) (w : World) (en : Ending) (w' : World) : Prop := ∃ v', en = .returned v' ∧ IsX (fun b => b < B0 ∨ w.heap.size ≤ b) w' d2 v' x ∧ Below w.heap.size w w'
/-- The first of the names that is so, if any of the first is. -/
theorem fg_none_iff {names : List ByteArray} {k : Nat} {s : ByteArray} (h : ∀ x ∈ names.take k, x ≠ s) : fg names k s = none := by
  induction k with
  | zero => rfl
  | succ k ih =>
    show (match fg names k s with | some i => some i | none => if names[k]? = some s then some (k : Int) else none) = none
    have h1 : fg names k s = none := ih fun x hx => h x (by
      rw [List.mem_take_iff_getElem] at hx ⊢
      obtain ⟨i, hi, e⟩ := hx
      exact ⟨i, by omega, e⟩)
    rw [h1]
    simp only
    rw [if_neg]
    intro e
    obtain ⟨hk, e2⟩ := List.getElem?_eq_some_iff.1 e
    exact h s (by rw [List.mem_take_iff_getElem]; exact ⟨k, by omega, e2⟩) rfl
theorem fg_more {names : List ByteArray} {k : Nat} {s : ByteArray} {i : Int} (h : fg names k s = some i) : ∀ m, k ≤ m → fg names m s = some i := by
  intro m
  induction m with
  | zero =>
    intro hk
    have e : k = 0 := by omega
    rw [← e]; exact h
  | succ m ih =>
    intro hk
    by_cases e : k = m + 1
    · rw [← e]; exact h
    · show (match fg names m s with | some i => some i | none => if names[m]? = some s then some (m : Int) else none) = _
      rw [ih (by omega)]
theorem fg_at {names : List ByteArray} {k : Nat} {s : ByteArray} (h : ∀ x ∈ names.take k, x ≠ s) (hk : names[k]? = some s) : ∀ m, k < m → fg names m s = some (k : Int) := by
  intro m hm
  refine fg_more (k := k + 1) ?_ m hm
  show (match fg names k s with | some i => some i | none => if names[k]? = some s then some (k : Int) else none) = _
  rw [fg_none_iff h]
  simp only
  rw [if_pos hk]
set_option maxRecDepth 100000 in
set_option maxHeartbeats 4000000 in
theorem rsubst_any (names : List ByteArray) (vn : Value) (bys : List Tm) (vb : Value) (e : Nat) (hnl : names.length ≤ 1000) : ∀ (d : Nat) (t : Tm) (v : Value) (w : World) (B0 : Nat), B0 ≤ w.heap.size → IsT w d v t → SRowO w vn names → KidsE (fun b => b < B0) w e vb bys → Sm d t →
    Calls Tryd.prog 18 #[v, vn, vb] w (RSubA B0 (e + d) (sub (byOf (fg names names.length) bys) d t) w) := by
  intro d
  induction d with
  | zero => intro t v w B0 _ h; cases h
  | succ d ih =>
    intro t v w B0 hB0 ha hn hb hs
    obtain ⟨d1, k1, p1, n1, N1, s1, l1, e1, rfl, rfl, hp1, hn1, hk1⟩ := ha.open
    obtain rfl : d = d1 := by omega
    obtain ⟨q1, c1, hs1, hm1, hr1⟩ := hk1
    subst hs1
    have HN := Lib.hid hn
    have HKB := Lib.hid hb
    obtain ⟨qn, cn, rfl, hnc⟩ := hn
    obtain ⟨qb, cb, rfl, hbm, hbr⟩ := hb
    have HR1 := Lib.hid hr1
    have HNC := Lib.hid hnc
    have HBR := Lib.hid hbr
    have HSM := Lib.hid hs
    have HIH := Lib.hid ih
    have HP1 := Lib.hid hp1
    have HN1 := Lib.hid hn1
    have HM1 := Lib.hid hm1
    clear ha e1 hr1 hnc hbr hs ih hp1 hn1
    unfold maxLen at hm1 hbm
    have hB : Below w.heap.size w ((w.alloc (.cells #[.int .i64 k1, .string p1, .string n1, .int .i64 N1, .slice q1 l1.length c1] 36)).alloc (.cells #[.int .i64 0, .string ⟨#[]⟩, .string ⟨#[]⟩, .int .i64 0, .slice none 0 0] 36)) := below2 w _ _
    have b1 := hb_alloc (hb_new w (.cells #[.int .i64 k1, .string p1, .string n1, .int .i64 N1, .slice q1 l1.length c1] 36)) (.cells #[.int .i64 0, .string ⟨#[]⟩, .string ⟨#[]⟩, .int .i64 0, .slice none 0 0] 36)
    have b2 := hb_new (w.alloc (.cells #[.int .i64 k1, .string p1, .string n1, .int .i64 N1, .slice q1 l1.length c1] 36)) (.cells #[.int .i64 0, .string ⟨#[]⟩, .string ⟨#[]⟩, .int .i64 0, .slice none 0 0] 36)
    simp only [World.size_alloc] at b2
    have HB := Lib.hid hB
    have K1 := Lib.hid b1
    have K2 := Lib.hid b2
    clear hB b1 b2
    go_enter Tryd.func18, Tryd.ntmps18
    go_upto_region 1 with fail
    have hzw : ((w.alloc (.cells #[.int .i64 k1, .string p1, .string n1, .int .i64 N1, .slice q1 l1.length c1] 36)).alloc (.cells #[.int .i64 0, .string ⟨#[]⟩, .string ⟨#[]⟩, .int .i64 0, .slice none 0 0] 36)).heap.size = w.heap.size + 2 := by simp
    generalize ((w.alloc (.cells #[.int .i64 k1, .string p1, .string n1, .int .i64 N1, .slice q1 l1.length c1] 36)).alloc (.cells #[.int .i64 0, .string ⟨#[]⟩, .string ⟨#[]⟩, .int .i64 0, .slice none 0 0] 36)) = W0 at *
    go_wp2
    go_loopw [7] (fun i wr => ∃ j : Nat, j ≤ names.length ∧ i = .int .i64 j ∧ Below W0.heap.size W0 wr ∧ (k1 = 1 → ∀ x ∈ names.take j, x ≠ n1)) (fun i _ => names.length - (intOf i).toNat)
    case atStart => exact ⟨0, Nat.zero_le _, rfl, Below.refl _ _, fun _ x hx => by simp at hx⟩
    case round =>
      obtain ⟨j, hj, rfl, hbl, hno⟩ := hrel
      have HBL := Lib.hid hbl
      have HNO := Lib.hid hno
      clear hno
      have J1 := Lib.hid (hb_below K1.out hbl (hb_lt K1.out))
      have J2 := Lib.hid (hb_below K2.out hbl (hb_lt K2.out))
      have x0 := hb_at J1.out 0 rfl
      clear hbl
      by_cases hlt : j < names.length
      · have hlt2 : (j : Int) < (names.length : Int) := by omega
        by_cases hk : k1 = 1
        · have HK := Lib.hid hk
          clear hk
          have ek : (k1 == 1) = true := by rw [HK.out]; rfl
          have hse := List.getElem?_eq_getElem hlt
          have HSE := Lib.hid hse
          have HT : RowKit.Hid (names.take (j + 1) = names.take j ++ [names[j]]) := Lib.hid (List.take_succ_eq_append_getElem hlt)
          obtain ⟨g1, og, rfl, hc1⟩ := HNC.out j names[j] hse
          have HC1 := Lib.hid hc1
          clear hse hc1
          generalize names[j] = x at *
          go_upto_region 4 with fail
          refine Inr.region (by kernel_rfl) 6 [some 21, some 22, some 23, some 24, some 25, some 26, some 27] [[], [], [0, 1], [2], [], [4]] (by kernel_rfl) (by kernel_rfl) (by kernel_rfl) (by kernel_rfl) [Inr.MP.is (.slice (some ⟨g1, og, none⟩) names.length cn), Inr.MP.is (.int .i64 j), Inr.MP.is (.pointer (some ⟨g1, og + j, none⟩)), Inr.MP.is (.string x), Inr.MP.is (.pointer (some ⟨w.heap.size, 2, none⟩)), Inr.MP.is (.string n1)] [] (by intro x hx; cases hx) ⟨?_, ?_, ?_, ?_, ?_, ?_, trivial⟩ (fun vs wq hbq hv htie => ?_)
          · intro vs w' hb hv K hK
            clear hv
            have hK2 := hK.out
            clear hK
            simp only [Inr.putD, Inr.dst, List.foldl_cons, List.foldl_nil, List.getD_cons_zero, List.getD_cons_succ, Act.put, List.setIfInBounds_toArray, List.set_cons_zero, List.set_cons_succ] at hK2 ⊢
            have hK := Lib.hid hK2
            clear hK2
            simp only [Region.wanted, Inr.yieldedD, Inr.dst, List.getD_cons_zero, List.getD_cons_succ]
            go_simp
            refine hK.out _ _ (Eq.refl _) (Below.refl _ _) (Inr.noTies _ _ _ _ _)
          · intro vs w' hb hv K hK
            clear hv
            have hK2 := hK.out
            clear hK
            simp only [Inr.putD, Inr.dst, List.foldl_cons, List.foldl_nil, List.getD_cons_zero, List.getD_cons_succ, Act.put, List.setIfInBounds_toArray, List.set_cons_zero, List.set_cons_succ] at hK2 ⊢
            have hK := Lib.hid hK2
            clear hK2
            simp only [Region.wanted, Inr.yieldedD, Inr.dst, List.getD_cons_zero, List.getD_cons_succ]
            go_simp
            refine hK.out _ _ (Eq.refl _) (Below.refl _ _) (Inr.noTies _ _ _ _ _)
          · intro vs w' hb hv K hK
            have h0 : (Inr.MP.is (.slice (some ⟨g1, og, none⟩) names.length cn)).p (vs 0) w' := hv 0 (by simp)
            have h1 : (Inr.MP.is (.int .i64 j)).p (vs 1) w' := hv 1 (by simp)
            clear hv
            have hK2 := hK.out
            clear hK
            simp only [Inr.putD, Inr.dst, List.foldl_cons, List.foldl_nil, List.getD_cons_zero, List.getD_cons_succ, Act.put, List.setIfInBounds_toArray, List.set_cons_zero, List.set_cons_succ] at hK2 ⊢
            have hK := Lib.hid hK2
            clear hK2
            generalize vs 0 = y0 at *
            generalize vs 1 = y1 at *
            have h0 : y0 = _ := h0
            subst h0
            have h1 : y1 = _ := h1
            subst h1
            simp only [Region.wanted, Inr.yieldedD, Inr.dst, List.getD_cons_zero, List.getD_cons_succ]
            go_simp
            refine hK.out _ _ (Eq.refl _) (Below.refl _ _) (Inr.noTies _ _ _ _ _)
          · intro vs w' hb hv K hK
            have h2 : (Inr.MP.is (.pointer (some ⟨g1, og + j, none⟩))).p (vs 2) w' := hv 2 (by simp)
            clear hv
            have hK2 := hK.out
            clear hK
            simp only [Inr.putD, Inr.dst, List.foldl_cons, List.foldl_nil, List.getD_cons_zero, List.getD_cons_succ, Act.put, List.setIfInBounds_toArray, List.set_cons_zero, List.set_cons_succ] at hK2 ⊢
            have hK := Lib.hid hK2
            clear hK2
            generalize vs 2 = y2 at *
            have h2 : y2 = _ := h2
            subst h2
            have hcx := keep_cell hb (keep_cell HBL.out (keep_cell HB.out HC1.out))
            simp only [Region.wanted, Inr.yieldedD, Inr.dst, List.getD_cons_zero, List.getD_cons_succ]
            go_simp
            refine hK.out _ _ (Eq.refl _) (Below.refl _ _) (Inr.noTies _ _ _ _ _)
          · intro vs w' hb hv K hK
            clear hv
            have hK2 := hK.out
            clear hK
            simp only [Inr.putD, Inr.dst, List.foldl_cons, List.foldl_nil, List.getD_cons_zero, List.getD_cons_succ, Act.put, List.setIfInBounds_toArray, List.set_cons_zero, List.set_cons_succ] at hK2 ⊢
            have hK := Lib.hid hK2
            clear hK2
            simp only [Region.wanted, Inr.yieldedD, Inr.dst, List.getD_cons_zero, List.getD_cons_succ]
            go_simp
            refine hK.out _ _ (Eq.refl _) (Below.refl _ _) (Inr.noTies _ _ _ _ _)
          · intro vs w' hb hv K hK
            have h4 : (Inr.MP.is (.pointer (some ⟨w.heap.size, 2, none⟩))).p (vs 4) w' := hv 4 (by simp)
            clear hv
            have hK2 := hK.out
            clear hK
            simp only [Inr.putD, Inr.dst, List.foldl_cons, List.foldl_nil, List.getD_cons_zero, List.getD_cons_succ, Act.put, List.setIfInBounds_toArray, List.set_cons_zero, List.set_cons_succ] at hK2 ⊢
            have hK := Lib.hid hK2
            clear hK2
            generalize vs 4 = y4 at *
            have h4 : y4 = _ := h4
            subst h4
            have x2 := hb_at (hb_below J1.out hb (hb_lt J1.out)) 2 rfl
            simp only [Region.wanted, Inr.yieldedD, Inr.dst, List.getD_cons_zero, List.getD_cons_succ]
            go_simp
            refine hK.out _ _ (Eq.refl _) (Below.refl _ _) (Inr.noTies _ _ _ _ _)
          · have h3 : vs 3 = .string x := hv 3 (by omega)
            have h5 : vs 5 = .string n1 := hv 5 (by omega)
            clear hv htie
            simp only [List.range, List.range.loop, Inr.putD, Inr.dst, List.foldl_cons, List.foldl_nil, List.getD_cons_zero, List.getD_cons_succ, Act.put, List.setIfInBounds_toArray, List.set_cons_zero, List.set_cons_succ]
            simp only [List.drop_succ_cons, List.drop_zero]
            generalize vs 0 = yy0 at *
            generalize vs 1 = yy1 at *
            generalize vs 2 = yy2 at *
            generalize vs 3 = yy3 at *
            generalize vs 4 = yy4 at *
            generalize vs 5 = yy5 at *
            subst h3 h5
            have HQ := Lib.hid (HBL.out.trans (hbq.mono HBL.out.size))
            have J2 := Lib.hid (hb_below J2.out hbq (hb_lt J2.out))
            have HQB := Lib.hid hbq
            clear hbq
            by_cases hxn : x = n1
            · have he : (x.toList == n1.toList) = true := by rw [hxn]; simp
              have HXN := Lib.hid hxn
              clear hxn
              by_cases hjb : j < bys.length
              · have hjb2 : (j : Int) < (bys.length : Int) := by omega
                have hby := List.getElem?_eq_getElem hjb
                obtain ⟨bb, ob, k9, p9, n9, N9, s9, rfl, hX9, ta9, it9⟩ := HBR.out j bys[j] hby
                have HBY := Lib.hid hby
                clear hby
                generalize bys[j] = y at *
                obtain ⟨_, _, _, _, q9, l9, c9, hv9⟩ := it9.shape
                cases hv9
                have hBw : Below w.heap.size w wq := HB.out.trans (HQ.out.mono HB.out.size)
                obtain ⟨y0, y1, y2, y3, y4⟩ := ta9.below hBw ta9.lt
                have HIT := Lib.hid it9
                have HBW := Lib.hid hBw
                have f0 := hb_free J2.out 0
                have f1 := hb_free J2.out 1
                have f2 := hb_free J2.out 2
                have f3 := hb_free J2.out 3
                have f4 := hb_free J2.out 4
                have e0 := hb_at J2.out 0 rfl
                have e1 := hb_at J2.out 1 rfl
                have e2 := hb_at J2.out 2 rfl
                have e3 := hb_at J2.out 3 rfl
                have e4 := hb_at J2.out 4 rfl
                clear ta9 it9 hBw
                go_wp2
                obtain ⟨u1, u2, u3⟩ := box_set (base := w.heap.size + 1) (by omega) J2.out (.int .i64 k9) (.string p9) (.string n9) (.int .i64 N9) (.slice q9 l9 c9)
                refine bodyPost_ret (v := tv k9 p9 n9 N9 (.slice q9 l9 c9)) (by simp [results, Tryd.results18, go_sem, hb_at u1 0 rfl, hb_at u1 1 rfl, hb_at u1 2 rfl, hb_at u1 3 rfl, hb_at u1 4 rfl]) rfl ⟨_, rfl, ?_, HBW.out.trans (u3.mono (by omega))⟩
                have hF := HBW.out.trans (u3.mono (by omega))
                have hsub : sub (byOf (fg names names.length) bys) (d + 1) (.mk k1 p1 n1 N1 l1) = y := by
                  rw [show k1 = 1 from HK.out]
                  exact sub_yes (by
                    unfold byOf
                    rw [fg_at (HNO.out HK.out) (by rw [HSE.out, HXN.out]) _ hlt]
                    exact HBY.out)
                rw [hsub]
                exact (HIT.out.move fun b hb _ => ⟨.inl hb, hF.block b (by omega)⟩).more (by omega)
              · have hjb2 : ¬ (j : Int) < (bys.length : Int) := by omega
                have HBN : RowKit.Hid (bys[j]? = none) := Lib.hid (List.getElem?_eq_none (by omega))
                have HSUB : RowKit.Hid ((if k1 = 1 then byOf (fg names names.length) bys n1 else none) = none) := Lib.hid (by
                  rw [if_pos HK.out]
                  unfold byOf
                  rw [fg_at (HNO.out HK.out) (by rw [HSE.out, HXN.out]) _ hlt]
                  exact HBN.out)
                have J1 := Lib.hid (hb_below J1.out HQB.out (hb_lt J1.out))
                have HBX := Lib.hid (HB.out.trans (HQ.out.mono HB.out.size))
                have hwx := HQ.out.size
                have x0 := hb_at J1.out 0 rfl
                have x1 := hb_at J1.out 1 rfl
                have x2 := hb_at J1.out 2 rfl
                have x3 := hb_at J1.out 3 rfl
                have hbn := hb_new wq (.cells #[.int .i64 0, .string ⟨#[]⟩, .string ⟨#[]⟩, .int .i64 0, .slice none 0 0] 36)
                have f0 := hb_free hbn 0
                have f1 := hb_free hbn 1
                have f2 := hb_free hbn 2
                have f3 := hb_free hbn 3
                have f4 := hb_free hbn 4
                have e0 := hb_at hbn 0 rfl
                have e1 := hb_at hbn 1 rfl
                have e2 := hb_at hbn 2 rfl
                have e3 := hb_at hbn 3 rfl
                have e4 := hb_at hbn 4 rfl
                have HBN2 := Lib.hid hbn
                clear hbn
                go_upto_region 8 with fail
                have u1 := hb_new wq (.cells #[.int .i64 k1, .string p1, .string n1, .int .i64 N1, .slice none 0 0] 36)
                have hBg : Below wq.heap.size wq (wq.alloc (.cells #[.int .i64 k1, .string p1, .string n1, .int .i64 N1, .slice none 0 0] 36)) := below_alloc _ _
                generalize (wq.alloc (.cells #[.int .i64 k1, .string p1, .string n1, .int .i64 N1, .slice none 0 0] 36)) = W5 at *
                have K5a := hb_below J1.out hBg (hb_lt J1.out)
                have K5b := hb_below J2.out hBg (hb_lt J2.out)
                have hg5 := hb_lt u1
                have HB5 := Lib.hid (HBX.out.trans (hBg.mono HBX.out.size))
                have hl2 := hb_lt J2.out
                clear x0 x1 x2 x3 f0 f1 f2 f3 f4 e0 e1 e2 e3 e4 HBN2 hBg J1 J2
                generalize wq.heap.size = g at *
                go_wp2
                go_loopw [9] (fun i wr => ∃ j : Nat, j ≤ l1.length ∧ i = .int .i64 j ∧ ∃ sv, wr.heap[g]? = some (.cells #[.int .i64 k1, .string p1, .string n1, .int .i64 N1, sv] 36 (0, 0)) ∧ MadeB B0 (g + 1) wr (e + d) sv ((l1.take j).map (sub (byOf (fg names names.length) bys) d)) ∧ g + 1 ≤ wr.heap.size ∧ Below g W5 wr ∧ wr.heap[w.heap.size]? = some (.cells #[.int .i64 k1, .string p1, .string n1, .int .i64 N1, .slice q1 l1.length c1] 36 (0, 0)) ∧ wr.heap[w.heap.size + 1]? = some (.cells #[.int .i64 0, .string ⟨#[]⟩, .string ⟨#[]⟩, .int .i64 0, .slice none 0 0] 36 (0, 0))) (fun i _ => l1.length - (intOf i).toNat)
                case atStart => exact ⟨0, Nat.zero_le _, rfl, _, u1, MadeB.nil _ _ _ _, hg5, Below.refl _ _, K5a, K5b⟩
                case round =>
                  obtain ⟨j, hj, rfl, sv, hG0, hM, hzg, hBG, hG1, hG2⟩ := hrel
                  have HMD := Lib.hid hM
                  have hlen : ((l1.take j).map (sub (byOf (fg names names.length) bys) d)).length = j := by rw [List.length_map, List.length_take]; omega
                  have HLN := Lib.hid hlen
                  obtain ⟨qs, cs, hsv⟩ := hM.shape
                  rw [hlen] at hsv
                  subst hsv
                  clear hlen
                  have G0 := Lib.hid hG0
                  have G1 := Lib.hid hG1
                  have G2 := Lib.hid hG2
                  have HBG := Lib.hid hBG
                  have HBR2 := Lib.hid (HB5.out.trans (hBG.mono (by omega)))
                  clear u1 K5a K5b hM
                  have y4 := hb_at hG1 4 rfl
                  clear hG0 hG1 hG2 hBG
                  by_cases hlt : j < l1.length
                  · have hlt2 : (j : Int) < (l1.length : Int) := by omega
                    have hx1 := List.getElem?_eq_getElem hlt
                    have HSX := Lib.hid (HSM.out.2 l1[j] (List.getElem_mem hlt))
                    have HL1 := Lib.hid HSM.out.1
                    have HTK : RowKit.Hid (l1.take (j + 1) = l1.take j ++ [l1[j]]) := Lib.hid (List.take_succ_eq_append_getElem hlt)
                    generalize l1[j] = x at *
                    obtain ⟨b1, o1, k3, p3, n3, N3, s3, hq1, ha1, ht1⟩ := HR1.out j x hx1
                    subst hq1
                    obtain ⟨q3, l3, c3, hs3⟩ := ht1.spell
                    subst hs3
                    have TA3 := Lib.hid (ha1.below HBR2.out ha1.lt)
                    have IT3 := Lib.hid (ht1.below HBR2.out)
                    clear hx1 ht1 ha1
                    go_upto_region 11 with fail
                    refine Inr.region (by kernel_rfl) 11 [some 52, some 53, some 54, some 55, some 56, some 57, some 58, some 59, some 60, some 61, some 62, some 63, some 64, none] [[], [0], [], [2], [], [3, 4], [5], [], [], [6, 7, 8], [9]] (by kernel_rfl) (by kernel_rfl) (by kernel_rfl) (by kernel_rfl) [Inr.MP.is (.pointer (some ⟨g, 4, none⟩)), Inr.MP.is (.slice qs j cs), Inr.MP.is (.pointer (some ⟨w.heap.size, 4, none⟩)), Inr.MP.is (.slice (some ⟨b1, o1, none⟩) l1.length c1), Inr.MP.is (.int .i64 j), Inr.MP.is (.pointer (some ⟨b1, o1 + j * 5, none⟩)), Inr.MP.is (tv k3 p3 n3 N3 (.slice q3 l3 c3)), Inr.MP.is (.slice (some ⟨g1, og, none⟩) names.length cn), Inr.MP.is (.slice qb bys.length cb), Inr.MP.inX (fun b => b < B0 ∨ wr.heap.size ≤ b) (e + d) ((sub (byOf (fg names names.length) bys) d) x), Inr.MP.oneX (fun b => b < B0 ∨ wr.heap.size ≤ b) (e + d) ((sub (byOf (fg names names.length) bys) d) x)] [] (by intro x hx; cases hx) ⟨?_, ?_, ?_, ?_, ?_, ?_, ?_, ?_, ?_, ?_, ?_, trivial⟩ (fun vs wq hbq hv htie => ?_)
                    · intro vs w' hb hv K hK
                      clear hv
                      have hK2 := hK.out
                      clear hK
                      simp only [Inr.putD, Inr.dst, List.foldl_cons, List.foldl_nil, List.getD_cons_zero, List.getD_cons_succ, Act.put, List.setIfInBounds_toArray, List.set_cons_zero, List.set_cons_succ] at hK2 ⊢
                      have hK := Lib.hid hK2
                      clear hK2
                      simp only [Region.wanted, Inr.yieldedD, Inr.dst, List.getD_cons_zero, List.getD_cons_succ]
                      go_simp
                      refine hK.out _ _ (Eq.refl _) (Below.refl _ _) (Inr.noTies _ _ _ _ _)
                    · intro vs w' hb hv K hK
                      have h0 : (Inr.MP.is (.pointer (some ⟨g, 4, none⟩))).p (vs 0) w' := hv 0 (by simp)
                      clear hv
                      have hK2 := hK.out
                      clear hK
                      simp only [Inr.putD, Inr.dst, List.foldl_cons, List.foldl_nil, List.getD_cons_zero, List.getD_cons_succ, Act.put, List.setIfInBounds_toArray, List.set_cons_zero, List.set_cons_succ] at hK2 ⊢
                      have hK := Lib.hid hK2
                      clear hK2
                      generalize vs 0 = y0 at *
                      have h0 : y0 = _ := h0
                      subst h0
                      have z4 := hb_at (hb_below G0.out hb (hb_lt G0.out)) 4 rfl
                      simp only [Region.wanted, Inr.yieldedD, Inr.dst, List.getD_cons_zero, List.getD_cons_succ]
                      go_simp
                      refine hK.out _ _ (Eq.refl _) (Below.refl _ _) (Inr.noTies _ _ _ _ _)
                    · intro vs w' hb hv K hK
                      clear hv
                      have hK2 := hK.out
                      clear hK
                      simp only [Inr.putD, Inr.dst, List.foldl_cons, List.foldl_nil, List.getD_cons_zero, List.getD_cons_succ, Act.put, List.setIfInBounds_toArray, List.set_cons_zero, List.set_cons_succ] at hK2 ⊢
                      have hK := Lib.hid hK2
                      clear hK2
                      simp only [Region.wanted, Inr.yieldedD, Inr.dst, List.getD_cons_zero, List.getD_cons_succ]
                      go_simp
                      refine hK.out _ _ (Eq.refl _) (Below.refl _ _) (Inr.noTies _ _ _ _ _)
                    · intro vs w' hb hv K hK
                      have h2 : (Inr.MP.is (.pointer (some ⟨w.heap.size, 4, none⟩))).p (vs 2) w' := hv 2 (by simp)
                      clear hv
                      have hK2 := hK.out
                      clear hK
                      simp only [Inr.putD, Inr.dst, List.foldl_cons, List.foldl_nil, List.getD_cons_zero, List.getD_cons_succ, Act.put, List.setIfInBounds_toArray, List.set_cons_zero, List.set_cons_succ] at hK2 ⊢
                      have hK := Lib.hid hK2
                      clear hK2
                      generalize vs 2 = y2 at *
                      have h2 : y2 = _ := h2
                      subst h2
                      have z4 := hb_at (hb_below G1.out hb (hb_lt G1.out)) 4 rfl
                      simp only [Region.wanted, Inr.yieldedD, Inr.dst, List.getD_cons_zero, List.getD_cons_succ]
                      go_simp
                      refine hK.out _ _ (Eq.refl _) (Below.refl _ _) (Inr.noTies _ _ _ _ _)
                    · intro vs w' hb hv K hK
                      clear hv
                      have hK2 := hK.out
                      clear hK
                      simp only [Inr.putD, Inr.dst, List.foldl_cons, List.foldl_nil, List.getD_cons_zero, List.getD_cons_succ, Act.put, List.setIfInBounds_toArray, List.set_cons_zero, List.set_cons_succ] at hK2 ⊢
                      have hK := Lib.hid hK2
                      clear hK2
                      simp only [Region.wanted, Inr.yieldedD, Inr.dst, List.getD_cons_zero, List.getD_cons_succ]
                      go_simp
                      refine hK.out _ _ (Eq.refl _) (Below.refl _ _) (Inr.noTies _ _ _ _ _)
                    · intro vs w' hb hv K hK
                      have h3 : (Inr.MP.is (.slice (some ⟨b1, o1, none⟩) l1.length c1)).p (vs 3) w' := hv 3 (by simp)
                      have h4 : (Inr.MP.is (.int .i64 j)).p (vs 4) w' := hv 4 (by simp)
                      clear hv
                      have hK2 := hK.out
                      clear hK
                      simp only [Inr.putD, Inr.dst, List.foldl_cons, List.foldl_nil, List.getD_cons_zero, List.getD_cons_succ, Act.put, List.setIfInBounds_toArray, List.set_cons_zero, List.set_cons_succ] at hK2 ⊢
                      have hK := Lib.hid hK2
                      clear hK2
                      generalize vs 3 = y3 at *
                      generalize vs 4 = y4 at *
                      have h3 : y3 = _ := h3
                      subst h3
                      have h4 : y4 = _ := h4
                      subst h4
                      simp only [Region.wanted, Inr.yieldedD, Inr.dst, List.getD_cons_zero, List.getD_cons_succ]
                      go_simp
                      refine hK.out _ _ (Eq.refl _) (Below.refl _ _) (Inr.noTies _ _ _ _ _)
                    · intro vs w' hb hv K hK
                      have h5 : (Inr.MP.is (.pointer (some ⟨b1, o1 + j * 5, none⟩))).p (vs 5) w' := hv 5 (by simp)
                      clear hv
                      have hK2 := hK.out
                      clear hK
                      simp only [Inr.putD, Inr.dst, List.foldl_cons, List.foldl_nil, List.getD_cons_zero, List.getD_cons_succ, Act.put, List.setIfInBounds_toArray, List.set_cons_zero, List.set_cons_succ] at hK2 ⊢
                      have hK := Lib.hid hK2
                      clear hK2
                      generalize vs 5 = y5 at *
                      have h5 : y5 = _ := h5
                      subst h5
                      obtain ⟨z0, z1, z2, z3, z4⟩ := TA3.out.below hb TA3.out.lt
                      simp only [Region.wanted, Inr.yieldedD, Inr.dst, List.getD_cons_zero, List.getD_cons_succ]
                      go_simp
                      refine hK.out _ _ (Eq.refl _) (Below.refl _ _) (Inr.noTies _ _ _ _ _)
                    · intro vs w' hb hv K hK
                      clear hv
                      have hK2 := hK.out
                      clear hK
                      simp only [Inr.putD, Inr.dst, List.foldl_cons, List.foldl_nil, List.getD_cons_zero, List.getD_cons_succ, Act.put, List.setIfInBounds_toArray, List.set_cons_zero, List.set_cons_succ] at hK2 ⊢
                      have hK := Lib.hid hK2
                      clear hK2
                      simp only [Region.wanted, Inr.yieldedD, Inr.dst, List.getD_cons_zero, List.getD_cons_succ]
                      go_simp
                      refine hK.out _ _ (Eq.refl _) (Below.refl _ _) (Inr.noTies _ _ _ _ _)
                    · intro vs w' hb hv K hK
                      clear hv
                      have hK2 := hK.out
                      clear hK
                      simp only [Inr.putD, Inr.dst, List.foldl_cons, List.foldl_nil, List.getD_cons_zero, List.getD_cons_succ, Act.put, List.setIfInBounds_toArray, List.set_cons_zero, List.set_cons_succ] at hK2 ⊢
                      have hK := Lib.hid hK2
                      clear hK2
                      simp only [Region.wanted, Inr.yieldedD, Inr.dst, List.getD_cons_zero, List.getD_cons_succ]
                      go_simp
                      refine hK.out _ _ (Eq.refl _) (Below.refl _ _) (Inr.noTies _ _ _ _ _)
                    · intro vs w' hb hv K hK
                      have h6 : (Inr.MP.is (tv k3 p3 n3 N3 (.slice q3 l3 c3))).p (vs 6) w' := hv 6 (by simp)
                      have h7 : (Inr.MP.is (.slice (some ⟨g1, og, none⟩) names.length cn)).p (vs 7) w' := hv 7 (by simp)
                      have h8 : (Inr.MP.is (.slice qb bys.length cb)).p (vs 8) w' := hv 8 (by simp)
                      clear hv
                      have hK2 := hK.out
                      clear hK
                      simp only [Inr.putD, Inr.dst, List.foldl_cons, List.foldl_nil, List.getD_cons_zero, List.getD_cons_succ, Act.put, List.setIfInBounds_toArray, List.set_cons_zero, List.set_cons_succ] at hK2 ⊢
                      have hK := Lib.hid hK2
                      clear hK2
                      generalize vs 6 = y6 at *
                      generalize vs 7 = y7 at *
                      generalize vs 8 = y8 at *
                      have h6 : y6 = _ := h6
                      subst h6
                      have h7 : y7 = _ := h7
                      subst h7
                      have h8 : y8 = _ := h8
                      subst h8
                      have hBw' : Below w.heap.size w w' := HBR2.out.trans (hb.mono HBR2.out.size)
                      have hC := HIH.out x (tv k3 p3 n3 N3 (.slice q3 l3 c3)) w' B0 (Nat.le_trans hB0 hBw'.size) (IT3.out.below hb) (HN.out.below hBw') (HKB.out.below hBw') HSX.out
                      have HC := Lib.hid hC
                      have HSW := Lib.hid hb.size
                      clear hBw' hC
                      simp only [Region.wanted, Inr.yieldedD, Inr.dst, List.getD_cons_zero, List.getD_cons_succ]
                      go_simp
                      ((with_reducible refine HC.out.mono ?_); rintro e5 w5 ⟨v5, rfl, hx5, hb5⟩)
                      go_wp2_with fail
                      refine hK.out _ _ (hx5.move fun b hb1 _ => ⟨by have := HSW.out; omega, rfl⟩) hb5 (Inr.noTies _ _ _ _ _)
                    · intro vs w' hb hv K hK
                      have h9 : IsX (fun b => b < B0 ∨ wr.heap.size ≤ b) w' (e + d) (vs 9) ((sub (byOf (fg names names.length) bys) d) x) := hv 9 (by simp)
                      clear hv
                      have hK2 := hK.out
                      clear hK
                      simp only [Inr.putD, Inr.dst, List.foldl_cons, List.foldl_nil, List.getD_cons_zero, List.getD_cons_succ, Act.put, List.setIfInBounds_toArray, List.set_cons_zero, List.set_cons_succ] at hK2 ⊢
                      have hK := Lib.hid hK2
                      clear hK2
                      generalize vs 9 = y9 at *
                      obtain ⟨k5, p5, n5, N5, q5, l5, c5, rfl⟩ := h9.shape
                      simp only [Region.wanted, Inr.yieldedD, Inr.dst, List.getD_cons_zero, List.getD_cons_succ]
                      go_simp
                      refine hK.out _ _ ⟨_, _, _, _, _, _, _, _, rfl, hb_new _ _, h9.below (below_alloc _ _)⟩ (below_alloc _ _) (Inr.noTies _ _ _ _ _)
                    · have h1 : vs 1 = .slice qs j cs := hv 1 (by omega)
                      have h10 : (Inr.MP.oneX (fun b => b < B0 ∨ wr.heap.size ≤ b) (e + d) ((sub (byOf (fg names names.length) bys) d) x)).p (vs 10) wq := hv 10 (by omega)
                      clear hv htie
                      simp only [List.range, List.range.loop, Inr.putD, Inr.dst, List.foldl_cons, List.foldl_nil, List.getD_cons_zero, List.getD_cons_succ, Act.put, List.setIfInBounds_toArray, List.set_cons_zero, List.set_cons_succ]
                      simp only [List.drop_succ_cons, List.drop_zero]
                      generalize vs 0 = yy0 at *
                      generalize vs 1 = yy1 at *
                      generalize vs 2 = yy2 at *
                      generalize vs 3 = yy3 at *
                      generalize vs 4 = yy4 at *
                      generalize vs 5 = yy5 at *
                      generalize vs 6 = yy6 at *
                      generalize vs 7 = yy7 at *
                      generalize vs 8 = yy8 at *
                      generalize vs 9 = yy9 at *
                      generalize vs 10 = yy10 at *
                      obtain ⟨g5, k5, p5, n5, N5, q5, l5, c5, rfl, hg5, hx5⟩ := h10
                      subst h1
                      obtain ⟨v', w', hr, hM2, hBw⟩ := HMD.out.append (x := (sub (byOf (fg names names.length) bys) d) x) (by omega) (by omega) hbq hx5 hg5 1 (by rw [HLN.out]; have := HL1.out; omega)
                      refine wpList_append_at rfl (.tmp 53) (.tmp 62) rfl rfl rfl rfl hr ?_
                      have G0' := hb_below (hb_below G0.out hbq (hb_lt G0.out)) hBw (by omega)
                      have G1' := hb_below (hb_below G1.out hbq (hb_lt G1.out)) hBw (by omega)
                      have G2' := hb_below (hb_below G2.out hbq (hb_lt G2.out)) hBw (by omega)
                      have HM2 := Lib.hid hM2
                      obtain ⟨qv, cv, hsv⟩ := hM2.shape
                      rw [List.length_append, HLN.out] at hsv
                      subst hsv
                      have f4 := hb_free G0' 4
                      have e4 := hb_at G0' 4 rfl
                      clear hr hM2 hg5 hx5
                      go_wp2
                      go_roundw
                      case rel =>
                        have G3 := hb_set_same G0' 4 (.slice qv (j + [(sub (byOf (fg names names.length) bys) d) x].length) cv)
                        have hzr' := hbq.size
                        have hzb' := hBw.size
                        refine ⟨j + 1, by omega, by go_num, _, by simpa using G3, ?_, by simpa using (by omega : g + 1 ≤ w'.heap.size), ?_, by rw [hb_set_other G1' _ (by show w.heap.size ≠ g; omega)], by rw [hb_set_other G2' _ (by show w.heap.size + 1 ≠ g; omega)]⟩
                        · have e : (l1.take (j + 1)).map (sub (byOf (fg names names.length) bys) d) = (l1.take j).map (sub (byOf (fg names names.length) bys) d) ++ [(sub (byOf (fg names names.length) bys) d) x] := by rw [HTK.out, List.map_append]; rfl
                          rw [e]
                          exact HM2.out.move fun b hb1 hb2 => Below.heap_setCell _ _ _ b (by show b ≠ g; omega)
                        · have h1 := hbq.mono (B' := g) (by omega)
                          exact ((HBG.out.trans h1).trans (hBw.mono (by omega))).setCell (by show g ≤ g; omega) _
                      case measure => simp [intOf]; omega
                  · obtain rfl : j = l1.length := by omega
                    have x0 := hb_at G0.out 0 rfl
                    have x1 := hb_at G0.out 1 rfl
                    have x2 := hb_at G0.out 2 rfl
                    have x3 := hb_at G0.out 3 rfl
                    have x4 := hb_at G0.out 4 rfl
                    have f0 := hb_free G2.out 0
                    have f1 := hb_free G2.out 1
                    have f2 := hb_free G2.out 2
                    have f3 := hb_free G2.out 3
                    have f4 := hb_free G2.out 4
                    have e0 := hb_at G2.out 0 rfl
                    have e1 := hb_at G2.out 1 rfl
                    have e2 := hb_at G2.out 2 rfl
                    have e3 := hb_at G2.out 3 rfl
                    have e4 := hb_at G2.out 4 rfl
                    go_wp2
                    obtain ⟨u1, u2, u3⟩ := box_set (base := w.heap.size + 1) (Nat.le_refl _) G2.out (.int .i64 k1) (.string p1) (.string n1) (.int .i64 N1) (.slice qs l1.length cs)
                    generalize (((((wr.setCell ⟨w.heap.size + 1, 0, none⟩ (.int .i64 k1)).setCell ⟨w.heap.size + 1, 1, none⟩ (.string p1)).setCell ⟨w.heap.size + 1, 2, none⟩ (.string n1)).setCell ⟨w.heap.size + 1, 3, none⟩ (.int .i64 N1)).setCell ⟨w.heap.size + 1, 4, none⟩ (.slice qs l1.length cs)) = W9 at *
                    refine bodyPost_ret (v := tv k1 p1 n1 N1 (.slice qs l1.length cs)) (by simp [results, Tryd.results18, go_sem, hb_at u1 0 rfl, hb_at u1 1 rfl, hb_at u1 2 rfl, hb_at u1 3 rfl, hb_at u1 4 rfl]) rfl ⟨_, rfl, ?_, HBR2.out.trans (u3.mono (by omega))⟩
                    rw [sub_no HSUB.out]
                    have hM := HMD.out
                    rw [List.take_length] at hM
                    have hKX := (hM.all (by rw [List.length_map]; exact HM1.out) (fun b hb => u2 b (by omega))).mono (Y := fun b => b < B0 ∨ w.heap.size ≤ b) (fun b hb => by omega)
                    have hle : (l1.map (sub (byOf (fg names names.length) bys) d)).length = l1.length := List.length_map ..
                    rw [← hle] at hKX ⊢
                    exact IsX.mk HP1.out HN1.out hKX
            · have he : (x.toList == n1.toList) = false := by
                rw [beq_eq_false_iff_ne]
                intro h
                exact hxn (toList_inj h)
              have HXN := Lib.hid hxn
              clear hxn
              go_wp2
              go_roundw
              case rel => exact ⟨j + 1, by omega, by go_num, HQ.out, fun hk y hy => by
                rw [HT.out] at hy
                rcases List.mem_append.1 hy with h | h
                · exact HNO.out hk y h
                · rw [List.mem_singleton.1 h]; exact HXN.out⟩
              case measure => simp [intOf]; omega
        · have ek : (k1 == 1) = false := by simpa using hk
          have HK := Lib.hid hk
          clear hk
          have HSUB : RowKit.Hid ((if k1 = 1 then byOf (fg names names.length) bys n1 else none) = none) := Lib.hid (if_neg HK.out)
          have HQ := HBL
          have HBX := Lib.hid (HB.out.trans (HQ.out.mono HB.out.size))
          have hwx := HQ.out.size
          have x0 := hb_at J1.out 0 rfl
          have x1 := hb_at J1.out 1 rfl
          have x2 := hb_at J1.out 2 rfl
          have x3 := hb_at J1.out 3 rfl
          have hbn := hb_new wr (.cells #[.int .i64 0, .string ⟨#[]⟩, .string ⟨#[]⟩, .int .i64 0, .slice none 0 0] 36)
          have f0 := hb_free hbn 0
          have f1 := hb_free hbn 1
          have f2 := hb_free hbn 2
          have f3 := hb_free hbn 3
          have f4 := hb_free hbn 4
          have e0 := hb_at hbn 0 rfl
          have e1 := hb_at hbn 1 rfl
          have e2 := hb_at hbn 2 rfl
          have e3 := hb_at hbn 3 rfl
          have e4 := hb_at hbn 4 rfl
          have HBN2 := Lib.hid hbn
          clear hbn
          go_upto_region 8 with fail
          have u1 := hb_new wr (.cells #[.int .i64 k1, .string p1, .string n1, .int .i64 N1, .slice none 0 0] 36)
          have hBg : Below wr.heap.size wr (wr.alloc (.cells #[.int .i64 k1, .string p1, .string n1, .int .i64 N1, .slice none 0 0] 36)) := below_alloc _ _
          generalize (wr.alloc (.cells #[.int .i64 k1, .string p1, .string n1, .int .i64 N1, .slice none 0 0] 36)) = W5 at *
          have K5a := hb_below J1.out hBg (hb_lt J1.out)
          have K5b := hb_below J2.out hBg (hb_lt J2.out)
          have hg5 := hb_lt u1
          have HB5 := Lib.hid (HBX.out.trans (hBg.mono HBX.out.size))
          have hl2 := hb_lt J2.out
          clear x0 x1 x2 x3 f0 f1 f2 f3 f4 e0 e1 e2 e3 e4 HBN2 hBg J1 J2
          generalize wr.heap.size = g at *
          go_wp2
          go_loopw [9] (fun i wr => ∃ j : Nat, j ≤ l1.length ∧ i = .int .i64 j ∧ ∃ sv, wr.heap[g]? = some (.cells #[.int .i64 k1, .string p1, .string n1, .int .i64 N1, sv] 36 (0, 0)) ∧ MadeB B0 (g + 1) wr (e + d) sv ((l1.take j).map (sub (byOf (fg names names.length) bys) d)) ∧ g + 1 ≤ wr.heap.size ∧ Below g W5 wr ∧ wr.heap[w.heap.size]? = some (.cells #[.int .i64 k1, .string p1, .string n1, .int .i64 N1, .slice q1 l1.length c1] 36 (0, 0)) ∧ wr.heap[w.heap.size + 1]? = some (.cells #[.int .i64 0, .string ⟨#[]⟩, .string ⟨#[]⟩, .int .i64 0, .slice none 0 0] 36 (0, 0))) (fun i _ => l1.length - (intOf i).toNat)
          case atStart => exact ⟨0, Nat.zero_le _, rfl, _, u1, MadeB.nil _ _ _ _, hg5, Below.refl _ _, K5a, K5b⟩
          case round =>
            obtain ⟨j, hj, rfl, sv, hG0, hM, hzg, hBG, hG1, hG2⟩ := hrel
            have HMD := Lib.hid hM
            have hlen : ((l1.take j).map (sub (byOf (fg names names.length) bys) d)).length = j := by rw [List.length_map, List.length_take]; omega
            have HLN := Lib.hid hlen
            obtain ⟨qs, cs, hsv⟩ := hM.shape
            rw [hlen] at hsv
            subst hsv
            clear hlen
            have G0 := Lib.hid hG0
            have G1 := Lib.hid hG1
            have G2 := Lib.hid hG2
            have HBG := Lib.hid hBG
            have HBR2 := Lib.hid (HB5.out.trans (hBG.mono (by omega)))
            clear u1 K5a K5b hM
            have y4 := hb_at hG1 4 rfl
            clear hG0 hG1 hG2 hBG
            by_cases hlt : j < l1.length
            · have hlt2 : (j : Int) < (l1.length : Int) := by omega
              have hx1 := List.getElem?_eq_getElem hlt
              have HSX := Lib.hid (HSM.out.2 l1[j] (List.getElem_mem hlt))
              have HL1 := Lib.hid HSM.out.1
              have HTK : RowKit.Hid (l1.take (j + 1) = l1.take j ++ [l1[j]]) := Lib.hid (List.take_succ_eq_append_getElem hlt)
              generalize l1[j] = x at *
              obtain ⟨b1, o1, k3, p3, n3, N3, s3, hq1, ha1, ht1⟩ := HR1.out j x hx1
              subst hq1
              obtain ⟨q3, l3, c3, hs3⟩ := ht1.spell
              subst hs3
              have TA3 := Lib.hid (ha1.below HBR2.out ha1.lt)
              have IT3 := Lib.hid (ht1.below HBR2.out)
              clear hx1 ht1 ha1
              go_upto_region 11 with fail
              refine Inr.region (by kernel_rfl) 11 [some 52, some 53, some 54, some 55, some 56, some 57, some 58, some 59, some 60, some 61, some 62, some 63, some 64, none] [[], [0], [], [2], [], [3, 4], [5], [], [], [6, 7, 8], [9]] (by kernel_rfl) (by kernel_rfl) (by kernel_rfl) (by kernel_rfl) [Inr.MP.is (.pointer (some ⟨g, 4, none⟩)), Inr.MP.is (.slice qs j cs), Inr.MP.is (.pointer (some ⟨w.heap.size, 4, none⟩)), Inr.MP.is (.slice (some ⟨b1, o1, none⟩) l1.length c1), Inr.MP.is (.int .i64 j), Inr.MP.is (.pointer (some ⟨b1, o1 + j * 5, none⟩)), Inr.MP.is (tv k3 p3 n3 N3 (.slice q3 l3 c3)), Inr.MP.is (.slice qn names.length cn), Inr.MP.is (.slice qb bys.length cb), Inr.MP.inX (fun b => b < B0 ∨ wr.heap.size ≤ b) (e + d) ((sub (byOf (fg names names.length) bys) d) x), Inr.MP.oneX (fun b => b < B0 ∨ wr.heap.size ≤ b) (e + d) ((sub (byOf (fg names names.length) bys) d) x)] [] (by intro x hx; cases hx) ⟨?_, ?_, ?_, ?_, ?_, ?_, ?_, ?_, ?_, ?_, ?_, trivial⟩ (fun vs wq hbq hv htie => ?_)
              · intro vs w' hb hv K hK
                clear hv
                have hK2 := hK.out
                clear hK
                simp only [Inr.putD, Inr.dst, List.foldl_cons, List.foldl_nil, List.getD_cons_zero, List.getD_cons_succ, Act.put, List.setIfInBounds_toArray, List.set_cons_zero, List.set_cons_succ] at hK2 ⊢
                have hK := Lib.hid hK2
                clear hK2
                simp only [Region.wanted, Inr.yieldedD, Inr.dst, List.getD_cons_zero, List.getD_cons_succ]
                go_simp
                refine hK.out _ _ (Eq.refl _) (Below.refl _ _) (Inr.noTies _ _ _ _ _)
              · intro vs w' hb hv K hK
                have h0 : (Inr.MP.is (.pointer (some ⟨g, 4, none⟩))).p (vs 0) w' := hv 0 (by simp)
                clear hv
                have hK2 := hK.out
                clear hK
                simp only [Inr.putD, Inr.dst, List.foldl_cons, List.foldl_nil, List.getD_cons_zero, List.getD_cons_succ, Act.put, List.setIfInBounds_toArray, List.set_cons_zero, List.set_cons_succ] at hK2 ⊢
                have hK := Lib.hid hK2
                clear hK2
                generalize vs 0 = y0 at *
                have h0 : y0 = _ := h0
                subst h0
                have z4 := hb_at (hb_below G0.out hb (hb_lt G0.out)) 4 rfl
                simp only [Region.wanted, Inr.yieldedD, Inr.dst, List.getD_cons_zero, List.getD_cons_succ]
                go_simp
                refine hK.out _ _ (Eq.refl _) (Below.refl _ _) (Inr.noTies _ _ _ _ _)
              · intro vs w' hb hv K hK
                clear hv
                have hK2 := hK.out
                clear hK
                simp only [Inr.putD, Inr.dst, List.foldl_cons, List.foldl_nil, List.getD_cons_zero, List.getD_cons_succ, Act.put, List.setIfInBounds_toArray, List.set_cons_zero, List.set_cons_succ] at hK2 ⊢
                have hK := Lib.hid hK2
                clear hK2
                simp only [Region.wanted, Inr.yieldedD, Inr.dst, List.getD_cons_zero, List.getD_cons_succ]
                go_simp
                refine hK.out _ _ (Eq.refl _) (Below.refl _ _) (Inr.noTies _ _ _ _ _)
              · intro vs w' hb hv K hK
                have h2 : (Inr.MP.is (.pointer (some ⟨w.heap.size, 4, none⟩))).p (vs 2) w' := hv 2 (by simp)
                clear hv
                have hK2 := hK.out
                clear hK
                simp only [Inr.putD, Inr.dst, List.foldl_cons, List.foldl_nil, List.getD_cons_zero, List.getD_cons_succ, Act.put, List.setIfInBounds_toArray, List.set_cons_zero, List.set_cons_succ] at hK2 ⊢
                have hK := Lib.hid hK2
                clear hK2
                generalize vs 2 = y2 at *
                have h2 : y2 = _ := h2
                subst h2
                have z4 := hb_at (hb_below G1.out hb (hb_lt G1.out)) 4 rfl
                simp only [Region.wanted, Inr.yieldedD, Inr.dst, List.getD_cons_zero, List.getD_cons_succ]
                go_simp
                refine hK.out _ _ (Eq.refl _) (Below.refl _ _) (Inr.noTies _ _ _ _ _)
              · intro vs w' hb hv K hK
                clear hv
                have hK2 := hK.out
                clear hK
                simp only [Inr.putD, Inr.dst, List.foldl_cons, List.foldl_nil, List.getD_cons_zero, List.getD_cons_succ, Act.put, List.setIfInBounds_toArray, List.set_cons_zero, List.set_cons_succ] at hK2 ⊢
                have hK := Lib.hid hK2
                clear hK2
                simp only [Region.wanted, Inr.yieldedD, Inr.dst, List.getD_cons_zero, List.getD_cons_succ]
                go_simp
                refine hK.out _ _ (Eq.refl _) (Below.refl _ _) (Inr.noTies _ _ _ _ _)
              · intro vs w' hb hv K hK
                have h3 : (Inr.MP.is (.slice (some ⟨b1, o1, none⟩) l1.length c1)).p (vs 3) w' := hv 3 (by simp)
                have h4 : (Inr.MP.is (.int .i64 j)).p (vs 4) w' := hv 4 (by simp)
                clear hv
                have hK2 := hK.out
                clear hK
                simp only [Inr.putD, Inr.dst, List.foldl_cons, List.foldl_nil, List.getD_cons_zero, List.getD_cons_succ, Act.put, List.setIfInBounds_toArray, List.set_cons_zero, List.set_cons_succ] at hK2 ⊢
                have hK := Lib.hid hK2
                clear hK2
                generalize vs 3 = y3 at *
                generalize vs 4 = y4 at *
                have h3 : y3 = _ := h3
                subst h3
                have h4 : y4 = _ := h4
                subst h4
                simp only [Region.wanted, Inr.yieldedD, Inr.dst, List.getD_cons_zero, List.getD_cons_succ]
                go_simp
                refine hK.out _ _ (Eq.refl _) (Below.refl _ _) (Inr.noTies _ _ _ _ _)
              · intro vs w' hb hv K hK
                have h5 : (Inr.MP.is (.pointer (some ⟨b1, o1 + j * 5, none⟩))).p (vs 5) w' := hv 5 (by simp)
                clear hv
                have hK2 := hK.out
                clear hK
                simp only [Inr.putD, Inr.dst, List.foldl_cons, List.foldl_nil, List.getD_cons_zero, List.getD_cons_succ, Act.put, List.setIfInBounds_toArray, List.set_cons_zero, List.set_cons_succ] at hK2 ⊢
                have hK := Lib.hid hK2
                clear hK2
                generalize vs 5 = y5 at *
                have h5 : y5 = _ := h5
                subst h5
                obtain ⟨z0, z1, z2, z3, z4⟩ := TA3.out.below hb TA3.out.lt
                simp only [Region.wanted, Inr.yieldedD, Inr.dst, List.getD_cons_zero, List.getD_cons_succ]
                go_simp
                refine hK.out _ _ (Eq.refl _) (Below.refl _ _) (Inr.noTies _ _ _ _ _)
              · intro vs w' hb hv K hK
                clear hv
                have hK2 := hK.out
                clear hK
                simp only [Inr.putD, Inr.dst, List.foldl_cons, List.foldl_nil, List.getD_cons_zero, List.getD_cons_succ, Act.put, List.setIfInBounds_toArray, List.set_cons_zero, List.set_cons_succ] at hK2 ⊢
                have hK := Lib.hid hK2
                clear hK2
                simp only [Region.wanted, Inr.yieldedD, Inr.dst, List.getD_cons_zero, List.getD_cons_succ]
                go_simp
                refine hK.out _ _ (Eq.refl _) (Below.refl _ _) (Inr.noTies _ _ _ _ _)
              · intro vs w' hb hv K hK
                clear hv
                have hK2 := hK.out
                clear hK
                simp only [Inr.putD, Inr.dst, List.foldl_cons, List.foldl_nil, List.getD_cons_zero, List.getD_cons_succ, Act.put, List.setIfInBounds_toArray, List.set_cons_zero, List.set_cons_succ] at hK2 ⊢
                have hK := Lib.hid hK2
                clear hK2
                simp only [Region.wanted, Inr.yieldedD, Inr.dst, List.getD_cons_zero, List.getD_cons_succ]
                go_simp
                refine hK.out _ _ (Eq.refl _) (Below.refl _ _) (Inr.noTies _ _ _ _ _)
              · intro vs w' hb hv K hK
                have h6 : (Inr.MP.is (tv k3 p3 n3 N3 (.slice q3 l3 c3))).p (vs 6) w' := hv 6 (by simp)
                have h7 : (Inr.MP.is (.slice qn names.length cn)).p (vs 7) w' := hv 7 (by simp)
                have h8 : (Inr.MP.is (.slice qb bys.length cb)).p (vs 8) w' := hv 8 (by simp)
                clear hv
                have hK2 := hK.out
                clear hK
                simp only [Inr.putD, Inr.dst, List.foldl_cons, List.foldl_nil, List.getD_cons_zero, List.getD_cons_succ, Act.put, List.setIfInBounds_toArray, List.set_cons_zero, List.set_cons_succ] at hK2 ⊢
                have hK := Lib.hid hK2
                clear hK2
                generalize vs 6 = y6 at *
                generalize vs 7 = y7 at *
                generalize vs 8 = y8 at *
                have h6 : y6 = _ := h6
                subst h6
                have h7 : y7 = _ := h7
                subst h7
                have h8 : y8 = _ := h8
                subst h8
                have hBw' : Below w.heap.size w w' := HBR2.out.trans (hb.mono HBR2.out.size)
                have hC := HIH.out x (tv k3 p3 n3 N3 (.slice q3 l3 c3)) w' B0 (Nat.le_trans hB0 hBw'.size) (IT3.out.below hb) (HN.out.below hBw') (HKB.out.below hBw') HSX.out
                have HC := Lib.hid hC
                have HSW := Lib.hid hb.size
                clear hBw' hC
                simp only [Region.wanted, Inr.yieldedD, Inr.dst, List.getD_cons_zero, List.getD_cons_succ]
                go_simp
                ((with_reducible refine HC.out.mono ?_); rintro e5 w5 ⟨v5, rfl, hx5, hb5⟩)
                go_wp2_with fail
                refine hK.out _ _ (hx5.move fun b hb1 _ => ⟨by have := HSW.out; omega, rfl⟩) hb5 (Inr.noTies _ _ _ _ _)
              · intro vs w' hb hv K hK
                have h9 : IsX (fun b => b < B0 ∨ wr.heap.size ≤ b) w' (e + d) (vs 9) ((sub (byOf (fg names names.length) bys) d) x) := hv 9 (by simp)
                clear hv
                have hK2 := hK.out
                clear hK
                simp only [Inr.putD, Inr.dst, List.foldl_cons, List.foldl_nil, List.getD_cons_zero, List.getD_cons_succ, Act.put, List.setIfInBounds_toArray, List.set_cons_zero, List.set_cons_succ] at hK2 ⊢
                have hK := Lib.hid hK2
                clear hK2
                generalize vs 9 = y9 at *
                obtain ⟨k5, p5, n5, N5, q5, l5, c5, rfl⟩ := h9.shape
                simp only [Region.wanted, Inr.yieldedD, Inr.dst, List.getD_cons_zero, List.getD_cons_succ]
                go_simp
                refine hK.out _ _ ⟨_, _, _, _, _, _, _, _, rfl, hb_new _ _, h9.below (below_alloc _ _)⟩ (below_alloc _ _) (Inr.noTies _ _ _ _ _)
              · have h1 : vs 1 = .slice qs j cs := hv 1 (by omega)
                have h10 : (Inr.MP.oneX (fun b => b < B0 ∨ wr.heap.size ≤ b) (e + d) ((sub (byOf (fg names names.length) bys) d) x)).p (vs 10) wq := hv 10 (by omega)
                clear hv htie
                simp only [List.range, List.range.loop, Inr.putD, Inr.dst, List.foldl_cons, List.foldl_nil, List.getD_cons_zero, List.getD_cons_succ, Act.put, List.setIfInBounds_toArray, List.set_cons_zero, List.set_cons_succ]
                simp only [List.drop_succ_cons, List.drop_zero]
                generalize vs 0 = yy0 at *
                generalize vs 1 = yy1 at *
                generalize vs 2 = yy2 at *
                generalize vs 3 = yy3 at *
                generalize vs 4 = yy4 at *
                generalize vs 5 = yy5 at *
                generalize vs 6 = yy6 at *
                generalize vs 7 = yy7 at *
                generalize vs 8 = yy8 at *
                generalize vs 9 = yy9 at *
                generalize vs 10 = yy10 at *
                obtain ⟨g5, k5, p5, n5, N5, q5, l5, c5, rfl, hg5, hx5⟩ := h10
                subst h1
                obtain ⟨v', w', hr, hM2, hBw⟩ := HMD.out.append (x := (sub (byOf (fg names names.length) bys) d) x) (by omega) (by omega) hbq hx5 hg5 1 (by rw [HLN.out]; have := HL1.out; omega)
                refine wpList_append_at rfl (.tmp 53) (.tmp 62) rfl rfl rfl rfl hr ?_
                have G0' := hb_below (hb_below G0.out hbq (hb_lt G0.out)) hBw (by omega)
                have G1' := hb_below (hb_below G1.out hbq (hb_lt G1.out)) hBw (by omega)
                have G2' := hb_below (hb_below G2.out hbq (hb_lt G2.out)) hBw (by omega)
                have HM2 := Lib.hid hM2
                obtain ⟨qv, cv, hsv⟩ := hM2.shape
                rw [List.length_append, HLN.out] at hsv
                subst hsv
                have f4 := hb_free G0' 4
                have e4 := hb_at G0' 4 rfl
                clear hr hM2 hg5 hx5
                go_wp2
                go_roundw
                case rel =>
                  have G3 := hb_set_same G0' 4 (.slice qv (j + [(sub (byOf (fg names names.length) bys) d) x].length) cv)
                  have hzr' := hbq.size
                  have hzb' := hBw.size
                  refine ⟨j + 1, by omega, by go_num, _, by simpa using G3, ?_, by simpa using (by omega : g + 1 ≤ w'.heap.size), ?_, by rw [hb_set_other G1' _ (by show w.heap.size ≠ g; omega)], by rw [hb_set_other G2' _ (by show w.heap.size + 1 ≠ g; omega)]⟩
                  · have e : (l1.take (j + 1)).map (sub (byOf (fg names names.length) bys) d) = (l1.take j).map (sub (byOf (fg names names.length) bys) d) ++ [(sub (byOf (fg names names.length) bys) d) x] := by rw [HTK.out, List.map_append]; rfl
                    rw [e]
                    exact HM2.out.move fun b hb1 hb2 => Below.heap_setCell _ _ _ b (by show b ≠ g; omega)
                  · have h1 := hbq.mono (B' := g) (by omega)
                    exact ((HBG.out.trans h1).trans (hBw.mono (by omega))).setCell (by show g ≤ g; omega) _
                case measure => simp [intOf]; omega
            · obtain rfl : j = l1.length := by omega
              have x0 := hb_at G0.out 0 rfl
              have x1 := hb_at G0.out 1 rfl
              have x2 := hb_at G0.out 2 rfl
              have x3 := hb_at G0.out 3 rfl
              have x4 := hb_at G0.out 4 rfl
              have f0 := hb_free G2.out 0
              have f1 := hb_free G2.out 1
              have f2 := hb_free G2.out 2
              have f3 := hb_free G2.out 3
              have f4 := hb_free G2.out 4
              have e0 := hb_at G2.out 0 rfl
              have e1 := hb_at G2.out 1 rfl
              have e2 := hb_at G2.out 2 rfl
              have e3 := hb_at G2.out 3 rfl
              have e4 := hb_at G2.out 4 rfl
              go_wp2
              obtain ⟨u1, u2, u3⟩ := box_set (base := w.heap.size + 1) (Nat.le_refl _) G2.out (.int .i64 k1) (.string p1) (.string n1) (.int .i64 N1) (.slice qs l1.length cs)
              generalize (((((wr.setCell ⟨w.heap.size + 1, 0, none⟩ (.int .i64 k1)).setCell ⟨w.heap.size + 1, 1, none⟩ (.string p1)).setCell ⟨w.heap.size + 1, 2, none⟩ (.string n1)).setCell ⟨w.heap.size + 1, 3, none⟩ (.int .i64 N1)).setCell ⟨w.heap.size + 1, 4, none⟩ (.slice qs l1.length cs)) = W9 at *
              refine bodyPost_ret (v := tv k1 p1 n1 N1 (.slice qs l1.length cs)) (by simp [results, Tryd.results18, go_sem, hb_at u1 0 rfl, hb_at u1 1 rfl, hb_at u1 2 rfl, hb_at u1 3 rfl, hb_at u1 4 rfl]) rfl ⟨_, rfl, ?_, HBR2.out.trans (u3.mono (by omega))⟩
              rw [sub_no HSUB.out]
              have hM := HMD.out
              rw [List.take_length] at hM
              have hKX := (hM.all (by rw [List.length_map]; exact HM1.out) (fun b hb => u2 b (by omega))).mono (Y := fun b => b < B0 ∨ w.heap.size ≤ b) (fun b hb => by omega)
              have hle : (l1.map (sub (byOf (fg names names.length) bys) d)).length = l1.length := List.length_map ..
              rw [← hle] at hKX ⊢
              exact IsX.mk HP1.out HN1.out hKX
      · obtain rfl : j = names.length := by omega
        have HSUB : RowKit.Hid ((if k1 = 1 then byOf (fg names names.length) bys n1 else none) = none) := Lib.hid (by
          by_cases hk : k1 = 1
          · rw [if_pos hk]
            unfold byOf
            have h := HNO.out hk
            rw [List.take_length] at h
            rw [fg_none_iff (k := names.length) (by rw [List.take_length]; exact h)]
            rfl
          · exact if_neg hk)
        have HQ := HBL
        have HBX := Lib.hid (HB.out.trans (HQ.out.mono HB.out.size))
        have hwx := HQ.out.size
        have x0 := hb_at J1.out 0 rfl
        have x1 := hb_at J1.out 1 rfl
        have x2 := hb_at J1.out 2 rfl
        have x3 := hb_at J1.out 3 rfl
        have hbn := hb_new wr (.cells #[.int .i64 0, .string ⟨#[]⟩, .string ⟨#[]⟩, .int .i64 0, .slice none 0 0] 36)
        have f0 := hb_free hbn 0
        have f1 := hb_free hbn 1
        have f2 := hb_free hbn 2
        have f3 := hb_free hbn 3
        have f4 := hb_free hbn 4
        have e0 := hb_at hbn 0 rfl
        have e1 := hb_at hbn 1 rfl
        have e2 := hb_at hbn 2 rfl
        have e3 := hb_at hbn 3 rfl
        have e4 := hb_at hbn 4 rfl
        have HBN2 := Lib.hid hbn
        clear hbn
        go_upto_region 8 with fail
        have u1 := hb_new wr (.cells #[.int .i64 k1, .string p1, .string n1, .int .i64 N1, .slice none 0 0] 36)
        have hBg : Below wr.heap.size wr (wr.alloc (.cells #[.int .i64 k1, .string p1, .string n1, .int .i64 N1, .slice none 0 0] 36)) := below_alloc _ _
        generalize (wr.alloc (.cells #[.int .i64 k1, .string p1, .string n1, .int .i64 N1, .slice none 0 0] 36)) = W5 at *
        have K5a := hb_below J1.out hBg (hb_lt J1.out)
        have K5b := hb_below J2.out hBg (hb_lt J2.out)
        have hg5 := hb_lt u1
        have HB5 := Lib.hid (HBX.out.trans (hBg.mono HBX.out.size))
        have hl2 := hb_lt J2.out
        clear x0 x1 x2 x3 f0 f1 f2 f3 f4 e0 e1 e2 e3 e4 HBN2 hBg J1 J2
        generalize wr.heap.size = g at *
        go_wp2
        go_loopw [9] (fun i wr => ∃ j : Nat, j ≤ l1.length ∧ i = .int .i64 j ∧ ∃ sv, wr.heap[g]? = some (.cells #[.int .i64 k1, .string p1, .string n1, .int .i64 N1, sv] 36 (0, 0)) ∧ MadeB B0 (g + 1) wr (e + d) sv ((l1.take j).map (sub (byOf (fg names names.length) bys) d)) ∧ g + 1 ≤ wr.heap.size ∧ Below g W5 wr ∧ wr.heap[w.heap.size]? = some (.cells #[.int .i64 k1, .string p1, .string n1, .int .i64 N1, .slice q1 l1.length c1] 36 (0, 0)) ∧ wr.heap[w.heap.size + 1]? = some (.cells #[.int .i64 0, .string ⟨#[]⟩, .string ⟨#[]⟩, .int .i64 0, .slice none 0 0] 36 (0, 0))) (fun i _ => l1.length - (intOf i).toNat)
        case atStart => exact ⟨0, Nat.zero_le _, rfl, _, u1, MadeB.nil _ _ _ _, hg5, Below.refl _ _, K5a, K5b⟩
        case round =>
          obtain ⟨j, hj, rfl, sv, hG0, hM, hzg, hBG, hG1, hG2⟩ := hrel
          have HMD := Lib.hid hM
          have hlen : ((l1.take j).map (sub (byOf (fg names names.length) bys) d)).length = j := by rw [List.length_map, List.length_take]; omega
          have HLN := Lib.hid hlen
          obtain ⟨qs, cs, hsv⟩ := hM.shape
          rw [hlen] at hsv
          subst hsv
          clear hlen
          have G0 := Lib.hid hG0
          have G1 := Lib.hid hG1
          have G2 := Lib.hid hG2
          have HBG := Lib.hid hBG
          have HBR2 := Lib.hid (HB5.out.trans (hBG.mono (by omega)))
          clear u1 K5a K5b hM
          have y4 := hb_at hG1 4 rfl
          clear hG0 hG1 hG2 hBG
          by_cases hlt : j < l1.length
          · have hlt2 : (j : Int) < (l1.length : Int) := by omega
            have hx1 := List.getElem?_eq_getElem hlt
            have HSX := Lib.hid (HSM.out.2 l1[j] (List.getElem_mem hlt))
            have HL1 := Lib.hid HSM.out.1
            have HTK : RowKit.Hid (l1.take (j + 1) = l1.take j ++ [l1[j]]) := Lib.hid (List.take_succ_eq_append_getElem hlt)
            generalize l1[j] = x at *
            obtain ⟨b1, o1, k3, p3, n3, N3, s3, hq1, ha1, ht1⟩ := HR1.out j x hx1
            subst hq1
            obtain ⟨q3, l3, c3, hs3⟩ := ht1.spell
            subst hs3
            have TA3 := Lib.hid (ha1.below HBR2.out ha1.lt)
            have IT3 := Lib.hid (ht1.below HBR2.out)
            clear hx1 ht1 ha1
            go_upto_region 11 with fail
            refine Inr.region (by kernel_rfl) 11 [some 52, some 53, some 54, some 55, some 56, some 57, some 58, some 59, some 60, some 61, some 62, some 63, some 64, none] [[], [0], [], [2], [], [3, 4], [5], [], [], [6, 7, 8], [9]] (by kernel_rfl) (by kernel_rfl) (by kernel_rfl) (by kernel_rfl) [Inr.MP.is (.pointer (some ⟨g, 4, none⟩)), Inr.MP.is (.slice qs j cs), Inr.MP.is (.pointer (some ⟨w.heap.size, 4, none⟩)), Inr.MP.is (.slice (some ⟨b1, o1, none⟩) l1.length c1), Inr.MP.is (.int .i64 j), Inr.MP.is (.pointer (some ⟨b1, o1 + j * 5, none⟩)), Inr.MP.is (tv k3 p3 n3 N3 (.slice q3 l3 c3)), Inr.MP.is (.slice qn names.length cn), Inr.MP.is (.slice qb bys.length cb), Inr.MP.inX (fun b => b < B0 ∨ wr.heap.size ≤ b) (e + d) ((sub (byOf (fg names names.length) bys) d) x), Inr.MP.oneX (fun b => b < B0 ∨ wr.heap.size ≤ b) (e + d) ((sub (byOf (fg names names.length) bys) d) x)] [] (by intro x hx; cases hx) ⟨?_, ?_, ?_, ?_, ?_, ?_, ?_, ?_, ?_, ?_, ?_, trivial⟩ (fun vs wq hbq hv htie => ?_)
            · intro vs w' hb hv K hK
              clear hv
              have hK2 := hK.out
              clear hK
              simp only [Inr.putD, Inr.dst, List.foldl_cons, List.foldl_nil, List.getD_cons_zero, List.getD_cons_succ, Act.put, List.setIfInBounds_toArray, List.set_cons_zero, List.set_cons_succ] at hK2 ⊢
              have hK := Lib.hid hK2
              clear hK2
              simp only [Region.wanted, Inr.yieldedD, Inr.dst, List.getD_cons_zero, List.getD_cons_succ]
              go_simp
              refine hK.out _ _ (Eq.refl _) (Below.refl _ _) (Inr.noTies _ _ _ _ _)
            · intro vs w' hb hv K hK
              have h0 : (Inr.MP.is (.pointer (some ⟨g, 4, none⟩))).p (vs 0) w' := hv 0 (by simp)
              clear hv
              have hK2 := hK.out
              clear hK
              simp only [Inr.putD, Inr.dst, List.foldl_cons, List.foldl_nil, List.getD_cons_zero, List.getD_cons_succ, Act.put, List.setIfInBounds_toArray, List.set_cons_zero, List.set_cons_succ] at hK2 ⊢
              have hK := Lib.hid hK2
              clear hK2
              generalize vs 0 = y0 at *
              have h0 : y0 = _ := h0
              subst h0
              have z4 := hb_at (hb_below G0.out hb (hb_lt G0.out)) 4 rfl
              simp only [Region.wanted, Inr.yieldedD, Inr.dst, List.getD_cons_zero, List.getD_cons_succ]
              go_simp
              refine hK.out _ _ (Eq.refl _) (Below.refl _ _) (Inr.noTies _ _ _ _ _)
            · intro vs w' hb hv K hK
              clear hv
              have hK2 := hK.out
              clear hK
              simp only [Inr.putD, Inr.dst, List.foldl_cons, List.foldl_nil, List.getD_cons_zero, List.getD_cons_succ, Act.put, List.setIfInBounds_toArray, List.set_cons_zero, List.set_cons_succ] at hK2 ⊢
              have hK := Lib.hid hK2
              clear hK2
              simp only [Region.wanted, Inr.yieldedD, Inr.dst, List.getD_cons_zero, List.getD_cons_succ]
              go_simp
              refine hK.out _ _ (Eq.refl _) (Below.refl _ _) (Inr.noTies _ _ _ _ _)
            · intro vs w' hb hv K hK
              have h2 : (Inr.MP.is (.pointer (some ⟨w.heap.size, 4, none⟩))).p (vs 2) w' := hv 2 (by simp)
              clear hv
              have hK2 := hK.out
              clear hK
              simp only [Inr.putD, Inr.dst, List.foldl_cons, List.foldl_nil, List.getD_cons_zero, List.getD_cons_succ, Act.put, List.setIfInBounds_toArray, List.set_cons_zero, List.set_cons_succ] at hK2 ⊢
              have hK := Lib.hid hK2
              clear hK2
              generalize vs 2 = y2 at *
              have h2 : y2 = _ := h2
              subst h2
              have z4 := hb_at (hb_below G1.out hb (hb_lt G1.out)) 4 rfl
              simp only [Region.wanted, Inr.yieldedD, Inr.dst, List.getD_cons_zero, List.getD_cons_succ]
              go_simp
              refine hK.out _ _ (Eq.refl _) (Below.refl _ _) (Inr.noTies _ _ _ _ _)
            · intro vs w' hb hv K hK
              clear hv
              have hK2 := hK.out
              clear hK
              simp only [Inr.putD, Inr.dst, List.foldl_cons, List.foldl_nil, List.getD_cons_zero, List.getD_cons_succ, Act.put, List.setIfInBounds_toArray, List.set_cons_zero, List.set_cons_succ] at hK2 ⊢
              have hK := Lib.hid hK2
              clear hK2
              simp only [Region.wanted, Inr.yieldedD, Inr.dst, List.getD_cons_zero, List.getD_cons_succ]
              go_simp
              refine hK.out _ _ (Eq.refl _) (Below.refl _ _) (Inr.noTies _ _ _ _ _)
            · intro vs w' hb hv K hK
              have h3 : (Inr.MP.is (.slice (some ⟨b1, o1, none⟩) l1.length c1)).p (vs 3) w' := hv 3 (by simp)
              have h4 : (Inr.MP.is (.int .i64 j)).p (vs 4) w' := hv 4 (by simp)
              clear hv
              have hK2 := hK.out
              clear hK
              simp only [Inr.putD, Inr.dst, List.foldl_cons, List.foldl_nil, List.getD_cons_zero, List.getD_cons_succ, Act.put, List.setIfInBounds_toArray, List.set_cons_zero, List.set_cons_succ] at hK2 ⊢
              have hK := Lib.hid hK2
              clear hK2
              generalize vs 3 = y3 at *
              generalize vs 4 = y4 at *
              have h3 : y3 = _ := h3
              subst h3
              have h4 : y4 = _ := h4
              subst h4
              simp only [Region.wanted, Inr.yieldedD, Inr.dst, List.getD_cons_zero, List.getD_cons_succ]
              go_simp
              refine hK.out _ _ (Eq.refl _) (Below.refl _ _) (Inr.noTies _ _ _ _ _)
            · intro vs w' hb hv K hK
              have h5 : (Inr.MP.is (.pointer (some ⟨b1, o1 + j * 5, none⟩))).p (vs 5) w' := hv 5 (by simp)
              clear hv
              have hK2 := hK.out
              clear hK
              simp only [Inr.putD, Inr.dst, List.foldl_cons, List.foldl_nil, List.getD_cons_zero, List.getD_cons_succ, Act.put, List.setIfInBounds_toArray, List.set_cons_zero, List.set_cons_succ] at hK2 ⊢
              have hK := Lib.hid hK2
              clear hK2
              generalize vs 5 = y5 at *
              have h5 : y5 = _ := h5
              subst h5
              obtain ⟨z0, z1, z2, z3, z4⟩ := TA3.out.below hb TA3.out.lt
              simp only [Region.wanted, Inr.yieldedD, Inr.dst, List.getD_cons_zero, List.getD_cons_succ]
              go_simp
              refine hK.out _ _ (Eq.refl _) (Below.refl _ _) (Inr.noTies _ _ _ _ _)
            · intro vs w' hb hv K hK
              clear hv
              have hK2 := hK.out
              clear hK
              simp only [Inr.putD, Inr.dst, List.foldl_cons, List.foldl_nil, List.getD_cons_zero, List.getD_cons_succ, Act.put, List.setIfInBounds_toArray, List.set_cons_zero, List.set_cons_succ] at hK2 ⊢
              have hK := Lib.hid hK2
              clear hK2
              simp only [Region.wanted, Inr.yieldedD, Inr.dst, List.getD_cons_zero, List.getD_cons_succ]
              go_simp
              refine hK.out _ _ (Eq.refl _) (Below.refl _ _) (Inr.noTies _ _ _ _ _)
            · intro vs w' hb hv K hK
              clear hv
              have hK2 := hK.out
              clear hK
              simp only [Inr.putD, Inr.dst, List.foldl_cons, List.foldl_nil, List.getD_cons_zero, List.getD_cons_succ, Act.put, List.setIfInBounds_toArray, List.set_cons_zero, List.set_cons_succ] at hK2 ⊢
              have hK := Lib.hid hK2
              clear hK2
              simp only [Region.wanted, Inr.yieldedD, Inr.dst, List.getD_cons_zero, List.getD_cons_succ]
              go_simp
              refine hK.out _ _ (Eq.refl _) (Below.refl _ _) (Inr.noTies _ _ _ _ _)
            · intro vs w' hb hv K hK
              have h6 : (Inr.MP.is (tv k3 p3 n3 N3 (.slice q3 l3 c3))).p (vs 6) w' := hv 6 (by simp)
              have h7 : (Inr.MP.is (.slice qn names.length cn)).p (vs 7) w' := hv 7 (by simp)
              have h8 : (Inr.MP.is (.slice qb bys.length cb)).p (vs 8) w' := hv 8 (by simp)
              clear hv
              have hK2 := hK.out
              clear hK
              simp only [Inr.putD, Inr.dst, List.foldl_cons, List.foldl_nil, List.getD_cons_zero, List.getD_cons_succ, Act.put, List.setIfInBounds_toArray, List.set_cons_zero, List.set_cons_succ] at hK2 ⊢
              have hK := Lib.hid hK2
              clear hK2
              generalize vs 6 = y6 at *
              generalize vs 7 = y7 at *
              generalize vs 8 = y8 at *
              have h6 : y6 = _ := h6
              subst h6
              have h7 : y7 = _ := h7
              subst h7
              have h8 : y8 = _ := h8
              subst h8
              have hBw' : Below w.heap.size w w' := HBR2.out.trans (hb.mono HBR2.out.size)
              have hC := HIH.out x (tv k3 p3 n3 N3 (.slice q3 l3 c3)) w' B0 (Nat.le_trans hB0 hBw'.size) (IT3.out.below hb) (HN.out.below hBw') (HKB.out.below hBw') HSX.out
              have HC := Lib.hid hC
              have HSW := Lib.hid hb.size
              clear hBw' hC
              simp only [Region.wanted, Inr.yieldedD, Inr.dst, List.getD_cons_zero, List.getD_cons_succ]
              go_simp
              ((with_reducible refine HC.out.mono ?_); rintro e5 w5 ⟨v5, rfl, hx5, hb5⟩)
              go_wp2_with fail
              refine hK.out _ _ (hx5.move fun b hb1 _ => ⟨by have := HSW.out; omega, rfl⟩) hb5 (Inr.noTies _ _ _ _ _)
            · intro vs w' hb hv K hK
              have h9 : IsX (fun b => b < B0 ∨ wr.heap.size ≤ b) w' (e + d) (vs 9) ((sub (byOf (fg names names.length) bys) d) x) := hv 9 (by simp)
              clear hv
              have hK2 := hK.out
              clear hK
              simp only [Inr.putD, Inr.dst, List.foldl_cons, List.foldl_nil, List.getD_cons_zero, List.getD_cons_succ, Act.put, List.setIfInBounds_toArray, List.set_cons_zero, List.set_cons_succ] at hK2 ⊢
              have hK := Lib.hid hK2
              clear hK2
              generalize vs 9 = y9 at *
              obtain ⟨k5, p5, n5, N5, q5, l5, c5, rfl⟩ := h9.shape
              simp only [Region.wanted, Inr.yieldedD, Inr.dst, List.getD_cons_zero, List.getD_cons_succ]
              go_simp
              refine hK.out _ _ ⟨_, _, _, _, _, _, _, _, rfl, hb_new _ _, h9.below (below_alloc _ _)⟩ (below_alloc _ _) (Inr.noTies _ _ _ _ _)
            · have h1 : vs 1 = .slice qs j cs := hv 1 (by omega)
              have h10 : (Inr.MP.oneX (fun b => b < B0 ∨ wr.heap.size ≤ b) (e + d) ((sub (byOf (fg names names.length) bys) d) x)).p (vs 10) wq := hv 10 (by omega)
              clear hv htie
              simp only [List.range, List.range.loop, Inr.putD, Inr.dst, List.foldl_cons, List.foldl_nil, List.getD_cons_zero, List.getD_cons_succ, Act.put, List.setIfInBounds_toArray, List.set_cons_zero, List.set_cons_succ]
              simp only [List.drop_succ_cons, List.drop_zero]
              generalize vs 0 = yy0 at *
              generalize vs 1 = yy1 at *
              generalize vs 2 = yy2 at *
              generalize vs 3 = yy3 at *
              generalize vs 4 = yy4 at *
              generalize vs 5 = yy5 at *
              generalize vs 6 = yy6 at *
              generalize vs 7 = yy7 at *
              generalize vs 8 = yy8 at *
              generalize vs 9 = yy9 at *
              generalize vs 10 = yy10 at *
              obtain ⟨g5, k5, p5, n5, N5, q5, l5, c5, rfl, hg5, hx5⟩ := h10
              subst h1
              obtain ⟨v', w', hr, hM2, hBw⟩ := HMD.out.append (x := (sub (byOf (fg names names.length) bys) d) x) (by omega) (by omega) hbq hx5 hg5 1 (by rw [HLN.out]; have := HL1.out; omega)
              refine wpList_append_at rfl (.tmp 53) (.tmp 62) rfl rfl rfl rfl hr ?_
              have G0' := hb_below (hb_below G0.out hbq (hb_lt G0.out)) hBw (by omega)
              have G1' := hb_below (hb_below G1.out hbq (hb_lt G1.out)) hBw (by omega)
              have G2' := hb_below (hb_below G2.out hbq (hb_lt G2.out)) hBw (by omega)
              have HM2 := Lib.hid hM2
              obtain ⟨qv, cv, hsv⟩ := hM2.shape
              rw [List.length_append, HLN.out] at hsv
              subst hsv
              have f4 := hb_free G0' 4
              have e4 := hb_at G0' 4 rfl
              clear hr hM2 hg5 hx5
              go_wp2
              go_roundw
              case rel =>
                have G3 := hb_set_same G0' 4 (.slice qv (j + [(sub (byOf (fg names names.length) bys) d) x].length) cv)
                have hzr' := hbq.size
                have hzb' := hBw.size
                refine ⟨j + 1, by omega, by go_num, _, by simpa using G3, ?_, by simpa using (by omega : g + 1 ≤ w'.heap.size), ?_, by rw [hb_set_other G1' _ (by show w.heap.size ≠ g; omega)], by rw [hb_set_other G2' _ (by show w.heap.size + 1 ≠ g; omega)]⟩
                · have e : (l1.take (j + 1)).map (sub (byOf (fg names names.length) bys) d) = (l1.take j).map (sub (byOf (fg names names.length) bys) d) ++ [(sub (byOf (fg names names.length) bys) d) x] := by rw [HTK.out, List.map_append]; rfl
                  rw [e]
                  exact HM2.out.move fun b hb1 hb2 => Below.heap_setCell _ _ _ b (by show b ≠ g; omega)
                · have h1 := hbq.mono (B' := g) (by omega)
                  exact ((HBG.out.trans h1).trans (hBw.mono (by omega))).setCell (by show g ≤ g; omega) _
              case measure => simp [intOf]; omega
          · obtain rfl : j = l1.length := by omega
            have x0 := hb_at G0.out 0 rfl
            have x1 := hb_at G0.out 1 rfl
            have x2 := hb_at G0.out 2 rfl
            have x3 := hb_at G0.out 3 rfl
            have x4 := hb_at G0.out 4 rfl
            have f0 := hb_free G2.out 0
            have f1 := hb_free G2.out 1
            have f2 := hb_free G2.out 2
            have f3 := hb_free G2.out 3
            have f4 := hb_free G2.out 4
            have e0 := hb_at G2.out 0 rfl
            have e1 := hb_at G2.out 1 rfl
            have e2 := hb_at G2.out 2 rfl
            have e3 := hb_at G2.out 3 rfl
            have e4 := hb_at G2.out 4 rfl
            go_wp2
            obtain ⟨u1, u2, u3⟩ := box_set (base := w.heap.size + 1) (Nat.le_refl _) G2.out (.int .i64 k1) (.string p1) (.string n1) (.int .i64 N1) (.slice qs l1.length cs)
            generalize (((((wr.setCell ⟨w.heap.size + 1, 0, none⟩ (.int .i64 k1)).setCell ⟨w.heap.size + 1, 1, none⟩ (.string p1)).setCell ⟨w.heap.size + 1, 2, none⟩ (.string n1)).setCell ⟨w.heap.size + 1, 3, none⟩ (.int .i64 N1)).setCell ⟨w.heap.size + 1, 4, none⟩ (.slice qs l1.length cs)) = W9 at *
            refine bodyPost_ret (v := tv k1 p1 n1 N1 (.slice qs l1.length cs)) (by simp [results, Tryd.results18, go_sem, hb_at u1 0 rfl, hb_at u1 1 rfl, hb_at u1 2 rfl, hb_at u1 3 rfl, hb_at u1 4 rfl]) rfl ⟨_, rfl, ?_, HBR2.out.trans (u3.mono (by omega))⟩
            rw [sub_no HSUB.out]
            have hM := HMD.out
            rw [List.take_length] at hM
            have hKX := (hM.all (by rw [List.length_map]; exact HM1.out) (fun b hb => u2 b (by omega))).mono (Y := fun b => b < B0 ∨ w.heap.size ≤ b) (fun b hb => by omega)
            have hle : (l1.map (sub (byOf (fg names names.length) bys) d)).length = l1.length := List.length_map ..
            rw [← hle] at hKX ⊢
            exact IsX.mk HP1.out HN1.out hKX
end Go.Proofs.YtncebhddcokkoaaDoor
/- Canonical forms tell which types are the same; what SchemeOrder puts in (mathematics). -/
namespace Go.Proofs.YtncebhddcokkoaaDoor
open Go.RowKit
set_option linter.unusedVariables false
theorem put1_nodup {ns : List ByteArray} {k : Int} {n : ByteArray} (h : ns.Nodup) : (put1 ns k n).Nodup := by
  unfold put1
  split
  · rename_i hc
    rw [List.nodup_append]
    refine ⟨h, by simp, fun a ha b hb e => ?_⟩
    rw [List.mem_singleton.1 hb] at e
    have := inN_iff.2 (e ▸ ha)
    rw [hc.2] at this
    cases this
  · exact h
theorem vars_nodup : ∀ {d : Nat} {t : Tm} {ns : List ByteArray}, ns.Nodup → (varsT d ns t).Nodup := by
  intro d
  induction d with
  | zero => intro t ns h; exact h
  | succ d ih =>
    intro t ns h
    obtain ⟨k, p, n, N, kids⟩ := t
    have key : ∀ (l : List Tm) (ns : List ByteArray), ns.Nodup → (l.foldl (varsT d) ns).Nodup := by
      intro l
      induction l with
      | nil => intro ns h; exact h
      | cons x l ihl => intro ns h; exact ihl _ (ih h)
    exact key kids _ (put1_nodup h)
theorem vars_mem {d : Nat} {t : Tm} {v : ByteArray} (h : hasV d t v) : v ∈ varsT d [] t := inN_iff.1 ((inN_varsT d [] t).2 (.inr h))
theorem nodup_le : ∀ {l m : List ByteArray}, l.Nodup → (∀ x ∈ l, x ∈ m) → l.length ≤ m.length := by
  intro l
  induction l with
  | nil => intro m _ _; simp
  | cons x l ih =>
    intro m hn hs
    rw [List.nodup_cons] at hn
    have hx := hs x (by simp)
    obtain ⟨a, b, rfl⟩ := List.append_of_mem hx
    have h1 := ih (m := a ++ b) hn.2 fun y hy => by
      have h3 := hs y (by simp [hy])
      have hne : y ≠ x := fun e => hn.1 (by rw [← e]; exact hy)
      simp only [List.mem_append, List.mem_cons] at h3 ⊢
      rcases h3 with h3 | h3 | h3
      · exact .inl h3
      · exact absurd h3 hne
      · exact .inr h3
    simp only [List.length_cons, List.length_append] at h1 ⊢
    omega
/-- A type that may be gone through: so deep, so large, so many names. -/
structure Gd (d : Nat) (t : Tm) (z v : Nat) : Prop where
  ty : Ty d t
  sm : Sm d t
  sz : tszN d t ≤ z
  vs : (varsT d [] t).length ≤ v
theorem Gd.more {d z v : Nat} {t : Tm} (h : Gd d t z v) {d' z' v' : Nat} (hd : d ≤ d') (hz : z ≤ z') (hv : v ≤ v') : Gd d' t z' v' := by
  refine ⟨h.ty.more _ hd, Sm.all h.ty.dp h.sm _, by rw [tsz_dp h.ty.dp d' hd]; exact Nat.le_trans h.sz hz, ?_⟩
  have h1 := nodup_le (l := varsT d' [] t) (m := varsT d [] t) (vars_nodup (by simp)) fun x hx => by
    have h2 := (inN_varsT d' [] t).1 (inN_mem hx)
    rcases h2 with h2 | h2
    · simp [inN] at h2
    · exact vars_mem (hasV_le h.ty.dp _ h2)
  have := h.vs
  omega
/-- Two types put in the place of two variables. -/
def putT (d : Nat) (t x y : Tm) : Tm := sub (byOf (fg [⟨#[97]⟩, ⟨#[98]⟩] 2) [x, y]) d t
theorem Gd.put {d : Nat} {t x y : Tm} (h : Gd d t 40 600) (hx : Gd d x 600 600) (hy : Gd d y 600 600) : Gd (d + d) (putT d t x y) 24000 2600 := by
  have hm : ∀ z ∈ [x, y], Gd d z 600 600 := by
    intro z hz
    rcases List.mem_cons.1 hz with rfl | hz
    · exact hx
    · rw [List.mem_singleton.1 hz]; exact hy
  refine ⟨Ty.sub (fun n z e => (hm z (byOf_mem e)).ty) h.ty, sub_sm (fun n z e => Sm.all (hm z (byOf_mem e)).ty.dp (hm z (byOf_mem e)).sm) h.ty.dp h.sm _, ?_, ?_⟩
  · have h1 := tszN_sub (σ := byOf (fg [⟨#[97]⟩, ⟨#[98]⟩] 2) [x, y]) (K := 600) (by omega) (fun n z e D => Nat.le_trans (tszN_le (hm z (byOf_mem e)).ty.dp D) (hm z (byOf_mem e)).sz) h.ty.dp (d + d)
    have h2 := h.sz
    unfold putT
    omega
  · have h1 := nodup_le (l := varsT (d + d) [] (putT d t x y)) (m := varsT d [] t ++ [x, y].foldl (varsT d) []) (vars_nodup (by simp)) fun v hv => by
      rcases vars_new (e := d) h.ty.dp (fun z hz => (hm z hz).ty.dp) hv with h2 | h2
      · exact List.mem_append_left _ (inN_iff.1 h2)
      · exact List.mem_append_right _ (inN_iff.1 h2)
    have h2 : ([x, y].foldl (varsT d) []).length ≤ 1200 := by
      have e1 := varsT_length d [] x
      have e2 := varsT_length d (varsT d [] x) y
      have e3 := hx.sz
      have e4 := hy.sz
      simp only [List.foldl_cons, List.foldl_nil]
      simp at e1
      omega
    have h3 := h.vs
    rw [List.length_append] at h1
    omega
end Go.Proofs.YtncebhddcokkoaaDoor
/- What Match finds, of the program and of the document (mathematics). -/
namespace Go.Proofs.YtncebhddcokkoaaDoor
open Go.RowKit
set_option linter.unusedVariables false
abbrev NT := ByteArray × Tm
end Go.Proofs.YtncebhddcokkoaaDoor
