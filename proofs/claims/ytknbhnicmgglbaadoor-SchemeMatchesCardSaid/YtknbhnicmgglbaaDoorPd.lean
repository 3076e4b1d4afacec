/- The document's Match: what it puts. -/
import Derived.Test.YtknbhnicmgglbaaDoorPf
import Derived.Test.YtknbhnicmgglbaaDoorVa
namespace Go.Proofs.YtknbhnicmgglbaaDoor
open Go.RowKit
set_option linter.unusedSimpArgs false
set_option linter.unusedVariables false
theorem mrec_len {d : Nat} : ∀ {L L' : List NT} {g s : Tm}, mrec d L g s = some L' → L'.length ≤ L.length + tszN d g := by
  induction d with
  | zero => intro L L' g s h; cases h
  | succ d ih =>
    intro L L' g s h
    obtain ⟨k, p, n, N, l⟩ := g
    have hpos : 1 ≤ tszN (d + 1) (.mk k p n N l) := by
      show 1 ≤ l.foldl (fun n t => n + tszN d t) 1
      rw [foldl_add]; omega
    by_cases hk : k = 1
    · subst hk
      cases hf : fnd L n with
      | some t =>
        rw [mrec_old hf] at h
        split at h
        · cases h; omega
        · cases h
      | none =>
        rw [mrec_new hf] at h
        cases h
        rw [List.length_append]
        simp only [List.length_cons, List.length_nil]
        omega
    · obtain ⟨k2, p2, n2, N2, m⟩ := s
      by_cases hc : k = k2 ∧ p = p2 ∧ n = n2 ∧ N = N2 ∧ l.length = m.length
      · obtain ⟨rfl, rfl, rfl, rfl, hl⟩ := hc
        rw [← mrecTo_all hk hl] at h
        have key : ∀ j, j ≤ l.length → ∀ L', mrecTo d j L l m = some L' → L'.length ≤ L.length + (l.take j).foldl (fun n t => n + tszN d t) 0 := by
          intro j
          induction j with
          | zero => intro _ L' e; cases e; simp
          | succ j ihj =>
            intro hj L' e
            have hx := List.getElem?_eq_getElem (l := l) (i := j) (by omega)
            have hy := List.getElem?_eq_getElem (l := m) (i := j) (by omega)
            rw [mrecTo_next hx hy] at e
            cases hM : mrecTo d j L l m with
            | none => rw [hM] at e; cases e
            | some M =>
              rw [hM] at e
              have h1 := ihj (by omega) M hM
              have h2 := ih e
              rw [List.take_succ_eq_append_getElem (by omega), List.foldl_append]
              simp only [List.foldl_cons, List.foldl_nil]
              omega
        have h1 := key _ (Nat.le_refl _) _ h
        rw [List.take_length] at h1
        show _ ≤ _ + l.foldl (fun n t => n + tszN d t) 1
        rw [foldl_add]
        omega
      · rw [mrec_no hk hc] at h; cases h
theorem mrecTo_len {d j : Nat} {L M : List NT} {l m : List Tm} {k N : Int} {p n : ByteArray} {x : Tm} (hl : l.length = m.length) (h : mrecTo d j L l m = some M) (hx : l[j]? = some x) (hr : L.length + tszN (d + 1) (.mk k p n N l) ≤ 30000) : M.length + tszN d x ≤ 30000 := by
  have key : ∀ j, j ≤ l.length → ∀ L', mrecTo d j L l m = some L' → L'.length ≤ L.length + (l.take j).foldl (fun n t => n + tszN d t) 0 := by
    intro j
    induction j with
    | zero => intro _ L' e; cases e; simp
    | succ j ihj =>
      intro hj L' e
      have hx := List.getElem?_eq_getElem (l := l) (i := j) (by omega)
      have hy := List.getElem?_eq_getElem (l := m) (i := j) (by omega)
      rw [mrecTo_next hx hy] at e
      cases hM : mrecTo d j L l m with
      | none => rw [hM] at e; cases e
      | some M =>
        rw [hM] at e
        have h1 := ihj (by omega) M hM
        have h2 := mrec_len e
        rw [List.take_succ_eq_append_getElem (by omega), List.foldl_append]
        simp only [List.foldl_cons, List.foldl_nil]
        omega
  obtain ⟨hj, he⟩ := List.getElem?_eq_some_iff.1 hx
  have h1 := key j (by omega) M h
  have h2 : l.foldl (fun n t => n + tszN d t) 1 = (l.take (j + 1) ++ l.drop (j + 1)).foldl (fun n t => n + tszN d t) 1 := by rw [List.take_append_drop]
  rw [List.foldl_append, List.take_succ_eq_append_getElem hj, List.foldl_append, foldl_add (tszN d) (l.drop (j + 1)), he] at h2
  simp only [List.foldl_cons, List.foldl_nil] at h2
  rw [foldl_add (tszN d) (l.take j)] at h2
  have h3 : L.length + l.foldl (fun n t => n + tszN d t) 1 ≤ 30000 := hr
  omega
def DocR (d D : Nat) (L : List NT) (tg ts : Tm) (w : World) (e : Ending) (w' : World) : Prop := ∃ q l c r, e = .returned (.tuple #[.slice q l c, .bool r]) ∧ (r = false → mrec d L tg ts = none) ∧ (r = true → ∃ L', mrec d L tg ts = some L' ∧ VAt w' D (.slice q l c) L') ∧ Below w.heap.size w w'
/-- An empty list that was made. -/
def Inr.MP.made0 (base : Nat) : Inr.MP := ⟨fun v w => ∃ g, v = .slice (some ⟨g, 0, none⟩) 0 0 ∧ base ≤ g ∧ w.heap[g]? = some (.cells #[] 34 (0, 0)), fun v w w' ⟨g, h1, h2, h3⟩ hb => ⟨g, h1, h2, hb_below h3 hb (hb_lt h3)⟩⟩
/-- A list of one's own, its terms out of old blocks. -/
def RowV (base d : Nat) (L : List NT) (v : Value) (w : World) : Prop := ∃ l : List V6, l.length = L.length ∧ w.ownsRow base 34 6 v l.length (flatV l) ∧ ∀ (i : Nat) (x : NT), L[i]? = some x → ∃ t : V6, l[i]? = some t ∧ t.1 = x.1 ∧ x.1.size ≤ maxLen ∧ IsX (fun b => b < base) w d (t5v t.2) x.2
def Inr.MP.rowV (base d : Nat) (L : List NT) : Inr.MP := ⟨fun v w => RowV base d L v w, fun v w w' ⟨l, h1, h2, h3⟩ hb => ⟨l, h1, own_below h2 hb, fun i x hx => by
  obtain ⟨t, e1, e2, e3, e4⟩ := h3 i x hx
  exact ⟨t, e1, e2, e3, e4.below hb⟩⟩⟩
/-- A list of one that was made. -/
def Inr.MP.oneV (cs : Array Value) : Inr.MP := ⟨fun v w => ∃ g, v = .slice (some ⟨g, 0, none⟩) 1 1 ∧ w.heap[g]? = some (.cells cs 34 (0, 0)), fun v w w' ⟨g, h1, h3⟩ hb => ⟨g, h1, hb_below h3 hb (hb_lt h3)⟩⟩
def Inr.MP.docT (D : Nat) (M : List NT) : Inr.MP := ⟨fun v w => ∃ q l c, v = .tuple #[.slice q l c, .bool true] ∧ VAt w D (.slice q l c) M, fun v w w' ⟨q, l, c, h1, h2⟩ hb => ⟨q, l, c, h1, h2.below hb⟩⟩
def Inr.MP.docN : Inr.MP := ⟨fun v w => ∃ q l c, v = .tuple #[.slice q l c, .bool false], fun v w w' h hb => h⟩
def Inr.MP.vat (D : Nat) (M : List NT) : Inr.MP := ⟨fun v w => VAt w D v M, fun v w w' h hb => h.below hb⟩
def Inr.MP.slc : Inr.MP := ⟨fun v w => ∃ q l c, v = .slice q l c, fun v w w' h hb => h⟩
set_option maxRecDepth 100000 in
set_option maxHeartbeats 8000000 in
theorem doc_any (D : Nat) : ∀ (d : Nat) (vl vg vs : Value) (L : List NT) (tg ts : Tm) (w : World), VAt w D vl L → IsT w d vg tg → IsT w D vs ts → L.length + tszN d tg ≤ 30000 → Calls Tryd.prog 24 #[vl, vg, vs] w (DocR d D L tg ts w) := by
  intro d
  induction d with
  | zero => intro vl vg vs L tg ts w _ h; cases h
  | succ d ih =>
    intro vl vg vs L tg ts w hV hg hs hr
    have HIH := Lib.hid ih
    clear ih
    have HG0 := Lib.hid hg
    have HS0 := Lib.hid hs
    obtain ⟨dg, k1, p1, n1, N1, s1, l1, eg, rfl, rfl, hp1, hn1, hk1⟩ := hg.open
    obtain rfl : d = dg := by omega
    obtain ⟨ds, k2, p2, n2, N2, s2, l2, es, ets, rfl, hp2, hn2, hk2⟩ := hs.open
    obtain ⟨q1, c1, rfl, hm1, hK1⟩ := hk1
    obtain ⟨q2, c2, rfl, hm2, hK2⟩ := hk2
    obtain ⟨ql, cl, rfl⟩ := hV.shape
    have HK1 := Lib.hid hK1
    have HK2 := Lib.hid hK2
    have HV := Lib.hid hV
    have HR := Lib.hid hr
    have HN1 := Lib.hid hn1
    have HES : RowKit.Hid (ds ≤ D) := Lib.hid (by omega)
    have HES2 : RowKit.Hid (ds + 1 ≤ D) := Lib.hid (by omega)
    have HTS := Lib.hid ets
    clear hg hs eg es hK1 hK2 hV hr ets
    generalize hL1 : l1.length = L1 at *
    generalize hL2 : l2.length = L2 at *
    generalize hLL : L.length = LL at *
    have HL1 := Lib.hid hL1
    have HL2 := Lib.hid hL2
    have HLL := Lib.hid hLL
    have hB0 := below2 w (.cells #[.int .i64 k1, .string p1, .string n1, .int .i64 N1, .slice q1 L1 c1] 24) (.cells #[.int .i64 k2, .string p2, .string n2, .int .i64 N2, .slice q2 L2 c2] 24)
    have b1 := hb_alloc (hb_new w (.cells #[.int .i64 k1, .string p1, .string n1, .int .i64 N1, .slice q1 L1 c1] 24)) (.cells #[.int .i64 k2, .string p2, .string n2, .int .i64 N2, .slice q2 L2 c2] 24)
    have b2 := hb_new (w.alloc (.cells #[.int .i64 k1, .string p1, .string n1, .int .i64 N1, .slice q1 L1 c1] 24)) (.cells #[.int .i64 k2, .string p2, .string n2, .int .i64 N2, .slice q2 L2 c2] 24)
    rw [World.size_alloc] at b2
    have J1 := Lib.hid b1
    have J2 := Lib.hid b2
    have HB0 := Lib.hid hB0
    have hzw : w.heap.size + 2 ≤ ((w.alloc (.cells #[.int .i64 k1, .string p1, .string n1, .int .i64 N1, .slice q1 L1 c1] 24)).alloc (.cells #[.int .i64 k2, .string p2, .string n2, .int .i64 N2, .slice q2 L2 c2] 24)).heap.size := by simp
    clear b1 b2 hB0
    unfold maxLen at hm1 hm2 hp1 hp2 hn1 hn2
    by_cases hk : k1 = 1
    · subst hk
      have HVW := Lib.hid (HV.out.below HB0.out)
      have y0 := hb_at J1.out 0 rfl
      have y2 := hb_at J1.out 2 rfl
      go_enter Tryd.func24, Tryd.ntmps24
      go_upto_region 3 with (go_at_call 30; ((with_reducible refine (find_any D _ L n1 _ HVW.out).mono ?_); rintro e w3 ⟨hf, hw3⟩; subst hw3; rcases hf with ⟨rfl, hf⟩ | ⟨i, x, rfl, hix, hf⟩))
      · -- not there
        have HF := Lib.hid hf
        clear hf
        generalize hWW : (w.alloc (.cells #[.int .i64 1, .string p1, .string n1, .int .i64 N1, .slice q1 L1 c1] 24)).alloc (.cells #[.int .i64 k2, .string p2, .string n2, .int .i64 N2, .slice q2 L2 c2] 24) = W0 at *
        have hlt1 := hb_lt J1.out
        have hlt2 := hb_lt J2.out
        clear y0 y2
        go_upto_region 5 with fail
        refine Inr.region (by kernel_rfl) 8 [some 29, some 30, some 31, some 32, some 33, some 34, some 35, some 36, some 37, some 6, some 7] [[], [], [0, 1], [], [3], [], [4, 5], [6]] (by kernel_rfl) (by kernel_rfl) (by kernel_rfl) (by kernel_rfl) [Inr.MP.made0 W0.heap.size, Inr.MP.is (.slice ql LL cl), Inr.MP.rowV W0.heap.size D L, Inr.MP.is (.pointer (some ⟨w.heap.size, 2, none⟩)), Inr.MP.is (.string n1), Inr.MP.is (tv k2 p2 n2 N2 (.slice q2 L2 c2)), Inr.MP.is (.agg #[.string n1, .int .i64 k2, .string p2, .string n2, .int .i64 N2, .slice q2 L2 c2]), Inr.MP.oneV #[.string n1, .int .i64 k2, .string p2, .string n2, .int .i64 N2, .slice q2 L2 c2]] [] (by intro x hx; cases hx) ⟨?_, ?_, ?_, ?_, ?_, ?_, ?_, ?_, trivial⟩ (fun vs wq hbq hv htie => ?_)
        · intro vs w' hb hv K hK
          clear hv
          have hK2 := hK.out
          clear hK
          simp only [Inr.putD, Inr.dst, List.foldl_cons, List.foldl_nil, List.getD_cons_zero, List.getD_cons_succ, Act.put, List.setIfInBounds_toArray, List.set_cons_zero, List.set_cons_succ] at hK2 ⊢
          have hK := Lib.hid hK2
          clear hK2
          simp only [Region.wanted, Inr.yieldedD, Inr.dst, List.getD_cons_zero, List.getD_cons_succ]
          go_simp
          refine hK.out _ _ ⟨_, rfl, hb.size, hb_new _ _⟩ (below_alloc _ _) (Inr.noTies _ _ _ _ _)
        · intro vs w' hb hv K hK
          clear hv
          have hK2 := hK.out
          clear hK
          simp only [Inr.putD, Inr.dst, List.foldl_cons, List.foldl_nil, List.getD_cons_zero, List.getD_cons_succ, Act.put, List.setIfInBounds_toArray, List.set_cons_zero, List.set_cons_succ] at hK2 ⊢
          have hK := Lib.hid hK2
          clear hK2
          simp only [Region.wanted, Inr.yieldedD, Inr.dst, List.getD_cons_zero, List.getD_cons_succ]
          go_simp
          refine hK.out _ _ (Eq.refl _) (Below.refl _ _) (Inr.noTies _ _ _ _ _)
        · intro vs w' hb hv K hK
          have h0 : (Inr.MP.made0 W0.heap.size).p (vs 0) w' := hv 0 (by simp)
          have h1 : (Inr.MP.is (.slice ql LL cl)).p (vs 1) w' := hv 1 (by simp)
          clear hv
          have hK2 := hK.out
          clear hK
          simp only [Inr.putD, Inr.dst, List.foldl_cons, List.foldl_nil, List.getD_cons_zero, List.getD_cons_succ, Act.put, List.setIfInBounds_toArray, List.set_cons_zero, List.set_cons_succ] at hK2 ⊢
          have hK := Lib.hid hK2
          clear hK2
          generalize vs 0 = y0 at *
          generalize vs 1 = y1 at *
          obtain ⟨g0, rfl, hg1, hg2⟩ := (show ∃ g, y0 = .slice (some ⟨g, 0, none⟩) 0 0 ∧ W0.heap.size ≤ g ∧ w'.heap[g]? = some (.cells #[] 34 (0, 0)) from h0)
          have h1 : y1 = _ := h1
          subst h1
          simp only [Region.wanted, if_true]
          obtain ⟨v2, w2, hr2, ⟨l6, hl6, ho6, hx6⟩, hb2, _⟩ := append0V W0 w' W0.heap.size g0 D _ L hg2 hg1 HVW.out hb hb.size
          have HR2 := Lib.hid (show RowV W0.heap.size D L v2 w2 from ⟨l6, hl6, ho6, fun i x hx => (by
            obtain ⟨t, e1, e2, e3, e4⟩ := hx6 i x hx
            exact ⟨t, e1, e2, e3, (e4.isX.below (hb.trans (hb2.mono hb.size)))⟩)⟩)
          clear hx6
          refine oper_append_at (T := 27) (.tmp 29) (.tmp 30) rfl rfl rfl rfl hr2 ?_
          exact hK.out _ _ HR2.out hb2 (Inr.noTies _ _ _ _ _)
        · intro vs w' hb hv K hK
          clear hv
          have hK2 := hK.out
          clear hK
          simp only [Inr.putD, Inr.dst, List.foldl_cons, List.foldl_nil, List.getD_cons_zero, List.getD_cons_succ, Act.put, List.setIfInBounds_toArray, List.set_cons_zero, List.set_cons_succ] at hK2 ⊢
          have hK := Lib.hid hK2
          clear hK2
          simp only [Region.wanted, Inr.yieldedD, Inr.dst, List.getD_cons_zero, List.getD_cons_succ]
          go_simp
          refine hK.out _ _ (Eq.refl _) (Below.refl _ _) (Inr.noTies _ _ _ _ _)
        · intro vs w' hb hv K hK
          have h3 : (Inr.MP.is (.pointer (some ⟨w.heap.size, 2, none⟩))).p (vs 3) w' := hv 3 (by simp)
          clear hv
          have hK2 := hK.out
          clear hK
          simp only [Inr.putD, Inr.dst, List.foldl_cons, List.foldl_nil, List.getD_cons_zero, List.getD_cons_succ, Act.put, List.setIfInBounds_toArray, List.set_cons_zero, List.set_cons_succ] at hK2 ⊢
          have hK := Lib.hid hK2
          clear hK2
          generalize vs 3 = y3 at *
          have h3 : y3 = _ := h3
          subst h3
          have x2 := hb_at (hb_below J1.out hb (hb_lt J1.out)) 2 rfl
          simp only [Region.wanted, Inr.yieldedD, Inr.dst, List.getD_cons_zero, List.getD_cons_succ]
          go_simp
          refine hK.out _ _ (Eq.refl _) (Below.refl _ _) (Inr.noTies _ _ _ _ _)
        · intro vs w' hb hv K hK
          clear hv
          have hK2 := hK.out
          clear hK
          simp only [Inr.putD, Inr.dst, List.foldl_cons, List.foldl_nil, List.getD_cons_zero, List.getD_cons_succ, Act.put, List.setIfInBounds_toArray, List.set_cons_zero, List.set_cons_succ] at hK2 ⊢
          have hK := Lib.hid hK2
          clear hK2
          have x0 := hb_at (hb_below J2.out hb (hb_lt J2.out)) 0 rfl
          have x1 := hb_at (hb_below J2.out hb (hb_lt J2.out)) 1 rfl
          have x2 := hb_at (hb_below J2.out hb (hb_lt J2.out)) 2 rfl
          have x3 := hb_at (hb_below J2.out hb (hb_lt J2.out)) 3 rfl
          have x4 := hb_at (hb_below J2.out hb (hb_lt J2.out)) 4 rfl
          simp only [Region.wanted, Inr.yieldedD, Inr.dst, List.getD_cons_zero, List.getD_cons_succ]
          go_simp
          refine hK.out _ _ (Eq.refl _) (Below.refl _ _) (Inr.noTies _ _ _ _ _)
        · intro vs w' hb hv K hK
          have h4 : (Inr.MP.is (.string n1)).p (vs 4) w' := hv 4 (by simp)
          have h5 : (Inr.MP.is (tv k2 p2 n2 N2 (.slice q2 L2 c2))).p (vs 5) w' := hv 5 (by simp)
          clear hv
          have hK2 := hK.out
          clear hK
          simp only [Inr.putD, Inr.dst, List.foldl_cons, List.foldl_nil, List.getD_cons_zero, List.getD_cons_succ, Act.put, List.setIfInBounds_toArray, List.set_cons_zero, List.set_cons_succ] at hK2 ⊢
          have hK := Lib.hid hK2
          clear hK2
          generalize vs 4 = y4 at *
          generalize vs 5 = y5 at *
          have h4 : y4 = _ := h4
          subst h4
          have h5 : y5 = _ := h5
          subst h5
          simp only [Region.wanted, Inr.yieldedD, Inr.dst, List.getD_cons_zero, List.getD_cons_succ]
          go_simp
          refine hK.out _ _ (Eq.refl _) (Below.refl _ _) (Inr.noTies _ _ _ _ _)
        · intro vs w' hb hv K hK
          have h6 : (Inr.MP.is (.agg #[.string n1, .int .i64 k2, .string p2, .string n2, .int .i64 N2, .slice q2 L2 c2])).p (vs 6) w' := hv 6 (by simp)
          clear hv
          have hK2 := hK.out
          clear hK
          simp only [Inr.putD, Inr.dst, List.foldl_cons, List.foldl_nil, List.getD_cons_zero, List.getD_cons_succ, Act.put, List.setIfInBounds_toArray, List.set_cons_zero, List.set_cons_succ] at hK2 ⊢
          have hK := Lib.hid hK2
          clear hK2
          generalize vs 6 = y6 at *
          have h6 : y6 = _ := h6
          subst h6
          simp only [Region.wanted, Inr.yieldedD, Inr.dst, List.getD_cons_zero, List.getD_cons_succ]
          go_simp
          refine hK.out _ _ ⟨_, rfl, hb_new _ _⟩ (below_alloc _ _) (Inr.noTies _ _ _ _ _)
        · have h2 : RowV W0.heap.size D L (vs 2) wq := hv 2 (by omega)
          have h7 : ∃ g, vs 7 = .slice (some ⟨g, 0, none⟩) 1 1 ∧ wq.heap[g]? = some (.cells #[.string n1, .int .i64 k2, .string p2, .string n2, .int .i64 N2, .slice q2 L2 c2] 34 (0, 0)) := hv 7 (by omega)
          clear hv
          simp only [List.range, List.range.loop, Inr.putD, Inr.dst, List.foldl_cons, List.foldl_nil, List.getD_cons_zero, List.getD_cons_succ, Act.put, List.setIfInBounds_toArray, List.set_cons_zero, List.set_cons_succ]
          simp only [List.drop_succ_cons, List.drop_zero]
          generalize vs 0 = yy0 at *
          generalize vs 1 = yy1 at *
          generalize vs 2 = yy2 at *
          generalize vs 3 = yy3 at *
          generalize vs 4 = yy4 at *
          generalize vs 5 = yy5 at *
          generalize vs 6 = yy6 at *
          generalize vs 7 = yy7 at *
          obtain ⟨g7, rfl, hg7⟩ := h7
          obtain ⟨l6, hl6, ho6, hx6⟩ := h2
          obtain ⟨z, hz, hzc⟩ := info43
          obtain ⟨i0, hi, hz0, hz1, hz2⟩ := info_parts hz
          have hpos : 1 ≤ tszN (d + 1) (.mk 1 p1 n1 N1 l1) := by
            show 1 ≤ l1.foldl (fun n t => n + tszN d t) 1
            rw [foldl_add]; omega
          have hR := HR.out
          have hLLe := HLL.out
          obtain ⟨v', w', hr, ho', hg', _, hblk⟩ := run_append_own_at (P := Tryd.prog) wq W0.heap.size 27 27 34 i0 z 6 88 Tryd.underlying27 hi hz0 hz1 hz2 hzc (by decide) yy2 l6.length (flatV l6) ho6 ⟨g7, 0, none⟩ 1 1 [.string n1, .int .i64 k2, .string p2, .string n2, .int .i64 N2, .slice q2 L2 c2] rfl (fun j u hu => by rw [add_zero_none, hb_cell hg7]; simpa using hu) (by simp [Value.oneCell']) (by unfold maxLen; omega) (by omega) hbq.size
          refine wpList_append_at (T := 27) rfl (.tmp 31) (.tmp 36) rfl rfl rfl rfl hr ?_
          have hIS : IsX (fun b => some b ≠ yy2.ownBlock) wq D (tv k2 p2 n2 N2 (.slice q2 L2 c2)) ts := ((HS0.out.isX.below HB0.out).below hbq).move fun b hb _ => ⟨fun e => by have := (ho6.lt b e.symm).1; omega, rfl⟩
          have hM : MadeV W0.heap.size w' D v' (L ++ [(n1, ts)]) := MadeV.next (w := wq) (w3 := wq) (w5 := wq) hl6 ho6 (fun i x hx => by
            obtain ⟨t, e1, e2, e3, e4⟩ := hx6 i x hx
            exact ⟨t, e1, e2, e3, e4.move fun b hb _ => ⟨fun e => by have := (ho6.lt b e.symm).1; omega, rfl⟩⟩) (Below.refl _ _) HN1.out hIS (fun b _ => rfl) (Nat.le_refl _) ho' hg' hblk
          have hV' := hM.all (by rw [List.length_append]; simp only [List.length_cons, List.length_nil]; omega)
          have hBw : Below W0.heap.size W0 w' := hbq.grown hg' hbq.size fun k hk => (ho6.lt k hk).1
          obtain ⟨qv, cv, hsv⟩ := hM.shape
          subst hsv
          have HVF := Lib.hid hV'
          have HBF := Lib.hid hBw
          clear hr ho' hg' hblk hM hV' hBw hIS hx6 ho6 hg7
          go_wp2
          refine bodyPost_ret (v := .tuple #[.slice qv (L ++ [(n1, ts)]).length cv, .bool true]) (by simp [results, Tryd.results24, go_sem, HLL.out]) rfl ?_
          exact ⟨_, _, _, _, rfl, (fun h => by cases h), fun _ => ⟨_, mrec_new HF.out, HVF.out⟩, HB0.out.trans (HBF.out.mono HB0.out.size)⟩
      · have HF := Lib.hid hf
        have HIX := Lib.hid hix
        clear hf hix
        generalize hWW : (w.alloc (.cells #[.int .i64 1, .string p1, .string n1, .int .i64 N1, .slice q1 L1 c1] 24)).alloc (.cells #[.int .i64 k2, .string p2, .string n2, .int .i64 N2, .slice q2 L2 c2] 24) = W0 at *
        obtain ⟨_, _, es2, _, hVV⟩ := HVW.out
        have hlen := hVV i x HIX.out
        obtain ⟨g, k, p, n, N, s, e1, e2, e3, e4, e5⟩ := hlen
        injection es2 with es2 es3 es4
        subst e1
        subst es2
        have hil : (i : Int) < (LL : Int) := by have h1 := (List.getElem?_eq_some_iff.1 HIX.out).1; have h2 := HLL.out; omega
        obtain ⟨qx, lx, cx, rfl⟩ := e5.spell
        have E4 := Lib.hid e4
        have E5 := Lib.hid e5
        clear es3 es4 hVV e2 e3 e4 e5 y0 y2
        generalize x.2 = xt at *
        go_upto_region 4 with fail
        refine Inr.region (by kernel_rfl) 10 [some 21, some 22, some 23, some 24, some 25, some 26, some 27, some 28, some 6, some 7] [[], [], [], [1, 2], [3], [4], [], [5, 6], [0, 7, 0], [7, 8, 0, 1, 2, 3, 4, 5, 6, 7, 8]] (by kernel_rfl) (by kernel_rfl) (by kernel_rfl) (by kernel_rfl) [Inr.MP.is (.slice (some ⟨g, 0, none⟩) LL cl), Inr.MP.is (.slice (some ⟨g, 0, none⟩) LL cl), Inr.MP.is (.int .i64 i), Inr.MP.is (.pointer (some ⟨g, i * 6, none⟩)), Inr.MP.is (.pointer (some ⟨g, i * 6 + 1, none⟩)), Inr.MP.is (tv k p n N (.slice qx lx cx)), Inr.MP.is (tv k2 p2 n2 N2 (.slice q2 L2 c2)), Inr.MP.is (.bool (same xt ts)), Inr.MP.is (.slice (some ⟨g, 0, none⟩) LL cl), Inr.MP.is (.bool (same xt ts))] [] (by intro x hx; cases hx) ⟨?_, ?_, ?_, ?_, ?_, ?_, ?_, ?_, ?_, ?_, trivial⟩ (fun vs wq hbq hv htie => ?_)
        · intro vs w' hb hv K hK
          clear hv
          have hK2 := hK.out
          clear hK
          simp only [Inr.putD, Inr.dst, List.foldl_cons, List.foldl_nil, List.getD_cons_zero, List.getD_cons_succ, Act.put, List.setIfInBounds_toArray, List.set_cons_zero, List.set_cons_succ] at hK2 ⊢
          have hK := Lib.hid hK2
          clear hK2
          simp only [Region.wanted, Inr.yieldedD, Inr.dst, List.getD_cons_zero, List.getD_cons_succ]
          go_simp
          refine hK.out _ _ (Eq.refl _) (Below.refl _ _) (Inr.noTies _ _ _ _ _)
        · intro vs w' hb hv K hK
          clear hv
          have hK2 := hK.out
          clear hK
          simp only [Inr.putD, Inr.dst, List.foldl_cons, List.foldl_nil, List.getD_cons_zero, List.getD_cons_succ, Act.put, List.setIfInBounds_toArray, List.set_cons_zero, List.set_cons_succ] at hK2 ⊢
          have hK := Lib.hid hK2
          clear hK2
          simp only [Region.wanted, Inr.yieldedD, Inr.dst, List.getD_cons_zero, List.getD_cons_succ]
          go_simp
          refine hK.out _ _ (Eq.refl _) (Below.refl _ _) (Inr.noTies _ _ _ _ _)
        · intro vs w' hb hv K hK
          clear hv
          have hK2 := hK.out
          clear hK
          simp only [Inr.putD, Inr.dst, List.foldl_cons, List.foldl_nil, List.getD_cons_zero, List.getD_cons_succ, Act.put, List.setIfInBounds_toArray, List.set_cons_zero, List.set_cons_succ] at hK2 ⊢
          have hK := Lib.hid hK2
          clear hK2
          simp only [Region.wanted, Inr.yieldedD, Inr.dst, List.getD_cons_zero, List.getD_cons_succ]
          go_simp
          refine hK.out _ _ (Eq.refl _) (Below.refl _ _) (Inr.noTies _ _ _ _ _)
        · intro vs w' hb hv K hK
          have h1 : (Inr.MP.is (.slice (some ⟨g, 0, none⟩) LL cl)).p (vs 1) w' := hv 1 (by simp)
          have h2 : (Inr.MP.is (.int .i64 i)).p (vs 2) w' := hv 2 (by simp)
          clear hv
          have hK2 := hK.out
          clear hK
          simp only [Inr.putD, Inr.dst, List.foldl_cons, List.foldl_nil, List.getD_cons_zero, List.getD_cons_succ, Act.put, List.setIfInBounds_toArray, List.set_cons_zero, List.set_cons_succ] at hK2 ⊢
          have hK := Lib.hid hK2
          clear hK2
          generalize vs 1 = y1 at *
          generalize vs 2 = y2 at *
          have h1 : y1 = _ := h1
          subst h1
          have h2 : y2 = _ := h2
          subst h2
          simp only [Region.wanted, Inr.yieldedD, Inr.dst, List.getD_cons_zero, List.getD_cons_succ]
          go_simp
          refine hK.out _ _ (Eq.refl _) (Below.refl _ _) (Inr.noTies _ _ _ _ _)
        · intro vs w' hb hv K hK
          have h3 : (Inr.MP.is (.pointer (some ⟨g, i * 6, none⟩))).p (vs 3) w' := hv 3 (by simp)
          clear hv
          have hK2 := hK.out
          clear hK
          simp only [Inr.putD, Inr.dst, List.foldl_cons, List.foldl_nil, List.getD_cons_zero, List.getD_cons_succ, Act.put, List.setIfInBounds_toArray, List.set_cons_zero, List.set_cons_succ] at hK2 ⊢
          have hK := Lib.hid hK2
          clear hK2
          generalize vs 3 = y3 at *
          have h3 : y3 = _ := h3
          subst h3
          simp only [Region.wanted, Inr.yieldedD, Inr.dst, List.getD_cons_zero, List.getD_cons_succ]
          go_simp
          refine hK.out _ _ (Eq.refl _) (Below.refl _ _) (Inr.noTies _ _ _ _ _)
        · intro vs w' hb hv K hK
          have h4 : (Inr.MP.is (.pointer (some ⟨g, i * 6 + 1, none⟩))).p (vs 4) w' := hv 4 (by simp)
          clear hv
          have hK2 := hK.out
          clear hK
          simp only [Inr.putD, Inr.dst, List.foldl_cons, List.foldl_nil, List.getD_cons_zero, List.getD_cons_succ, Act.put, List.setIfInBounds_toArray, List.set_cons_zero, List.set_cons_succ] at hK2 ⊢
          have hK := Lib.hid hK2
          clear hK2
          generalize vs 4 = y4 at *
          have h4 : y4 = _ := h4
          subst h4
          obtain ⟨z0, z1, z2, z3, z4⟩ := E4.out.below hb E4.out.lt
          simp only [Region.wanted, Inr.yieldedD, Inr.dst, List.getD_cons_zero, List.getD_cons_succ]
          go_simp
          refine hK.out _ _ (Eq.refl _) (Below.refl _ _) (Inr.noTies _ _ _ _ _)
        · intro vs w' hb hv K hK
          clear hv
          have hK2 := hK.out
          clear hK
          simp only [Inr.putD, Inr.dst, List.foldl_cons, List.foldl_nil, List.getD_cons_zero, List.getD_cons_succ, Act.put, List.setIfInBounds_toArray, List.set_cons_zero, List.set_cons_succ] at hK2 ⊢
          have hK := Lib.hid hK2
          clear hK2
          have x0 := hb_at (hb_below J2.out hb (hb_lt J2.out)) 0 rfl
          have x1 := hb_at (hb_below J2.out hb (hb_lt J2.out)) 1 rfl
          have x2 := hb_at (hb_below J2.out hb (hb_lt J2.out)) 2 rfl
          have x3 := hb_at (hb_below J2.out hb (hb_lt J2.out)) 3 rfl
          have x4 := hb_at (hb_below J2.out hb (hb_lt J2.out)) 4 rfl
          simp only [Region.wanted, Inr.yieldedD, Inr.dst, List.getD_cons_zero, List.getD_cons_succ]
          go_simp
          refine hK.out _ _ (Eq.refl _) (Below.refl _ _) (Inr.noTies _ _ _ _ _)
        · intro vs w' hb hv K hK
          have h5 : (Inr.MP.is (tv k p n N (.slice qx lx cx))).p (vs 5) w' := hv 5 (by simp)
          have h6 : (Inr.MP.is (tv k2 p2 n2 N2 (.slice q2 L2 c2))).p (vs 6) w' := hv 6 (by simp)
          clear hv
          have hK2 := hK.out
          clear hK
          simp only [Inr.putD, Inr.dst, List.foldl_cons, List.foldl_nil, List.getD_cons_zero, List.getD_cons_succ, Act.put, List.setIfInBounds_toArray, List.set_cons_zero, List.set_cons_succ] at hK2 ⊢
          have hK := Lib.hid hK2
          clear hK2
          generalize vs 5 = y5 at *
          generalize vs 6 = y6 at *
          have h5 : y5 = _ := h5
          subst h5
          have h6 : y6 = _ := h6
          subst h6
          simp only [Region.wanted, Inr.yieldedD, Inr.dst, List.getD_cons_zero, List.getD_cons_succ]
          go_simp
          ((with_reducible refine (refSame_any D _ _ xt ts w' (E5.out.below hb) ((HS0.out.below HB0.out).below hb)).mono ?_); rintro e w3 ⟨rfl, hb3⟩)
          go_wp2_with fail
          refine hK.out _ _ (Eq.refl _) hb3 (Inr.noTies _ _ _ _ _)
        · intro vs w' hb hv K hK
          have h0 : (Inr.MP.is (.slice (some ⟨g, 0, none⟩) LL cl)).p (vs 0) w' := hv 0 (by simp)
          have h7 : (Inr.MP.is (.bool (same xt ts))).p (vs 7) w' := hv 7 (by simp)
          clear hv
          have hK2 := hK.out
          clear hK
          simp only [Inr.putD, Inr.dst, List.foldl_cons, List.foldl_nil, List.getD_cons_zero, List.getD_cons_succ, Act.put, List.setIfInBounds_toArray, List.set_cons_zero, List.set_cons_succ] at hK2 ⊢
          have hK := Lib.hid hK2
          clear hK2
          generalize vs 0 = y0 at *
          generalize vs 7 = y7 at *
          have h0 : y0 = _ := h0
          subst h0
          have h7 : y7 = _ := h7
          subst h7
          simp only [Region.wanted, Inr.yieldedD, Inr.dst, List.getD_cons_zero, List.getD_cons_succ]
          go_simp
          refine hK.out _ _ (Eq.refl _) (Below.refl _ _) (Inr.noTies _ _ _ _ _)
        · intro vs w' hb hv K hK
          have h0 : (Inr.MP.is (.slice (some ⟨g, 0, none⟩) LL cl)).p (vs 0) w' := hv 0 (by simp)
          have h1 : (Inr.MP.is (.slice (some ⟨g, 0, none⟩) LL cl)).p (vs 1) w' := hv 1 (by simp)
          have h2 : (Inr.MP.is (.int .i64 i)).p (vs 2) w' := hv 2 (by simp)
          have h3 : (Inr.MP.is (.pointer (some ⟨g, i * 6, none⟩))).p (vs 3) w' := hv 3 (by simp)
          have h4 : (Inr.MP.is (.pointer (some ⟨g, i * 6 + 1, none⟩))).p (vs 4) w' := hv 4 (by simp)
          have h5 : (Inr.MP.is (tv k p n N (.slice qx lx cx))).p (vs 5) w' := hv 5 (by simp)
          have h6 : (Inr.MP.is (tv k2 p2 n2 N2 (.slice q2 L2 c2))).p (vs 6) w' := hv 6 (by simp)
          have h7 : (Inr.MP.is (.bool (same xt ts))).p (vs 7) w' := hv 7 (by simp)
          have h8 : (Inr.MP.is (.slice (some ⟨g, 0, none⟩) LL cl)).p (vs 8) w' := hv 8 (by simp)
          clear hv
          have hK2 := hK.out
          clear hK
          simp only [Inr.putD, Inr.dst, List.foldl_cons, List.foldl_nil, List.getD_cons_zero, List.getD_cons_succ, Act.put, List.setIfInBounds_toArray, List.set_cons_zero, List.set_cons_succ] at hK2 ⊢
          have hK := Lib.hid hK2
          clear hK2
          generalize vs 0 = y0 at *
          generalize vs 1 = y1 at *
          generalize vs 2 = y2 at *
          generalize vs 3 = y3 at *
          generalize vs 4 = y4 at *
          generalize vs 5 = y5 at *
          generalize vs 6 = y6 at *
          generalize vs 7 = y7 at *
          generalize vs 8 = y8 at *
          have h0 : y0 = _ := h0
          subst h0
          have h1 : y1 = _ := h1
          subst h1
          have h2 : y2 = _ := h2
          subst h2
          have h3 : y3 = _ := h3
          subst h3
          have h4 : y4 = _ := h4
          subst h4
          have h5 : y5 = _ := h5
          subst h5
          have h6 : y6 = _ := h6
          subst h6
          have h7 : y7 = _ := h7
          subst h7
          have h8 : y8 = _ := h8
          subst h8
          simp only [Region.wanted, Inr.yieldedD, Inr.dst, List.getD_cons_zero, List.getD_cons_succ]
          go_simp
          refine hK.out _ _ (Eq.refl _) (Below.refl _ _) (Inr.noTies _ _ _ _ _)
        · have hl8 : vs 8 = .slice (some ⟨g, 0, none⟩) LL cl := hv 8 (by omega)
          have hl9 : vs 9 = .bool (same xt ts) := hv 9 (by omega)
          have HVQ := Lib.hid (HVW.out.below hbq)
          clear hv
          simp only [List.range, List.range.loop, Inr.putD, Inr.dst, List.foldl_cons, List.foldl_nil, List.getD_cons_zero, List.getD_cons_succ, Act.put, List.setIfInBounds_toArray, List.set_cons_zero, List.set_cons_succ]
          simp only [List.drop_succ_cons, List.drop_zero]
          generalize vs 0 = yy0 at *
          generalize vs 1 = yy1 at *
          generalize vs 2 = yy2 at *
          generalize vs 3 = yy3 at *
          generalize vs 4 = yy4 at *
          generalize vs 5 = yy5 at *
          generalize vs 6 = yy6 at *
          generalize vs 7 = yy7 at *
          generalize vs 8 = yy8 at *
          generalize vs 9 = yy9 at *
          subst hl8 hl9
          go_wp2
          refine bodyPost_ret (v := .tuple #[.slice (some ⟨g, 0, none⟩) LL cl, .bool (same xt ts)]) (by simp [results, Tryd.results24, go_sem]) rfl ?_
          refine ⟨_, _, _, _, rfl, fun h => ?_, fun h => ?_, HB0.out.trans (hbq.mono HB0.out.size)⟩
          · rw [mrec_old HF.out, h]; rfl
          · exact ⟨L, by rw [mrec_old HF.out, if_pos h], HVQ.out⟩
    · have HK := Lib.hid hk
      have hk' : (k1 == 1) = false := by simpa using hk
      have ets := HTS.out
      subst ets
      clear hk
      have x0 := hb_at J1.out 0 rfl
      have x1 := hb_at J1.out 1 rfl
      have x2 := hb_at J1.out 2 rfl
      have x3 := hb_at J1.out 3 rfl
      have x4 := hb_at J1.out 4 rfl
      have y0 := hb_at J2.out 0 rfl
      have y1 := hb_at J2.out 1 rfl
      have y2 := hb_at J2.out 2 rfl
      have y3 := hb_at J2.out 3 rfl
      have y4 := hb_at J2.out 4 rfl
      by_cases hkk : k1 = k2
      rotate_left
      · skip
        go_enter Tryd.func24, Tryd.ntmps24
        go_wp2
        refine bodyPost_ret (v := .tuple #[.slice none 0 0, .bool false]) (by simp [results, Tryd.results24, go_sem]) rfl ?_
        exact ⟨_, _, _, _, rfl, (fun _ => mrec_no HK.out (fun h => hkk h.1)), (fun h => by cases h), HB0.out⟩
      subst hkk
      by_cases hp : p1 = p2
      rotate_left
      · have hp' : ¬ p1.toList = p2.toList := fun h => hp (toList_inj h)
        have HP := Lib.hid hp
        clear hp
        go_enter Tryd.func24, Tryd.ntmps24
        go_wp2
        refine bodyPost_ret (v := .tuple #[.slice none 0 0, .bool false]) (by simp [results, Tryd.results24, go_sem]) rfl ?_
        exact ⟨_, _, _, _, rfl, (fun _ => mrec_no HK.out (fun h => HP.out h.2.1)), (fun h => by cases h), HB0.out⟩
      subst hp
      by_cases hn : n1 = n2
      rotate_left
      · have hn' : ¬ n1.toList = n2.toList := fun h => hn (toList_inj h)
        have HP := Lib.hid hn
        clear hn
        go_enter Tryd.func24, Tryd.ntmps24
        go_wp2
        refine bodyPost_ret (v := .tuple #[.slice none 0 0, .bool false]) (by simp [results, Tryd.results24, go_sem]) rfl ?_
        exact ⟨_, _, _, _, rfl, (fun _ => mrec_no HK.out (fun h => HP.out h.2.2.1)), (fun h => by cases h), HB0.out⟩
      subst hn
      by_cases hN : N1 = N2
      rotate_left
      · skip
        go_enter Tryd.func24, Tryd.ntmps24
        go_wp2
        refine bodyPost_ret (v := .tuple #[.slice none 0 0, .bool false]) (by simp [results, Tryd.results24, go_sem]) rfl ?_
        exact ⟨_, _, _, _, rfl, (fun _ => mrec_no HK.out (fun h => hN h.2.2.2.1)), (fun h => by cases h), HB0.out⟩
      subst hN
      by_cases hL : L1 = L2
      rotate_left
      · have hl' : ((L1 : Int) != (L2 : Int)) = true := by simp; omega
        have HP : RowKit.Hid (l1.length ≠ l2.length) := Lib.hid (by omega)
        clear hL
        go_enter Tryd.func24, Tryd.ntmps24
        go_wp2
        refine bodyPost_ret (v := .tuple #[.slice none 0 0, .bool false]) (by simp [results, Tryd.results24, go_sem]) rfl ?_
        exact ⟨_, _, _, _, rfl, (fun _ => mrec_no HK.out (fun h => HP.out h.2.2.2.2)), (fun h => by cases h), HB0.out⟩
      subst hL
      have HLE : RowKit.Hid (l1.length = l2.length) := Lib.hid (by omega)
      have HVW := Lib.hid (HV.out.below HB0.out)
      go_enter Tryd.func24, Tryd.ntmps24
      go_wp2
      generalize hWW : (w.alloc (.cells #[.int .i64 k1, .string p1, .string n1, .int .i64 N1, .slice q1 L1 c1] 24)).alloc (.cells #[.int .i64 k1, .string p1, .string n1, .int .i64 N1, .slice q2 L1 c2] 24) = W0 at *
      clear x0 x1 x2 x3 x4 y0 y1 y2 y3 y4
      go_loopw [0, 9] (fun lv i wr => ∃ j : Nat, j ≤ L1 ∧ i = .int .i64 j ∧ Below W0.heap.size W0 wr ∧ ∃ M, mrecTo d j L l1 l2 = some M ∧ VAt wr D lv M) (fun _ i _ => L1 - (intOf i).toNat)
      case atStart => exact ⟨0, Nat.zero_le _, rfl, Below.refl _ _, L, rfl, HVW.out⟩
      case round =>
        obtain ⟨j, hj, rfl, hBL, M, hM, hV⟩ := hrel
        have HBL := Lib.hid hBL
        have HM := Lib.hid hM
        have HVR := Lib.hid hV
        obtain ⟨qm, cm, rfl⟩ := hV.shape
        have HMM : RowKit.Hid (M.length = M.length) := Lib.hid rfl
        generalize hml : M.length = ML at *
        have HML := Lib.hid hml
        have hlt1 := hb_lt J1.out
        have hlt2 := hb_lt J2.out
        have K1 := Lib.hid (hb_below J1.out hBL hlt1)
        have K2 := Lib.hid (hb_below J2.out hBL hlt2)
        have hzr := hBL.size
        clear hM hV hBL hml
        by_cases hlt : (j : Int) < (L1 : Int)
        · have hx : l1[j]? = some (l1[j]'(by have := HL1.out; omega)) := List.getElem?_eq_getElem (by have := HL1.out; omega)
          have hy : l2[j]? = some (l2[j]'(by have := HL2.out; omega)) := List.getElem?_eq_getElem (by have := HL2.out; omega)
          have HROOM := Lib.hid (mrecTo_len (k := k1) (N := N1) (p := p1) (n := n1) HLE.out HM.out hx (by rw [HLL.out]; exact HR.out))
          have HNEXT := Lib.hid (mrecTo_next (d := d) (L := L) hx hy)
          rw [HM.out] at HNEXT
          obtain ⟨ga, oa, k3, p3, n3, N3, s3, e1, e2, e3⟩ := HK1.out j _ hx
          obtain ⟨gb, ob, k4, p4, n4, N4, s4, f1, f2, f3⟩ := HK2.out j _ hy
          subst e1
          subst f1
          generalize l1[j]'(by have := HL1.out; omega) = tx at *
          generalize l2[j]'(by have := HL2.out; omega) = ty at *
          obtain ⟨q3, l3, c3, rfl⟩ := e3.spell
          obtain ⟨q4, l4, c4, rfl⟩ := f3.spell
          have hBW : Below w.heap.size w wr := HB0.out.trans (HBL.out.mono HB0.out.size)
          have E2 := Lib.hid (e2.below hBW e2.lt)
          have F2 := Lib.hid (f2.below hBW f2.lt)
          have E3 := Lib.hid (e3.below hBW)
          have F3 := Lib.hid ((f3.below hBW).more (Nat.le_trans (Nat.le_succ _) HES2.out))
          clear hx hy e2 e3 f2 f3 hBW
          have z0 := hb_at K1.out 4 rfl
          go_upto_region 11 with fail
          clear z0
          have HCALL : RowKit.Hid (∀ W, Below wr.heap.size wr W → Calls Tryd.prog 24 #[.slice qm ML cm, tv k3 p3 n3 N3 (.slice q3 l3 c3), tv k4 p4 n4 N4 (.slice q4 l4 c4)] W (DocR d D M tx ty W)) := Lib.hid fun W hW => HIH.out _ _ _ M tx ty W (HVR.out.below hW) (E3.out.below hW) (F3.out.below hW) HROOM.out
          cases hmr : mrec d M tx ty with
          | none =>
            skip
            refine Inr.region (by kernel_rfl) 17 [some 81, some 82, some 83, some 84, some 85, some 86, some 87, some 88, some 89, some 90, some 91, some 92, some 80, some 93, some 94, some 10, some 11] [[], [], [1], [], [2, 3], [4], [], [6], [], [7, 8], [9], [0, 5, 10], [11], [12], [12], [13, 11, 0, 1, 2, 3, 4, 5, 6, 7, 8, 9, 10, 11, 12, 13], [14, 15, 0, 1, 2, 3, 4, 5, 6, 7, 8, 9, 10, 11, 12, 13, 14, 15]] (by kernel_rfl) (by kernel_rfl) (by kernel_rfl) (by kernel_rfl) [Inr.MP.is (.slice qm ML cm), Inr.MP.is (.pointer (some ⟨w.heap.size, 4, none⟩)), Inr.MP.is (.slice (some ⟨ga, oa, none⟩) L1 c1), Inr.MP.is (.int .i64 j), Inr.MP.is (.pointer (some ⟨ga, oa + j * 5, none⟩)), Inr.MP.is (tv k3 p3 n3 N3 (.slice q3 l3 c3)), Inr.MP.is (.pointer (some ⟨w.heap.size + 1, 4, none⟩)), Inr.MP.is (.slice (some ⟨gb, ob, none⟩) L1 c2), Inr.MP.is (.int .i64 j), Inr.MP.is (.pointer (some ⟨gb, ob + j * 5, none⟩)), Inr.MP.is (tv k4 p4 n4 N4 (.slice q4 l4 c4)), Inr.MP.docN, Inr.MP.docN, Inr.MP.slc, Inr.MP.is (.bool false), Inr.MP.slc, Inr.MP.is (.bool false)] [] (by intro x hx; cases hx) ⟨?_, ?_, ?_, ?_, ?_, ?_, ?_, ?_, ?_, ?_, ?_, ?_, ?_, ?_, ?_, ?_, ?_, trivial⟩ (fun vs wq hbq hv htie => ?_)
            · intro vs w' hb hv K hK
              clear hv
              have hK2 := hK.out
              clear hK
              simp only [Inr.putD, Inr.dst, List.foldl_cons, List.foldl_nil, List.getD_cons_zero, List.getD_cons_succ, Act.put, List.setIfInBounds_toArray, List.set_cons_zero, List.set_cons_succ] at hK2 ⊢
              have hK := Lib.hid hK2
              clear hK2
              simp only [Region.wanted, Inr.yieldedD, Inr.dst, List.getD_cons_zero, List.getD_cons_succ]
              go_simp
              refine hK.out _ _ (Eq.refl _) (Below.refl _ _) (Inr.noTies _ _ _ _ _)
            · intro vs w' hb hv K hK
              clear hv
              have hK2 := hK.out
              clear hK
              simp only [Inr.putD, Inr.dst, List.foldl_cons, List.foldl_nil, List.getD_cons_zero, List.getD_cons_succ, Act.put, List.setIfInBounds_toArray, List.set_cons_zero, List.set_cons_succ] at hK2 ⊢
              have hK := Lib.hid hK2
              clear hK2
              simp only [Region.wanted, Inr.yieldedD, Inr.dst, List.getD_cons_zero, List.getD_cons_succ]
              go_simp
              refine hK.out _ _ (Eq.refl _) (Below.refl _ _) (Inr.noTies _ _ _ _ _)
            · intro vs w' hb hv K hK
              have h1 : (Inr.MP.is (.pointer (some ⟨w.heap.size, 4, none⟩))).p (vs 1) w' := hv 1 (by simp)
              clear hv
              have hK2 := hK.out
              clear hK
              simp only [Inr.putD, Inr.dst, List.foldl_cons, List.foldl_nil, List.getD_cons_zero, List.getD_cons_succ, Act.put, List.setIfInBounds_toArray, List.set_cons_zero, List.set_cons_succ] at hK2 ⊢
              have hK := Lib.hid hK2
              clear hK2
              generalize vs 1 = y1 at *
              have h1 : y1 = _ := h1
              subst h1
              have z4 := hb_at (hb_below K1.out hb (hb_lt K1.out)) 4 rfl
              simp only [Region.wanted, Inr.yieldedD, Inr.dst, List.getD_cons_zero, List.getD_cons_succ]
              go_simp
              refine hK.out _ _ (Eq.refl _) (Below.refl _ _) (Inr.noTies _ _ _ _ _)
            · intro vs w' hb hv K hK
              clear hv
              have hK2 := hK.out
              clear hK
              simp only [Inr.putD, Inr.dst, List.foldl_cons, List.foldl_nil, List.getD_cons_zero, List.getD_cons_succ, Act.put, List.setIfInBounds_toArray, List.set_cons_zero, List.set_cons_succ] at hK2 ⊢
              have hK := Lib.hid hK2
              clear hK2
              simp only [Region.wanted, Inr.yieldedD, Inr.dst, List.getD_cons_zero, List.getD_cons_succ]
              go_simp
              refine hK.out _ _ (Eq.refl _) (Below.refl _ _) (Inr.noTies _ _ _ _ _)
            · intro vs w' hb hv K hK
              have h2 : (Inr.MP.is (.slice (some ⟨ga, oa, none⟩) L1 c1)).p (vs 2) w' := hv 2 (by simp)
              have h3 : (Inr.MP.is (.int .i64 j)).p (vs 3) w' := hv 3 (by simp)
              clear hv
              have hK2 := hK.out
              clear hK
              simp only [Inr.putD, Inr.dst, List.foldl_cons, List.foldl_nil, List.getD_cons_zero, List.getD_cons_succ, Act.put, List.setIfInBounds_toArray, List.set_cons_zero, List.set_cons_succ] at hK2 ⊢
              have hK := Lib.hid hK2
              clear hK2
              generalize vs 2 = y2 at *
              generalize vs 3 = y3 at *
              have h2 : y2 = _ := h2
              subst h2
              have h3 : y3 = _ := h3
              subst h3
              simp only [Region.wanted, Inr.yieldedD, Inr.dst, List.getD_cons_zero, List.getD_cons_succ]
              go_simp
              refine hK.out _ _ (Eq.refl _) (Below.refl _ _) (Inr.noTies _ _ _ _ _)
            · intro vs w' hb hv K hK
              have h4 : (Inr.MP.is (.pointer (some ⟨ga, oa + j * 5, none⟩))).p (vs 4) w' := hv 4 (by simp)
              clear hv
              have hK2 := hK.out
              clear hK
              simp only [Inr.putD, Inr.dst, List.foldl_cons, List.foldl_nil, List.getD_cons_zero, List.getD_cons_succ, Act.put, List.setIfInBounds_toArray, List.set_cons_zero, List.set_cons_succ] at hK2 ⊢
              have hK := Lib.hid hK2
              clear hK2
              generalize vs 4 = y4 at *
              have h4 : y4 = _ := h4
              subst h4
              obtain ⟨z0, z1, z2, z3, z4⟩ := E2.out.below hb E2.out.lt
              simp only [Region.wanted, Inr.yieldedD, Inr.dst, List.getD_cons_zero, List.getD_cons_succ]
              go_simp
              refine hK.out _ _ (Eq.refl _) (Below.refl _ _) (Inr.noTies _ _ _ _ _)
            · intro vs w' hb hv K hK
              clear hv
              have hK2 := hK.out
              clear hK
              simp only [Inr.putD, Inr.dst, List.foldl_cons, List.foldl_nil, List.getD_cons_zero, List.getD_cons_succ, Act.put, List.setIfInBounds_toArray, List.set_cons_zero, List.set_cons_succ] at hK2 ⊢
              have hK := Lib.hid hK2
              clear hK2
              simp only [Region.wanted, Inr.yieldedD, Inr.dst, List.getD_cons_zero, List.getD_cons_succ]
              go_simp
              refine hK.out _ _ (Eq.refl _) (Below.refl _ _) (Inr.noTies _ _ _ _ _)
            · intro vs w' hb hv K hK
              have h6 : (Inr.MP.is (.pointer (some ⟨w.heap.size + 1, 4, none⟩))).p (vs 6) w' := hv 6 (by simp)
              clear hv
              have hK2 := hK.out
              clear hK
              simp only [Inr.putD, Inr.dst, List.foldl_cons, List.foldl_nil, List.getD_cons_zero, List.getD_cons_succ, Act.put, List.setIfInBounds_toArray, List.set_cons_zero, List.set_cons_succ] at hK2 ⊢
              have hK := Lib.hid hK2
              clear hK2
              generalize vs 6 = y6 at *
              have h6 : y6 = _ := h6
              subst h6
              have z4 := hb_at (hb_below K2.out hb (hb_lt K2.out)) 4 rfl
              simp only [Region.wanted, Inr.yieldedD, Inr.dst, List.getD_cons_zero, List.getD_cons_succ]
              go_simp
              refine hK.out _ _ (Eq.refl _) (Below.refl _ _) (Inr.noTies _ _ _ _ _)
            · intro vs w' hb hv K hK
              clear hv
              have hK2 := hK.out
              clear hK
              simp only [Inr.putD, Inr.dst, List.foldl_cons, List.foldl_nil, List.getD_cons_zero, List.getD_cons_succ, Act.put, List.setIfInBounds_toArray, List.set_cons_zero, List.set_cons_succ] at hK2 ⊢
              have hK := Lib.hid hK2
              clear hK2
              simp only [Region.wanted, Inr.yieldedD, Inr.dst, List.getD_cons_zero, List.getD_cons_succ]
              go_simp
              refine hK.out _ _ (Eq.refl _) (Below.refl _ _) (Inr.noTies _ _ _ _ _)
            · intro vs w' hb hv K hK
              have h7 : (Inr.MP.is (.slice (some ⟨gb, ob, none⟩) L1 c2)).p (vs 7) w' := hv 7 (by simp)
              have h8 : (Inr.MP.is (.int .i64 j)).p (vs 8) w' := hv 8 (by simp)
              clear hv
              have hK2 := hK.out
              clear hK
              simp only [Inr.putD, Inr.dst, List.foldl_cons, List.foldl_nil, List.getD_cons_zero, List.getD_cons_succ, Act.put, List.setIfInBounds_toArray, List.set_cons_zero, List.set_cons_succ] at hK2 ⊢
              have hK := Lib.hid hK2
              clear hK2
              generalize vs 7 = y7 at *
              generalize vs 8 = y8 at *
              have h7 : y7 = _ := h7
              subst h7
              have h8 : y8 = _ := h8
              subst h8
              simp only [Region.wanted, Inr.yieldedD, Inr.dst, List.getD_cons_zero, List.getD_cons_succ]
              go_simp
              refine hK.out _ _ (Eq.refl _) (Below.refl _ _) (Inr.noTies _ _ _ _ _)
            · intro vs w' hb hv K hK
              have h9 : (Inr.MP.is (.pointer (some ⟨gb, ob + j * 5, none⟩))).p (vs 9) w' := hv 9 (by simp)
              clear hv
              have hK2 := hK.out
              clear hK
              simp only [Inr.putD, Inr.dst, List.foldl_cons, List.foldl_nil, List.getD_cons_zero, List.getD_cons_succ, Act.put, List.setIfInBounds_toArray, List.set_cons_zero, List.set_cons_succ] at hK2 ⊢
              have hK := Lib.hid hK2
              clear hK2
              generalize vs 9 = y9 at *
              have h9 : y9 = _ := h9
              subst h9
              obtain ⟨z0, z1, z2, z3, z4⟩ := F2.out.below hb F2.out.lt
              simp only [Region.wanted, Inr.yieldedD, Inr.dst, List.getD_cons_zero, List.getD_cons_succ]
              go_simp
              refine hK.out _ _ (Eq.refl _) (Below.refl _ _) (Inr.noTies _ _ _ _ _)
            · intro vs w' hb hv K hK
              have h0 : (Inr.MP.is (.slice qm ML cm)).p (vs 0) w' := hv 0 (by simp)
              have h5 : (Inr.MP.is (tv k3 p3 n3 N3 (.slice q3 l3 c3))).p (vs 5) w' := hv 5 (by simp)
              have h10 : (Inr.MP.is (tv k4 p4 n4 N4 (.slice q4 l4 c4))).p (vs 10) w' := hv 10 (by simp)
              clear hv
              have hK2 := hK.out
              clear hK
              simp only [Inr.putD, Inr.dst, List.foldl_cons, List.foldl_nil, List.getD_cons_zero, List.getD_cons_succ, Act.put, List.setIfInBounds_toArray, List.set_cons_zero, List.set_cons_succ] at hK2 ⊢
              have hK := Lib.hid hK2
              clear hK2
              generalize vs 0 = y0 at *
              generalize vs 5 = y5 at *
              generalize vs 10 = y10 at *
              have h0 : y0 = _ := h0
              subst h0
              have h5 : y5 = _ := h5
              subst h5
              have h10 : y10 = _ := h10
              subst h10
              simp only [Region.wanted, Inr.yieldedD, Inr.dst, List.getD_cons_zero, List.getD_cons_succ]
              go_simp
              ((with_reducible refine (HCALL.out w' hb).mono ?_); rintro e w5 ⟨q5, l5, c5, r5, rfl, hn5, hy5, hb5⟩)
              obtain rfl : r5 = false := (by cases r5 with | false => rfl | true => obtain ⟨M5, hm5, _⟩ := hy5 rfl; rw [hmr] at hm5; cases hm5)
              go_wp2_with fail
              refine hK.out _ _ ⟨_, _, _, rfl⟩ hb5 (Inr.noTies _ _ _ _ _)
            · intro vs w' hb hv K hK
              have h11 : ∃ q l c, (vs 11) = .tuple #[.slice q l c, .bool false] := hv 11 (by simp)
              clear hv
              have hK2 := hK.out
              clear hK
              simp only [Inr.putD, Inr.dst, List.foldl_cons, List.foldl_nil, List.getD_cons_zero, List.getD_cons_succ, Act.put, List.setIfInBounds_toArray, List.set_cons_zero, List.set_cons_succ] at hK2 ⊢
              have hK := Lib.hid hK2
              clear hK2
              generalize vs 11 = y11 at *
              obtain ⟨q6, l6, c6, rfl⟩ := (show ∃ q l c, y11 = .tuple #[.slice q l c, .bool false] from h11)
              simp only [Region.wanted, Inr.yieldedD, Inr.dst, List.getD_cons_zero, List.getD_cons_succ]
              go_simp
              refine hK.out _ _ ⟨_, _, _, rfl⟩ (Below.refl _ _) (Inr.noTies _ _ _ _ _)
            · intro vs w' hb hv K hK
              have h12 : ∃ q l c, (vs 12) = .tuple #[.slice q l c, .bool false] := hv 12 (by simp)
              clear hv
              have hK2 := hK.out
              clear hK
              simp only [Inr.putD, Inr.dst, List.foldl_cons, List.foldl_nil, List.getD_cons_zero, List.getD_cons_succ, Act.put, List.setIfInBounds_toArray, List.set_cons_zero, List.set_cons_succ] at hK2 ⊢
              have hK := Lib.hid hK2
              clear hK2
              generalize vs 12 = y12 at *
              obtain ⟨q6, l6, c6, rfl⟩ := (show ∃ q l c, y12 = .tuple #[.slice q l c, .bool false] from h12)
              simp only [Region.wanted, Inr.yieldedD, Inr.dst, List.getD_cons_zero, List.getD_cons_succ]
              go_simp
              refine hK.out _ _ ⟨_, _, _, rfl⟩ (Below.refl _ _) (Inr.noTies _ _ _ _ _)
            · intro vs w' hb hv K hK
              have h12 : ∃ q l c, (vs 12) = .tuple #[.slice q l c, .bool false] := hv 12 (by simp)
              clear hv
              have hK2 := hK.out
              clear hK
              simp only [Inr.putD, Inr.dst, List.foldl_cons, List.foldl_nil, List.getD_cons_zero, List.getD_cons_succ, Act.put, List.setIfInBounds_toArray, List.set_cons_zero, List.set_cons_succ] at hK2 ⊢
              have hK := Lib.hid hK2
              clear hK2
              generalize vs 12 = y12 at *
              obtain ⟨q6, l6, c6, rfl⟩ := (show ∃ q l c, y12 = .tuple #[.slice q l c, .bool false] from h12)
              simp only [Region.wanted, Inr.yieldedD, Inr.dst, List.getD_cons_zero, List.getD_cons_succ]
              go_simp
              refine hK.out _ _ (Eq.refl _) (Below.refl _ _) (Inr.noTies _ _ _ _ _)
            · intro vs w' hb hv K hK
              have h0 : (Inr.MP.is (.slice qm ML cm)).p (vs 0) w' := hv 0 (by simp)
              have h1 : (Inr.MP.is (.pointer (some ⟨w.heap.size, 4, none⟩))).p (vs 1) w' := hv 1 (by simp)
              have h2 : (Inr.MP.is (.slice (some ⟨ga, oa, none⟩) L1 c1)).p (vs 2) w' := hv 2 (by simp)
              have h3 : (Inr.MP.is (.int .i64 j)).p (vs 3) w' := hv 3 (by simp)
              have h4 : (Inr.MP.is (.pointer (some ⟨ga, oa + j * 5, none⟩))).p (vs 4) w' := hv 4 (by simp)
              have h5 : (Inr.MP.is (tv k3 p3 n3 N3 (.slice q3 l3 c3))).p (vs 5) w' := hv 5 (by simp)
              have h6 : (Inr.MP.is (.pointer (some ⟨w.heap.size + 1, 4, none⟩))).p (vs 6) w' := hv 6 (by simp)
              have h7 : (Inr.MP.is (.slice (some ⟨gb, ob, none⟩) L1 c2)).p (vs 7) w' := hv 7 (by simp)
              have h8 : (Inr.MP.is (.int .i64 j)).p (vs 8) w' := hv 8 (by simp)
              have h9 : (Inr.MP.is (.pointer (some ⟨gb, ob + j * 5, none⟩))).p (vs 9) w' := hv 9 (by simp)
              have h10 : (Inr.MP.is (tv k4 p4 n4 N4 (.slice q4 l4 c4))).p (vs 10) w' := hv 10 (by simp)
              have h11 : ∃ q l c, (vs 11) = .tuple #[.slice q l c, .bool false] := hv 11 (by simp)
              have h12 : ∃ q l c, (vs 12) = .tuple #[.slice q l c, .bool false] := hv 12 (by simp)
              have h13 : ∃ q l c, (vs 13) = .slice q l c := hv 13 (by simp)
              clear hv
              have hK2 := hK.out
              clear hK
              simp only [Inr.putD, Inr.dst, List.foldl_cons, List.foldl_nil, List.getD_cons_zero, List.getD_cons_succ, Act.put, List.setIfInBounds_toArray, List.set_cons_zero, List.set_cons_succ] at hK2 ⊢
              have hK := Lib.hid hK2
              clear hK2
              generalize vs 0 = y0 at *
              generalize vs 1 = y1 at *
              generalize vs 2 = y2 at *
              generalize vs 3 = y3 at *
              generalize vs 4 = y4 at *
              generalize vs 5 = y5 at *
              generalize vs 6 = y6 at *
              generalize vs 7 = y7 at *
              generalize vs 8 = y8 at *
              generalize vs 9 = y9 at *
              generalize vs 10 = y10 at *
              generalize vs 11 = y11 at *
              generalize vs 12 = y12 at *
              generalize vs 13 = y13 at *
              have h0 : y0 = _ := h0
              subst h0
              have h1 : y1 = _ := h1
              subst h1
              have h2 : y2 = _ := h2
              subst h2
              have h3 : y3 = _ := h3
              subst h3
              have h4 : y4 = _ := h4
              subst h4
              have h5 : y5 = _ := h5
              subst h5
              have h6 : y6 = _ := h6
              subst h6
              have h7 : y7 = _ := h7
              subst h7
              have h8 : y8 = _ := h8
              subst h8
              have h9 : y9 = _ := h9
              subst h9
              have h10 : y10 = _ := h10
              subst h10
              simp only [Region.wanted, Inr.yieldedD, Inr.dst, List.getD_cons_zero, List.getD_cons_succ]
              go_simp
              refine hK.out _ _ h13 (Below.refl _ _) (Inr.noTies _ _ _ _ _)
            · intro vs w' hb hv K hK
              have h0 : (Inr.MP.is (.slice qm ML cm)).p (vs 0) w' := hv 0 (by simp)
              have h1 : (Inr.MP.is (.pointer (some ⟨w.heap.size, 4, none⟩))).p (vs 1) w' := hv 1 (by simp)
              have h2 : (Inr.MP.is (.slice (some ⟨ga, oa, none⟩) L1 c1)).p (vs 2) w' := hv 2 (by simp)
              have h3 : (Inr.MP.is (.int .i64 j)).p (vs 3) w' := hv 3 (by simp)
              have h4 : (Inr.MP.is (.pointer (some ⟨ga, oa + j * 5, none⟩))).p (vs 4) w' := hv 4 (by simp)
              have h5 : (Inr.MP.is (tv k3 p3 n3 N3 (.slice q3 l3 c3))).p (vs 5) w' := hv 5 (by simp)
              have h6 : (Inr.MP.is (.pointer (some ⟨w.heap.size + 1, 4, none⟩))).p (vs 6) w' := hv 6 (by simp)
              have h7 : (Inr.MP.is (.slice (some ⟨gb, ob, none⟩) L1 c2)).p (vs 7) w' := hv 7 (by simp)
              have h8 : (Inr.MP.is (.int .i64 j)).p (vs 8) w' := hv 8 (by simp)
              have h9 : (Inr.MP.is (.pointer (some ⟨gb, ob + j * 5, none⟩))).p (vs 9) w' := hv 9 (by simp)
              have h10 : (Inr.MP.is (tv k4 p4 n4 N4 (.slice q4 l4 c4))).p (vs 10) w' := hv 10 (by simp)
              have h11 : ∃ q l c, (vs 11) = .tuple #[.slice q l c, .bool false] := hv 11 (by simp)
              have h12 : ∃ q l c, (vs 12) = .tuple #[.slice q l c, .bool false] := hv 12 (by simp)
              have h13 : ∃ q l c, (vs 13) = .slice q l c := hv 13 (by simp)
              have h14 : (Inr.MP.is (.bool false)).p (vs 14) w' := hv 14 (by simp)
              have h15 : ∃ q l c, (vs 15) = .slice q l c := hv 15 (by simp)
              clear hv
              have hK2 := hK.out
              clear hK
              simp only [Inr.putD, Inr.dst, List.foldl_cons, List.foldl_nil, List.getD_cons_zero, List.getD_cons_succ, Act.put, List.setIfInBounds_toArray, List.set_cons_zero, List.set_cons_succ] at hK2 ⊢
              have hK := Lib.hid hK2
              clear hK2
              generalize vs 0 = y0 at *
              generalize vs 1 = y1 at *
              generalize vs 2 = y2 at *
              generalize vs 3 = y3 at *
              generalize vs 4 = y4 at *
              generalize vs 5 = y5 at *
              generalize vs 6 = y6 at *
              generalize vs 7 = y7 at *
              generalize vs 8 = y8 at *
              generalize vs 9 = y9 at *
              generalize vs 10 = y10 at *
              generalize vs 11 = y11 at *
              generalize vs 12 = y12 at *
              generalize vs 13 = y13 at *
              generalize vs 14 = y14 at *
              generalize vs 15 = y15 at *
              have h0 : y0 = _ := h0
              subst h0
              have h1 : y1 = _ := h1
              subst h1
              have h2 : y2 = _ := h2
              subst h2
              have h3 : y3 = _ := h3
              subst h3
              have h4 : y4 = _ := h4
              subst h4
              have h5 : y5 = _ := h5
              subst h5
              have h6 : y6 = _ := h6
              subst h6
              have h7 : y7 = _ := h7
              subst h7
              have h8 : y8 = _ := h8
              subst h8
              have h9 : y9 = _ := h9
              subst h9
              have h10 : y10 = _ := h10
              subst h10
              have h14 : y14 = _ := h14
              subst h14
              simp only [Region.wanted, Inr.yieldedD, Inr.dst, List.getD_cons_zero, List.getD_cons_succ]
              go_simp
              refine hK.out _ _ (Eq.refl _) (Below.refl _ _) (Inr.noTies _ _ _ _ _)
            · have h16 : vs 16 = .bool false := hv 16 (by omega)
              clear hv
              simp only [List.range, List.range.loop, Inr.putD, Inr.dst, List.foldl_cons, List.foldl_nil, List.getD_cons_zero, List.getD_cons_succ, Act.put, List.setIfInBounds_toArray, List.set_cons_zero, List.set_cons_succ]
              simp only [List.drop_succ_cons, List.drop_zero]
              generalize vs 0 = yy0 at *
              generalize vs 1 = yy1 at *
              generalize vs 2 = yy2 at *
              generalize vs 3 = yy3 at *
              generalize vs 4 = yy4 at *
              generalize vs 5 = yy5 at *
              generalize vs 6 = yy6 at *
              generalize vs 7 = yy7 at *
              generalize vs 8 = yy8 at *
              generalize vs 9 = yy9 at *
              generalize vs 10 = yy10 at *
              generalize vs 11 = yy11 at *
              generalize vs 12 = yy12 at *
              generalize vs 13 = yy13 at *
              generalize vs 14 = yy14 at *
              generalize vs 15 = yy15 at *
              generalize vs 16 = yy16 at *
              subst h16
              have HQ := Lib.hid (HB0.out.trans ((HBL.out.trans (hbq.mono HBL.out.size)).mono HB0.out.size))
              have HNN : RowKit.Hid (mrecTo d (j + 1) L l1 l2 = none) := Lib.hid (by rw [HNEXT.out]; exact hmr)
              clear hbq hmr
              go_wp2
              refine bodyPost_ret (v := .tuple #[.slice none 0 0, .bool false]) (by simp [results, Tryd.results24, go_sem]) rfl ?_
              exact ⟨_, _, _, _, rfl, (fun _ => by rw [← mrecTo_all HK.out HLE.out]; exact mrecTo_none HNN.out (by have := HL1.out; omega)), (fun h => by cases h), HQ.out⟩
          | some M' =>
            skip
            refine Inr.region (by kernel_rfl) 17 [some 81, some 82, some 83, some 84, some 85, some 86, some 87, some 88, some 89, some 90, some 91, some 92, some 80, some 93, some 94, some 10, some 11] [[], [], [1], [], [2, 3], [4], [], [6], [], [7, 8], [9], [0, 5, 10], [11], [12], [12], [13, 11, 0, 1, 2, 3, 4, 5, 6, 7, 8, 9, 10, 11, 12, 13], [14, 15, 0, 1, 2, 3, 4, 5, 6, 7, 8, 9, 10, 11, 12, 13, 14, 15]] (by kernel_rfl) (by kernel_rfl) (by kernel_rfl) (by kernel_rfl) [Inr.MP.is (.slice qm ML cm), Inr.MP.is (.pointer (some ⟨w.heap.size, 4, none⟩)), Inr.MP.is (.slice (some ⟨ga, oa, none⟩) L1 c1), Inr.MP.is (.int .i64 j), Inr.MP.is (.pointer (some ⟨ga, oa + j * 5, none⟩)), Inr.MP.is (tv k3 p3 n3 N3 (.slice q3 l3 c3)), Inr.MP.is (.pointer (some ⟨w.heap.size + 1, 4, none⟩)), Inr.MP.is (.slice (some ⟨gb, ob, none⟩) L1 c2), Inr.MP.is (.int .i64 j), Inr.MP.is (.pointer (some ⟨gb, ob + j * 5, none⟩)), Inr.MP.is (tv k4 p4 n4 N4 (.slice q4 l4 c4)), Inr.MP.docT D M', Inr.MP.docT D M', Inr.MP.vat D M', Inr.MP.is (.bool true), Inr.MP.vat D M', Inr.MP.is (.bool true)] [] (by intro x hx; cases hx) ⟨?_, ?_, ?_, ?_, ?_, ?_, ?_, ?_, ?_, ?_, ?_, ?_, ?_, ?_, ?_, ?_, ?_, trivial⟩ (fun vs wq hbq hv htie => ?_)
            · intro vs w' hb hv K hK
              clear hv
              have hK2 := hK.out
              clear hK
              simp only [Inr.putD, Inr.dst, List.foldl_cons, List.foldl_nil, List.getD_cons_zero, List.getD_cons_succ, Act.put, List.setIfInBounds_toArray, List.set_cons_zero, List.set_cons_succ] at hK2 ⊢
              have hK := Lib.hid hK2
              clear hK2
              simp only [Region.wanted, Inr.yieldedD, Inr.dst, List.getD_cons_zero, List.getD_cons_succ]
              go_simp
              refine hK.out _ _ (Eq.refl _) (Below.refl _ _) (Inr.noTies _ _ _ _ _)
            · intro vs w' hb hv K hK
              clear hv
              have hK2 := hK.out
              clear hK
              simp only [Inr.putD, Inr.dst, List.foldl_cons, List.foldl_nil, List.getD_cons_zero, List.getD_cons_succ, Act.put, List.setIfInBounds_toArray, List.set_cons_zero, List.set_cons_succ] at hK2 ⊢
              have hK := Lib.hid hK2
              clear hK2
              simp only [Region.wanted, Inr.yieldedD, Inr.dst, List.getD_cons_zero, List.getD_cons_succ]
              go_simp
              refine hK.out _ _ (Eq.refl _) (Below.refl _ _) (Inr.noTies _ _ _ _ _)
            · intro vs w' hb hv K hK
              have h1 : (Inr.MP.is (.pointer (some ⟨w.heap.size, 4, none⟩))).p (vs 1) w' := hv 1 (by simp)
              clear hv
              have hK2 := hK.out
              clear hK
              simp only [Inr.putD, Inr.dst, List.foldl_cons, List.foldl_nil, List.getD_cons_zero, List.getD_cons_succ, Act.put, List.setIfInBounds_toArray, List.set_cons_zero, List.set_cons_succ] at hK2 ⊢
              have hK := Lib.hid hK2
              clear hK2
              generalize vs 1 = y1 at *
              have h1 : y1 = _ := h1
              subst h1
              have z4 := hb_at (hb_below K1.out hb (hb_lt K1.out)) 4 rfl
              simp only [Region.wanted, Inr.yieldedD, Inr.dst, List.getD_cons_zero, List.getD_cons_succ]
              go_simp
              refine hK.out _ _ (Eq.refl _) (Below.refl _ _) (Inr.noTies _ _ _ _ _)
            · intro vs w' hb hv K hK
              clear hv
              have hK2 := hK.out
              clear hK
              simp only [Inr.putD, Inr.dst, List.foldl_cons, List.foldl_nil, List.getD_cons_zero, List.getD_cons_succ, Act.put, List.setIfInBounds_toArray, List.set_cons_zero, List.set_cons_succ] at hK2 ⊢
              have hK := Lib.hid hK2
              clear hK2
              simp only [Region.wanted, Inr.yieldedD, Inr.dst, List.getD_cons_zero, List.getD_cons_succ]
              go_simp
              refine hK.out _ _ (Eq.refl _) (Below.refl _ _) (Inr.noTies _ _ _ _ _)
            · intro vs w' hb hv K hK
              have h2 : (Inr.MP.is (.slice (some ⟨ga, oa, none⟩) L1 c1)).p (vs 2) w' := hv 2 (by simp)
              have h3 : (Inr.MP.is (.int .i64 j)).p (vs 3) w' := hv 3 (by simp)
              clear hv
              have hK2 := hK.out
              clear hK
              simp only [Inr.putD, Inr.dst, List.foldl_cons, List.foldl_nil, List.getD_cons_zero, List.getD_cons_succ, Act.put, List.setIfInBounds_toArray, List.set_cons_zero, List.set_cons_succ] at hK2 ⊢
              have hK := Lib.hid hK2
              clear hK2
              generalize vs 2 = y2 at *
              generalize vs 3 = y3 at *
              have h2 : y2 = _ := h2
              subst h2
              have h3 : y3 = _ := h3
              subst h3
              simp only [Region.wanted, Inr.yieldedD, Inr.dst, List.getD_cons_zero, List.getD_cons_succ]
              go_simp
              refine hK.out _ _ (Eq.refl _) (Below.refl _ _) (Inr.noTies _ _ _ _ _)
            · intro vs w' hb hv K hK
              have h4 : (Inr.MP.is (.pointer (some ⟨ga, oa + j * 5, none⟩))).p (vs 4) w' := hv 4 (by simp)
              clear hv
              have hK2 := hK.out
              clear hK
              simp only [Inr.putD, Inr.dst, List.foldl_cons, List.foldl_nil, List.getD_cons_zero, List.getD_cons_succ, Act.put, List.setIfInBounds_toArray, List.set_cons_zero, List.set_cons_succ] at hK2 ⊢
              have hK := Lib.hid hK2
              clear hK2
              generalize vs 4 = y4 at *
              have h4 : y4 = _ := h4
              subst h4
              obtain ⟨z0, z1, z2, z3, z4⟩ := E2.out.below hb E2.out.lt
              simp only [Region.wanted, Inr.yieldedD, Inr.dst, List.getD_cons_zero, List.getD_cons_succ]
              go_simp
              refine hK.out _ _ (Eq.refl _) (Below.refl _ _) (Inr.noTies _ _ _ _ _)
            · intro vs w' hb hv K hK
              clear hv
              have hK2 := hK.out
              clear hK
              simp only [Inr.putD, Inr.dst, List.foldl_cons, List.foldl_nil, List.getD_cons_zero, List.getD_cons_succ, Act.put, List.setIfInBounds_toArray, List.set_cons_zero, List.set_cons_succ] at hK2 ⊢
              have hK := Lib.hid hK2
              clear hK2
              simp only [Region.wanted, Inr.yieldedD, Inr.dst, List.getD_cons_zero, List.getD_cons_succ]
              go_simp
              refine hK.out _ _ (Eq.refl _) (Below.refl _ _) (Inr.noTies _ _ _ _ _)
            · intro vs w' hb hv K hK
              have h6 : (Inr.MP.is (.pointer (some ⟨w.heap.size + 1, 4, none⟩))).p (vs 6) w' := hv 6 (by simp)
              clear hv
              have hK2 := hK.out
              clear hK
              simp only [Inr.putD, Inr.dst, List.foldl_cons, List.foldl_nil, List.getD_cons_zero, List.getD_cons_succ, Act.put, List.setIfInBounds_toArray, List.set_cons_zero, List.set_cons_succ] at hK2 ⊢
              have hK := Lib.hid hK2
              clear hK2
              generalize vs 6 = y6 at *
              have h6 : y6 = _ := h6
              subst h6
              have z4 := hb_at (hb_below K2.out hb (hb_lt K2.out)) 4 rfl
              simp only [Region.wanted, Inr.yieldedD, Inr.dst, List.getD_cons_zero, List.getD_cons_succ]
              go_simp
              refine hK.out _ _ (Eq.refl _) (Below.refl _ _) (Inr.noTies _ _ _ _ _)
            · intro vs w' hb hv K hK
              clear hv
              have hK2 := hK.out
              clear hK
              simp only [Inr.putD, Inr.dst, List.foldl_cons, List.foldl_nil, List.getD_cons_zero, List.getD_cons_succ, Act.put, List.setIfInBounds_toArray, List.set_cons_zero, List.set_cons_succ] at hK2 ⊢
              have hK := Lib.hid hK2
              clear hK2
              simp only [Region.wanted, Inr.yieldedD, Inr.dst, List.getD_cons_zero, List.getD_cons_succ]
              go_simp
              refine hK.out _ _ (Eq.refl _) (Below.refl _ _) (Inr.noTies _ _ _ _ _)
            · intro vs w' hb hv K hK
              have h7 : (Inr.MP.is (.slice (some ⟨gb, ob, none⟩) L1 c2)).p (vs 7) w' := hv 7 (by simp)
              have h8 : (Inr.MP.is (.int .i64 j)).p (vs 8) w' := hv 8 (by simp)
              clear hv
              have hK2 := hK.out
              clear hK
              simp only [Inr.putD, Inr.dst, List.foldl_cons, List.foldl_nil, List.getD_cons_zero, List.getD_cons_succ, Act.put, List.setIfInBounds_toArray, List.set_cons_zero, List.set_cons_succ] at hK2 ⊢
              have hK := Lib.hid hK2
              clear hK2
              generalize vs 7 = y7 at *
              generalize vs 8 = y8 at *
              have h7 : y7 = _ := h7
              subst h7
              have h8 : y8 = _ := h8
              subst h8
              simp only [Region.wanted, Inr.yieldedD, Inr.dst, List.getD_cons_zero, List.getD_cons_succ]
              go_simp
              refine hK.out _ _ (Eq.refl _) (Below.refl _ _) (Inr.noTies _ _ _ _ _)
            · intro vs w' hb hv K hK
              have h9 : (Inr.MP.is (.pointer (some ⟨gb, ob + j * 5, none⟩))).p (vs 9) w' := hv 9 (by simp)
              clear hv
              have hK2 := hK.out
              clear hK
              simp only [Inr.putD, Inr.dst, List.foldl_cons, List.foldl_nil, List.getD_cons_zero, List.getD_cons_succ, Act.put, List.setIfInBounds_toArray, List.set_cons_zero, List.set_cons_succ] at hK2 ⊢
              have hK := Lib.hid hK2
              clear hK2
              generalize vs 9 = y9 at *
              have h9 : y9 = _ := h9
              subst h9
              obtain ⟨z0, z1, z2, z3, z4⟩ := F2.out.below hb F2.out.lt
              simp only [Region.wanted, Inr.yieldedD, Inr.dst, List.getD_cons_zero, List.getD_cons_succ]
              go_simp
              refine hK.out _ _ (Eq.refl _) (Below.refl _ _) (Inr.noTies _ _ _ _ _)
            · intro vs w' hb hv K hK
              have h0 : (Inr.MP.is (.slice qm ML cm)).p (vs 0) w' := hv 0 (by simp)
              have h5 : (Inr.MP.is (tv k3 p3 n3 N3 (.slice q3 l3 c3))).p (vs 5) w' := hv 5 (by simp)
              have h10 : (Inr.MP.is (tv k4 p4 n4 N4 (.slice q4 l4 c4))).p (vs 10) w' := hv 10 (by simp)
              clear hv
              have hK2 := hK.out
              clear hK
              simp only [Inr.putD, Inr.dst, List.foldl_cons, List.foldl_nil, List.getD_cons_zero, List.getD_cons_succ, Act.put, List.setIfInBounds_toArray, List.set_cons_zero, List.set_cons_succ] at hK2 ⊢
              have hK := Lib.hid hK2
              clear hK2
              generalize vs 0 = y0 at *
              generalize vs 5 = y5 at *
              generalize vs 10 = y10 at *
              have h0 : y0 = _ := h0
              subst h0
              have h5 : y5 = _ := h5
              subst h5
              have h10 : y10 = _ := h10
              subst h10
              simp only [Region.wanted, Inr.yieldedD, Inr.dst, List.getD_cons_zero, List.getD_cons_succ]
              go_simp
              ((with_reducible refine (HCALL.out w' hb).mono ?_); rintro e w5 ⟨q5, l5, c5, r5, rfl, hn5, hy5, hb5⟩)
              obtain rfl : r5 = true := (by cases r5 with | true => rfl | false => exact absurd (hn5 rfl) (by rw [hmr]; exact fun h => by cases h))
              obtain ⟨M5, hm5, hv5⟩ := hy5 rfl
              rw [hmr] at hm5
              cases hm5
              go_wp2_with fail
              refine hK.out _ _ ⟨_, _, _, rfl, hv5⟩ hb5 (Inr.noTies _ _ _ _ _)
            · intro vs w' hb hv K hK
              have h11 : ∃ q l c, (vs 11) = .tuple #[.slice q l c, .bool true] ∧ VAt w' D (.slice q l c) M' := hv 11 (by simp)
              clear hv
              have hK2 := hK.out
              clear hK
              simp only [Inr.putD, Inr.dst, List.foldl_cons, List.foldl_nil, List.getD_cons_zero, List.getD_cons_succ, Act.put, List.setIfInBounds_toArray, List.set_cons_zero, List.set_cons_succ] at hK2 ⊢
              have hK := Lib.hid hK2
              clear hK2
              generalize vs 11 = y11 at *
              obtain ⟨q6, l6, c6, rfl, hv6⟩ := (show ∃ q l c, y11 = .tuple #[.slice q l c, .bool true] ∧ VAt w' D (.slice q l c) M' from h11)
              simp only [Region.wanted, Inr.yieldedD, Inr.dst, List.getD_cons_zero, List.getD_cons_succ]
              go_simp
              refine hK.out _ _ ⟨_, _, _, rfl, hv6⟩ (Below.refl _ _) (Inr.noTies _ _ _ _ _)
            · intro vs w' hb hv K hK
              have h12 : ∃ q l c, (vs 12) = .tuple #[.slice q l c, .bool true] ∧ VAt w' D (.slice q l c) M' := hv 12 (by simp)
              clear hv
              have hK2 := hK.out
              clear hK
              simp only [Inr.putD, Inr.dst, List.foldl_cons, List.foldl_nil, List.getD_cons_zero, List.getD_cons_succ, Act.put, List.setIfInBounds_toArray, List.set_cons_zero, List.set_cons_succ] at hK2 ⊢
              have hK := Lib.hid hK2
              clear hK2
              generalize vs 12 = y12 at *
              obtain ⟨q6, l6, c6, rfl, hv6⟩ := (show ∃ q l c, y12 = .tuple #[.slice q l c, .bool true] ∧ VAt w' D (.slice q l c) M' from h12)
              simp only [Region.wanted, Inr.yieldedD, Inr.dst, List.getD_cons_zero, List.getD_cons_succ]
              go_simp
              refine hK.out _ _ hv6 (Below.refl _ _) (Inr.noTies _ _ _ _ _)
            · intro vs w' hb hv K hK
              have h12 : ∃ q l c, (vs 12) = .tuple #[.slice q l c, .bool true] ∧ VAt w' D (.slice q l c) M' := hv 12 (by simp)
              clear hv
              have hK2 := hK.out
              clear hK
              simp only [Inr.putD, Inr.dst, List.foldl_cons, List.foldl_nil, List.getD_cons_zero, List.getD_cons_succ, Act.put, List.setIfInBounds_toArray, List.set_cons_zero, List.set_cons_succ] at hK2 ⊢
              have hK := Lib.hid hK2
              clear hK2
              generalize vs 12 = y12 at *
              obtain ⟨q6, l6, c6, rfl, hv6⟩ := (show ∃ q l c, y12 = .tuple #[.slice q l c, .bool true] ∧ VAt w' D (.slice q l c) M' from h12)
              simp only [Region.wanted, Inr.yieldedD, Inr.dst, List.getD_cons_zero, List.getD_cons_succ]
              go_simp
              refine hK.out _ _ (Eq.refl _) (Below.refl _ _) (Inr.noTies _ _ _ _ _)
            · intro vs w' hb hv K hK
              have h0 : (Inr.MP.is (.slice qm ML cm)).p (vs 0) w' := hv 0 (by simp)
              have h1 : (Inr.MP.is (.pointer (some ⟨w.heap.size, 4, none⟩))).p (vs 1) w' := hv 1 (by simp)
              have h2 : (Inr.MP.is (.slice (some ⟨ga, oa, none⟩) L1 c1)).p (vs 2) w' := hv 2 (by simp)
              have h3 : (Inr.MP.is (.int .i64 j)).p (vs 3) w' := hv 3 (by simp)
              have h4 : (Inr.MP.is (.pointer (some ⟨ga, oa + j * 5, none⟩))).p (vs 4) w' := hv 4 (by simp)
              have h5 : (Inr.MP.is (tv k3 p3 n3 N3 (.slice q3 l3 c3))).p (vs 5) w' := hv 5 (by simp)
              have h6 : (Inr.MP.is (.pointer (some ⟨w.heap.size + 1, 4, none⟩))).p (vs 6) w' := hv 6 (by simp)
              have h7 : (Inr.MP.is (.slice (some ⟨gb, ob, none⟩) L1 c2)).p (vs 7) w' := hv 7 (by simp)
              have h8 : (Inr.MP.is (.int .i64 j)).p (vs 8) w' := hv 8 (by simp)
              have h9 : (Inr.MP.is (.pointer (some ⟨gb, ob + j * 5, none⟩))).p (vs 9) w' := hv 9 (by simp)
              have h10 : (Inr.MP.is (tv k4 p4 n4 N4 (.slice q4 l4 c4))).p (vs 10) w' := hv 10 (by simp)
              have h11 : ∃ q l c, (vs 11) = .tuple #[.slice q l c, .bool true] ∧ VAt w' D (.slice q l c) M' := hv 11 (by simp)
              have h12 : ∃ q l c, (vs 12) = .tuple #[.slice q l c, .bool true] ∧ VAt w' D (.slice q l c) M' := hv 12 (by simp)
              have h13 : VAt w' D (vs 13) M' := hv 13 (by simp)
              clear hv
              have hK2 := hK.out
              clear hK
              simp only [Inr.putD, Inr.dst, List.foldl_cons, List.foldl_nil, List.getD_cons_zero, List.getD_cons_succ, Act.put, List.setIfInBounds_toArray, List.set_cons_zero, List.set_cons_succ] at hK2 ⊢
              have hK := Lib.hid hK2
              clear hK2
              generalize vs 0 = y0 at *
              generalize vs 1 = y1 at *
              generalize vs 2 = y2 at *
              generalize vs 3 = y3 at *
              generalize vs 4 = y4 at *
              generalize vs 5 = y5 at *
              generalize vs 6 = y6 at *
              generalize vs 7 = y7 at *
              generalize vs 8 = y8 at *
              generalize vs 9 = y9 at *
              generalize vs 10 = y10 at *
              generalize vs 11 = y11 at *
              generalize vs 12 = y12 at *
              generalize vs 13 = y13 at *
              have h0 : y0 = _ := h0
              subst h0
              have h1 : y1 = _ := h1
              subst h1
              have h2 : y2 = _ := h2
              subst h2
              have h3 : y3 = _ := h3
              subst h3
              have h4 : y4 = _ := h4
              subst h4
              have h5 : y5 = _ := h5
              subst h5
              have h6 : y6 = _ := h6
              subst h6
              have h7 : y7 = _ := h7
              subst h7
              have h8 : y8 = _ := h8
              subst h8
              have h9 : y9 = _ := h9
              subst h9
              have h10 : y10 = _ := h10
              subst h10
              simp only [Region.wanted, Inr.yieldedD, Inr.dst, List.getD_cons_zero, List.getD_cons_succ]
              go_simp
              refine hK.out _ _ (show VAt w' D _ M' from h13) (Below.refl _ _) (Inr.noTies _ _ _ _ _)
            · intro vs w' hb hv K hK
              have h0 : (Inr.MP.is (.slice qm ML cm)).p (vs 0) w' := hv 0 (by simp)
              have h1 : (Inr.MP.is (.pointer (some ⟨w.heap.size, 4, none⟩))).p (vs 1) w' := hv 1 (by simp)
              have h2 : (Inr.MP.is (.slice (some ⟨ga, oa, none⟩) L1 c1)).p (vs 2) w' := hv 2 (by simp)
              have h3 : (Inr.MP.is (.int .i64 j)).p (vs 3) w' := hv 3 (by simp)
              have h4 : (Inr.MP.is (.pointer (some ⟨ga, oa + j * 5, none⟩))).p (vs 4) w' := hv 4 (by simp)
              have h5 : (Inr.MP.is (tv k3 p3 n3 N3 (.slice q3 l3 c3))).p (vs 5) w' := hv 5 (by simp)
              have h6 : (Inr.MP.is (.pointer (some ⟨w.heap.size + 1, 4, none⟩))).p (vs 6) w' := hv 6 (by simp)
              have h7 : (Inr.MP.is (.slice (some ⟨gb, ob, none⟩) L1 c2)).p (vs 7) w' := hv 7 (by simp)
              have h8 : (Inr.MP.is (.int .i64 j)).p (vs 8) w' := hv 8 (by simp)
              have h9 : (Inr.MP.is (.pointer (some ⟨gb, ob + j * 5, none⟩))).p (vs 9) w' := hv 9 (by simp)
              have h10 : (Inr.MP.is (tv k4 p4 n4 N4 (.slice q4 l4 c4))).p (vs 10) w' := hv 10 (by simp)
              have h11 : ∃ q l c, (vs 11) = .tuple #[.slice q l c, .bool true] ∧ VAt w' D (.slice q l c) M' := hv 11 (by simp)
              have h12 : ∃ q l c, (vs 12) = .tuple #[.slice q l c, .bool true] ∧ VAt w' D (.slice q l c) M' := hv 12 (by simp)
              have h13 : VAt w' D (vs 13) M' := hv 13 (by simp)
              have h14 : (Inr.MP.is (.bool true)).p (vs 14) w' := hv 14 (by simp)
              have h15 : VAt w' D (vs 15) M' := hv 15 (by simp)
              clear hv
              have hK2 := hK.out
              clear hK
              simp only [Inr.putD, Inr.dst, List.foldl_cons, List.foldl_nil, List.getD_cons_zero, List.getD_cons_succ, Act.put, List.setIfInBounds_toArray, List.set_cons_zero, List.set_cons_succ] at hK2 ⊢
              have hK := Lib.hid hK2
              clear hK2
              generalize vs 0 = y0 at *
              generalize vs 1 = y1 at *
              generalize vs 2 = y2 at *
              generalize vs 3 = y3 at *
              generalize vs 4 = y4 at *
              generalize vs 5 = y5 at *
              generalize vs 6 = y6 at *
              generalize vs 7 = y7 at *
              generalize vs 8 = y8 at *
              generalize vs 9 = y9 at *
              generalize vs 10 = y10 at *
              generalize vs 11 = y11 at *
              generalize vs 12 = y12 at *
              generalize vs 13 = y13 at *
              generalize vs 14 = y14 at *
              generalize vs 15 = y15 at *
              have h0 : y0 = _ := h0
              subst h0
              have h1 : y1 = _ := h1
              subst h1
              have h2 : y2 = _ := h2
              subst h2
              have h3 : y3 = _ := h3
              subst h3
              have h4 : y4 = _ := h4
              subst h4
              have h5 : y5 = _ := h5
              subst h5
              have h6 : y6 = _ := h6
              subst h6
              have h7 : y7 = _ := h7
              subst h7
              have h8 : y8 = _ := h8
              subst h8
              have h9 : y9 = _ := h9
              subst h9
              have h10 : y10 = _ := h10
              subst h10
              have h14 : y14 = _ := h14
              subst h14
              simp only [Region.wanted, Inr.yieldedD, Inr.dst, List.getD_cons_zero, List.getD_cons_succ]
              go_simp
              refine hK.out _ _ (Eq.refl _) (Below.refl _ _) (Inr.noTies _ _ _ _ _)
            · have h16 : vs 16 = .bool true := hv 16 (by omega)
              have h15 : VAt wq D (vs 15) M' := hv 15 (by omega)
              clear hv
              simp only [List.range, List.range.loop, Inr.putD, Inr.dst, List.foldl_cons, List.foldl_nil, List.getD_cons_zero, List.getD_cons_succ, Act.put, List.setIfInBounds_toArray, List.set_cons_zero, List.set_cons_succ]
              simp only [List.drop_succ_cons, List.drop_zero]
              generalize vs 0 = yy0 at *
              generalize vs 1 = yy1 at *
              generalize vs 2 = yy2 at *
              generalize vs 3 = yy3 at *
              generalize vs 4 = yy4 at *
              generalize vs 5 = yy5 at *
              generalize vs 6 = yy6 at *
              generalize vs 7 = yy7 at *
              generalize vs 8 = yy8 at *
              generalize vs 9 = yy9 at *
              generalize vs 10 = yy10 at *
              generalize vs 11 = yy11 at *
              generalize vs 12 = yy12 at *
              generalize vs 13 = yy13 at *
              generalize vs 14 = yy14 at *
              generalize vs 15 = yy15 at *
              generalize vs 16 = yy16 at *
              subst h16
              have HQ := Lib.hid (HBL.out.trans (hbq.mono HBL.out.size))
              have HNN : RowKit.Hid (mrecTo d (j + 1) L l1 l2 = some M') := Lib.hid (by rw [HNEXT.out]; exact hmr)
              have HVN := Lib.hid h15
              clear hbq hmr h15
              go_wp2
              go_roundw
              case rel => exact ⟨j + 1, by omega, by go_num, HQ.out, M', HNN.out, HVN.out⟩
              case measure => simp [intOf]; omega
        · obtain rfl : j = L1 := by omega
          have z0 := hb_at K1.out 4 rfl
          go_wp2
          refine bodyPost_ret (v := .tuple #[.slice qm ML cm, .bool true]) (by simp [results, Tryd.results24, go_sem]) rfl ?_
          exact ⟨_, _, _, _, rfl, (fun h => by cases h), fun _ => ⟨M, by rw [← HM.out, ← HL1.out]; exact (mrecTo_all HK.out HLE.out).symm, HVR.out⟩, HB0.out.trans (HBL.out.mono HB0.out.size)⟩
end Go.Proofs.YtknbhnicmgglbaaDoor
