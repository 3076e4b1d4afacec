/- Texts in a row: Kn Ko Ks. -/
import Derived.Test.YtncebhddcokkoaaDoorZM23
import Derived.BigQuiet
import Derived.Test.YtncebhddcokkoaaDoorZM22
/- A variable becomes a type. -/
namespace Go.Proofs.YtncebhddcokkoaaDoor
open Go.RowKit
set_option linter.unusedSimpArgs false
set_option linter.unusedVariables false
/-- A store with other levels. -/
def lvl (A : Abs) (m : Nat → Int) : Abs := ⟨A.l, A.r, m⟩
theorem Rep.lvl {rk : Nat → Nat} {L : List Nd} {A : Abs} (h : Rep rk L A) {i : Nat} {x : Nd} (hx : L[i]? = some x) (n : Int) {m : Nat → Int} (hm : ∀ j, j < L.length → m j = if j = i then n else A.lv j) : Rep rk (L.set i { x with lv := n }) (lvl A m) := by
  have key : ∀ (j : Nat) (z : Nd), (L.set i { x with lv := n })[j]? = some z → ∃ y : Nd, L[j]? = some y ∧ z.i = y.i ∧ z.lv = (if j = i then n else y.lv) ∧ z.be = y.be := by
    intro j z hz
    rw [List.getElem?_set] at hz
    by_cases e : i = j
    · rw [if_pos e] at hz
      subst e
      rw [if_pos (List.getElem?_eq_some_iff.1 hx).1] at hz
      cases hz
      exact ⟨x, hx, rfl, by rw [if_pos rfl], rfl⟩
    · rw [if_neg e] at hz
      exact ⟨z, hz, rfl, by rw [if_neg fun e2 => e e2.symm], rfl⟩
  refine ⟨?_, fun j z hz => ?_, fun j z hz => ?_⟩
  · show A.l = _
    rw [h.l]
    apply List.ext_getElem?
    intro j
    rw [List.getElem?_map, List.getElem?_map, List.getElem?_set]
    by_cases e : i = j
    · rw [if_pos e]
      subst e
      rw [if_pos (List.getElem?_eq_some_iff.1 hx).1, hx]; rfl
    · rw [if_neg e]
  · obtain ⟨y, hy, _, e, _⟩ := key j z hz
    have hj := (List.getElem?_eq_some_iff.1 hy).1
    show m j = z.lv
    rw [e, hm j hj, h.lv j y hy]
  · obtain ⟨y, hy, _, _, e⟩ := key j z hz
    rw [e, List.length_set]; exact h.be j y hy
theorem Ex.lvl {c : Cfg} {L : List Nd} {A : Abs} (h : Ex c L A) {i : Nat} {x : Nd} (hx : L[i]? = some x) (n : Int) (m : Nat → Int) : Ex c (L.set i { x with lv := n }) (lvl A m) := by
  refine ⟨fun j z hz hp => ?_, fun z hz => ?_⟩
  · rw [List.getElem?_set] at hz
    by_cases e : i = j
    · rw [if_pos e] at hz
      subst e
      rw [if_pos (List.getElem?_eq_some_iff.1 hx).1] at hz
      cases hz
      exact h.pl i x hx hp
    · rw [if_neg e] at hz
      exact h.pl j z hz hp
  · rcases List.mem_or_eq_of_mem_set hz with hz | rfl
    · exact h.wk z hz
    · exact h.wk x (List.mem_of_getElem? hx)
theorem kp_of_kq {c : Cfg} {bi : Nat} {w W w' : World} (hb : Below w.heap.size w W) (hb0 : c.b0 ≤ w.heap.size) (h : Kq c bi W w') (hbi : w.heap.size ≤ bi) : Kp c w w' := by
  refine ⟨(hb.mono hb0).trans h.below, Nat.le_trans hb.size h.size, fun k x hx h1 h2 => ?_⟩
  have := hb_lt hx
  exact h.block k x (by rw [hb.block k this]; exact hx) h1 (by omega) h2
/-- What is left where a variable was to become a type. -/
def BindQ (c : Cfg) (A : Abs) (u v : Nat) (w : World) (e : Ending) (w' : World) : Prop :=
  ∃ r, e = .returned (.bool r) ∧ Kp c w w' ∧ (r = true → ¬ A.Bad (A.turn u v).1 (A.turn u v).2 ∧ St { c with wks := c.wks + 1 } (A.bind (A.turn u v).1 (A.turn u v).2 (A.low (A.turn u v).2 (A.lv (A.turn u v).1))) w') ∧
    (r = false → A.Bad (A.turn u v).1 (A.turn u v).2 ∧ St { c with wks := c.wks + 1 } A w')
open Classical in
/-- Levels, once the first k of a walk's list are done. -/
noncomputable def mk (A : Abs) (lv : Int) (I : List Nat) (k : Nat) (j : Nat) : Int := if j ∈ I.take k then min (A.lv j) lv else A.lv j
theorem mk_zero (A : Abs) (lv : Int) (I : List Nat) : mk A lv I 0 = A.lv := by
  funext j
  unfold mk
  simp
theorem mk_next (A : Abs) (lv : Int) (I : List Nat) {k i : Nat} (h : I[k]? = some i) (j : Nat) : mk A lv I (k + 1) j = if j = i then min (mk A lv I k i) lv else mk A lv I k j := by
  have e : I.take (k + 1) = I.take k ++ [i] := by rw [List.take_add_one, h]; rfl
  unfold mk
  rw [e]
  by_cases hj : j = i
  · subst hj
    rw [if_pos rfl, if_pos (by simp)]
    split
    · omega
    · rfl
  · rw [if_neg hj]
    by_cases h2 : j ∈ I.take k
    · rw [if_pos h2, if_pos (by simp [h2])]
    · rw [if_neg h2, if_neg (by simp [h2, hj])]
theorem mk_all (A : Abs) {a b : Nat} {I : List Nat} (h1 : ∀ z, A.Reach b z → A.kd z = 1 → z ∈ I) (h2 : ∀ z ∈ I, A.Reach b z ∧ A.kd z = 1) : mk A (A.lv a) I I.length = A.low b (A.lv a) := by
  funext j
  unfold mk Abs.low
  rw [List.take_length]
  by_cases h : j ∈ I
  · rw [if_pos h, if_pos (h2 j h)]
  · rw [if_neg h, if_neg fun h3 => h (h1 j h3.1 h3.2)]
set_option maxRecDepth 100000 in
set_option maxHeartbeats 4000000 in
theorem bind_any (c : Cfg) (A : Abs) (w : World) (u v : Nat) (hA : A.Ok) (hF : A.Fin) (hL : A.Like) (h : St c A w) (hu : u < A.l.length) (hv : v < A.l.length) (hru : A.r u = u) (hrv : A.r v = v) (huv : u ≠ v) (hk : A.kd u = 1 ∨ A.kd v = 1)
    (hw0 : 0 ≤ c.wks) (hw1 : c.wks < 4611686018427387904) (htot : (A.l.map fun x => x.kids.length + 1).sum ≤ 100000) :
    Calls Tryd.prog 56 #[.pointer (some ⟨c.B, 0, none⟩), intV u, intV v] w (BindQ c A u v w) := by
  have hlt := h.lt
  have hbt := (below_alloc w (.cells #[.pointer (some ⟨c.B, 0, none⟩)] 51)).trans ((below_alloc (w.alloc (.cells #[.pointer (some ⟨c.B, 0, none⟩)] 51)) (.cells #[intV u] 3)).mono (by simp))
  have hS := h.below hbt
  have hb0 := hb_alloc (hb_new w (.cells #[.pointer (some ⟨c.B, 0, none⟩)] 51)) (.cells #[intV u] 3)
  have hb1 := hb_new (w.alloc (.cells #[.pointer (some ⟨c.B, 0, none⟩)] 51)) (.cells #[intV u] 3)
  rw [World.size_alloc] at hb1
  have hsz : ((w.alloc (.cells #[.pointer (some ⟨c.B, 0, none⟩)] 51)).alloc (.cells #[intV u] 3)).heap.size = w.heap.size + 2 := by simp
  have HBT := Lib.hid hbt
  have H0 := Lib.hid h
  clear h hbt
  go_enter Tryd.func56, Tryd.ntmps56
  go_upto_region 1 with (fail)
  generalize (w.alloc (.cells #[.pointer (some ⟨c.B, 0, none⟩)] 51)).alloc (.cells #[intV u] 3) = W1 at *
  go_cut [36] (fun t wx => t = .bool (decide (A.kd u ≠ 1 ∨ (A.kd v = 1 ∧ u < v))) ∧ Below W1.heap.size W1 wx)
  case first =>
    obtain ⟨vv, L, rk, p1, p2, p3⟩ := hS
    obtain ⟨x, hx⟩ := p2.lt hA hu
    obtain ⟨y, hy⟩ := p2.lt hA hv
    rw [hru] at hx
    rw [hrv] at hy
    have hku : A.kd u = x.i.k := Abs.kd_some (by rw [hru]; exact p2.at hx)
    have hkv : A.kd v = y.i.k := Abs.kd_some (by rw [hrv]; exact p2.at hy)
    obtain ⟨g, cap, rfl, hgB, hg0, hc1, hc2, s0, s1, s2, s3, s4, x0, x1, x2, x3, x4, x5, x6, x7, x8, hfz⟩ := p1.at hx
    obtain ⟨g', cap', e, _, _, _, _, _, _, _, _, _, y0, y1, y2, y3, y4, y5, y6, y7, y8, _⟩ := p1.at hy
    injection e with e1 e2 e3
    injection e1 with e1
    injection e1 with e1
    subst e1 e3
    have hlt1 : (u : Int) < (L.length : Int) := by have := (List.getElem?_eq_some_iff.1 hx).1; omega
    have hlt2 : (v : Int) < (L.length : Int) := by have := (List.getElem?_eq_some_iff.1 hy).1; omega
    have z0 := hb_at hb0 0 rfl
    have z1 := hb_at hb1 0 rfl
    have HKU := Lib.hid hku
    have HKV := Lib.hid hkv
    clear p1 p2 p3 hx hy hku hkv s1 s2 s3 s4 x1 x2 x3 x4 x5 x6 x7 x8 y1 y2 y3 y4 y5 y6 y7 y8 hfz hk hF hL hb0 hb1
    by_cases h1 : x.i.k = 1
    · have e0 : (x.i.k != 1) = false := by simpa using h1
      by_cases h2 : y.i.k = 1
      · have e2 : (y.i.k == 1) = true := by simpa using h2
        have HD : ∀ q : Bool, q = decide (u < v) → RowKit.Hid (q = decide (A.kd u ≠ 1 ∨ (A.kd v = 1 ∧ u < v))) := fun q hq => Lib.hid (by rw [hq, HKU.out, HKV.out]; simp [h1, h2])
        by_cases h3 : u < v
        · have e3 : (u : Int) < (v : Int) := by omega
          have HD2 := HD true (by simp [h3])
          clear HD h1 h2
          go_quiet (fail)
          all_goals go_wp2
          all_goals go_meet
          all_goals exact ⟨by rw [← HD2.out], below_drewN (Below.refl _ _) _⟩
        · have e3 : ¬ (u : Int) < (v : Int) := by omega
          have HD2 := HD false (by simp [h3])
          clear HD h1 h2
          go_quiet (fail)
          all_goals go_wp2
          all_goals go_meet
          all_goals exact ⟨by rw [← HD2.out], below_drewN (Below.refl _ _) _⟩
      · have e2 : (y.i.k == 1) = false := by simpa using h2
        have HD2 : RowKit.Hid (false = decide (A.kd u ≠ 1 ∨ (A.kd v = 1 ∧ u < v))) := Lib.hid (by rw [HKU.out, HKV.out]; simp [h1, h2])
        clear h1 h2
        go_quiet (fail)
        all_goals go_wp2
        all_goals go_meet
        all_goals exact ⟨by rw [← HD2.out], below_drewN (Below.refl _ _) _⟩
    · have e0 : (x.i.k != 1) = true := by simpa using h1
      have HD2 : RowKit.Hid (true = decide (A.kd u ≠ 1 ∨ (A.kd v = 1 ∧ u < v))) := Lib.hid (by rw [HKU.out, HKV.out]; simp [h1])
      clear h1
      go_quiet (fail)
      all_goals go_wp2
      all_goals go_meet
      all_goals exact ⟨by rw [← HD2.out], below_drewN (Below.refl _ _) _⟩
  case rest =>
    obtain ⟨rfl, hbc⟩ := hcut
    have hS := hS.below hbc
    have hb0 := hb_below hb0 hbc (hb_lt hb0)
    have hb1 := hb_below hb1 hbc (hb_lt hb1)
    have hbw := HBT.out.trans (hbc.mono (by omega))
    have hsz := hbc.size
    clear HBT
    generalize hT : A.turn u v = p at *
    obtain ⟨a, b⟩ := p
    obtain ⟨hra, hrb, hal, hbl, hab, hka, hwh, hlo⟩ := Abs.turn_spec hA hu hv (by rw [hru, hrv]; exact huv) hk (by rw [hru, hrv, hT])
    have hdir : (decide (A.kd u ≠ 1 ∨ (A.kd v = 1 ∧ u < v)) = true ∧ a = v ∧ b = u) ∨ (decide (A.kd u ≠ 1 ∨ (A.kd v = 1 ∧ u < v)) = false ∧ a = u ∧ b = v) := by
      by_cases hd : A.kd u ≠ 1 ∨ (A.kd v = 1 ∧ u < v)
      · have h2 : A.turn u v = (v, u) := if_pos hd
        rw [hT] at h2
        cases h2
        exact .inl ⟨by simpa using hd, rfl, rfl⟩
      · have h2 : A.turn u v = (u, v) := if_neg hd
        rw [hT] at h2
        cases h2
        exact .inr ⟨by simpa using hd, rfl, rfl⟩
    have HWH := Lib.hid hwh
    have HT := Lib.hid hT
    clear hwh hT
    generalize decide (A.kd u ≠ 1 ∨ (A.kd v = 1 ∧ u < v)) = sw at *
    go_upto_if 36 with (fail)
    go_cut [2] (fun t wx => t = intV b ∧ Below w.heap.size w wx ∧ wx.heap[w.heap.size]? = some (.cells #[.pointer (some ⟨c.B, 0, none⟩)] 51 (0, 0)) ∧ wx.heap[w.heap.size + 1]? = some (.cells #[intV a] 3 (0, 0)))
    case first =>
      have z1 := hb_at hb1 0 rfl
      have zf := hb_free hb1 0
      have HB0 := Lib.hid hb0
      have HB1 := Lib.hid hb1
      have HBW := Lib.hid hbw
      clear hS hb0 hb1 hbw hbc
      rcases hdir with ⟨rfl, rfl, rfl⟩ | ⟨rfl, rfl, rfl⟩
      · go_wp2
        all_goals go_meet
        exact ⟨rfl, HBW.out.setCell (by show w.heap.size ≤ w.heap.size + 1; omega) _, hb_set_other HB0.out _ (by show w.heap.size ≠ w.heap.size + 1; omega), hb_set_same HB1.out 0 _⟩
      · go_wp2
        all_goals go_meet
        exact ⟨rfl, HBW.out, HB0.out, HB1.out⟩
    case rest =>
      clear hdir hS hb0 hb1 hbw hbc hsz
      obtain ⟨rfl, hbw, hb0, hb1⟩ := hcut
      have hS := H0.out.below hbw
      obtain ⟨vv, L, rk, p1, p2, p3⟩ := hS
      obtain ⟨x, hx⟩ := p2.lt hA hal
      rw [hra] at hx
      obtain ⟨g, cap, rfl, hgB, hg0, hc1, hc2, s0, s1, s2, s3, s4, x0, x1, x2, x3, x4, x5, x6, x7, x8, hfz⟩ := p1.at hx
      have hlt1 : (a : Int) < (L.length : Int) := by have := (List.getElem?_eq_some_iff.1 hx).1; omega
      have hlva : A.lv a = x.lv := p2.lv a x hx
      have z0 := hb_at hb0 0 rfl
      have z1 := hb_at hb1 0 rfl
      have hz0 := hb_lt hb0
      have hz1 := hb_lt hb1
      have HB0 := Lib.hid hb0
      have HB1 := Lib.hid hb1
      have HBW := Lib.hid hbw
      have hzB := block_lt_of_cell s0
      have hzg := block_lt_of_cell x4
      clear hb0 hb1 hbw p1 p2 p3 hx s1 s2 s3 s4 x0 x1 x2 x3 x5 x6 x7 x8 hfz
      go_upto_region 3 with (fail)
      go_region
      all_goals
        have HW5 := Lib.hid (((HBW.out.alloc HBW.out.size (.cells #[.int .i64 x.lv] 3)).alloc (by rw [World.size_alloc]; have := HBW.out.size; omega) (.cells #[.slice none 0 0] 88)).drew)
        have w0s : ((wc.alloc (.cells #[.int .i64 x.lv] 3)).alloc (.cells #[.slice none 0 0] 88)).drew.heap[w.heap.size]? = some (.cells #[.pointer (some ⟨c.B, 0, none⟩)] 51 (0, 0)) := hb_alloc (hb_alloc HB0.out _) _
        have w1s : ((wc.alloc (.cells #[.int .i64 x.lv] 3)).alloc (.cells #[.slice none 0 0] 88)).drew.heap[w.heap.size + 1]? = some (.cells #[intV a] 3 (0, 0)) := hb_alloc (hb_alloc HB1.out _) _
        have w2s : ((wc.alloc (.cells #[.int .i64 x.lv] 3)).alloc (.cells #[.slice none 0 0] 88)).drew.heap[wc.heap.size]? = some (.cells #[.int .i64 x.lv] 3 (0, 0)) := hb_alloc (hb_new _ _) _
        have w3s : ((wc.alloc (.cells #[.int .i64 x.lv] 3)).alloc (.cells #[.slice none 0 0] 88)).drew.heap[wc.heap.size + 1]? = some (.cells #[.slice none 0 0] 88 (0, 0)) := by
          have h := hb_new (wc.alloc (.cells #[.int .i64 x.lv] 3)) (.cells #[.slice none 0 0] 88)
          rw [World.size_alloc] at h
          exact h
        have HWALK := Lib.hid (walk_any c A _ w.heap.size w.heap.size (wc.heap.size + 1) (w.heap.size + 1) wc.heap.size a x.lv b hA hF hL (H0.out.below HW5.out) hbl hw0 hw1 (by omega) HW5.out.size htot w0s w1s w2s (Nat.le_refl _) (by omega) (by omega) w3s (by omega))
        have HC0 := Lib.hid w0s
        have HC2 := Lib.hid w2s
        clear w0s w1s w2s w3s
        go_wp2_with (go_at_call 76; (with_reducible refine HWALK.out.mono ?_); rintro e w6 ⟨r, rfl, hst, hkq, ht, hf⟩; have HST := Lib.hid hst; have HKQ := Lib.hid hkq; have HTT := Lib.hid ht; have HFF := Lib.hid hf; clear hst hkq ht hf; cases r; rotate_left; (obtain ⟨I, o, hib, hio, hIl, hI1, hI5, hIr⟩ := HTT.out rfl); (obtain ⟨vI, i1, i2, i3, i4⟩ := hib); (obtain ⟨qI, cI, rfl, hcI, hlI⟩ := i2.shape); have i0 := hb_at i1 0 rfl; rotate_left)
        · go_ret
          refine ⟨false, rfl, kp_of_kq HW5.out (by omega) HKQ.out (by omega), (fun h => by cases h), fun _ => ⟨?_, ?_⟩⟩
          · rw [HT.out]
            rcases HFF.out trivial with ⟨h1, _⟩ | ⟨z, h1, h2, h3⟩
            · exact .inl h1
            · exact .inr ⟨z, h1, h2, by rw [hlva]; exact h3⟩
          · exact HST.out
        · have HI2 := Lib.hid i2
          have HIs := Lib.hid (And.intro hI1 (And.intro hI5 hIr))
          have hz6 := HKQ.out.size
          have hz5 := HW5.out.size
          have HIO : RowKit.Hid (∀ k i, I[k]? = some i → ∃ gi, qI = some ⟨gi, 0, none⟩ ∧ w6.cell? ⟨gi, k, none⟩ = some (intV i) ∧ ∃ cs, w6.heap[gi]? = some (.cells cs 3 (0, 0)) ∧ w.heap.size ≤ gi) := Lib.hid fun k i hk => by
            rcases HI2.out.2 with ⟨e, h0⟩ | ⟨gi, cap', cur, e, h3, h4, h5, h6, h7, h8⟩
            · have : I = [] := List.eq_nil_of_length_eq_zero h0
              rw [this] at hk
              simp at hk
            · injection e with e1 _ _
              refine ⟨gi, e1, ?_, cur, h4, h3⟩
              rw [Nat.mul_one] at h8
              have hkl := (List.getElem?_eq_some_iff.1 hk).1
              have e2 : (cur.toList.take I.length)[k]? = (I.map intV)[k]? := by rw [h8]
              rw [List.getElem?_take, if_pos hkl, List.getElem?_map, hk] at e2
              rw [hb_cell h4, ← Array.getElem?_toList, e2]
              rfl
          clear hI1 hI5 hIr i1 i2 i0 hio
          have HC06 := Lib.hid (HKQ.out.block _ _ HC0.out (by omega) (by omega) (fun cs fr e => by injection e with _ e2 _; exact absurd e2 (by decide)))
          have HC26 := Lib.hid (HKQ.out.block _ _ HC2.out (by omega) (by omega) (fun cs fr e => by injection e with _ e2 _; exact absurd e2 (by decide)))
          go_loopw [55] (fun t wr => ∃ k : Nat, t = .int .i64 k ∧ k ≤ I.length ∧ St { c with wks := c.wks + 1 } (lvl A (mk A x.lv I k)) wr ∧ Kp { c with wks := c.wks + 1 } w6 wr) (fun t _ => I.length - (intOf t).toNat)
          case atStart => exact ⟨0, rfl, Nat.zero_le _, by rw [mk_zero]; exact HST.out, Kp.refl _ _⟩
          case round =>
            obtain ⟨k, rfl, hkl, hst, hkp⟩ := hrel
            have HSR := Lib.hid hst
            have HKR := Lib.hid hkp
            clear hst hkp
            by_cases hlt : k < I.length
            · have hki : (k : Int) < (I.length : Int) := by omega
              have hik := List.getElem?_eq_getElem hlt
              generalize I[k] = i at hik
              obtain ⟨gi, rfl, e0, cs, e1, e2⟩ := HIO.out k i hik
              have f0 := hb_at (HKR.out.block gi _ e1 (by show gi ≠ c.B; omega) (fun cs fr e => by injection e with _ e2 _; exact absurd e2 (by decide))) k (by rw [hb_cell e1] at e0; exact e0)
              have f1 := hb_at (HKR.out.block _ _ HC06.out (by show _ ≠ c.B; omega) (fun cs fr e => by injection e with _ e2 _; exact absurd e2 (by decide))) 0 rfl
              have f2 := hb_at (HKR.out.block _ _ HC26.out (by show _ ≠ c.B; omega) (fun cs fr e => by injection e with _ e2 _; exact absurd e2 (by decide))) 0 rfl
              obtain ⟨vq, Lq, rkq, r1, r2, r3⟩ := HSR.out
              have hreach := HIs.out.2.2 i (List.mem_of_getElem? hik)
              have hil : i < Lq.length := by
                rw [← r2.len]
                have h7 := hreach.2
                have h8 := reach_root hA hreach.1
                unfold Abs.kd at h7
                rw [h8] at h7
                cases e : A.l[i]? with
                | none => simp [e] at h7
                | some y => exact (List.getElem?_eq_some_iff.1 e).1
              have hy : Lq[i]? = some (Lq[i]) := List.getElem?_eq_getElem hil
              generalize Lq[i] = y at hy
              obtain ⟨gq, capq, rfl, hgB, hg0, hc1, hc2, s0, s1, s2, s3, s4, y0, y1, y2, y3, y4, y5, y6, y7, y8, hfz⟩ := r1.at hy
              have hlt2 : (i : Int) < (Lq.length : Int) := by omega
              have hfz4 := hfz (i * 9 + 4)
              have R1 := Lib.hid r1
              have R2 := Lib.hid r2
              have R3 := Lib.hid r3
              have HY := Lib.hid hy
              have HIK := Lib.hid hik
              clear r1 r2 r3 hy hik s1 s2 s3 s4 y0 y1 y2 y3 y5 y6 y7 y8 hfz e0 e1 hreach
              go_wp2
              go_region
              all_goals go_wp2
              all_goals
                obtain ⟨t1, t2⟩ := StL.put (y := { y with lv := if x.lv < y.lv then x.lv else y.lv }) R1.out HY.out (f := 4) (u := .int .i64 (if x.lv < y.lv then x.lv else y.lv)) (by omega) (fun q => by
                  match q with
                  | 0 => rfl
                  | 1 => rfl
                  | 2 => rfl
                  | 3 => rfl
                  | 4 => rfl
                  | 5 => rfl
                  | 6 => rfl
                  | 7 => rfl
                  | 8 => rfl
                  | q + 9 => rfl) rfl rfl
                have hmk : mk A x.lv I k i = y.lv := R2.out.lv i y HY.out
                have hst : St { c with wks := c.wks + 1 } (lvl A (mk A x.lv I (k + 1))) (wr.setCell ⟨gq, i * 9 + 4, none⟩ (.int .i64 (if x.lv < y.lv then x.lv else y.lv))) := ⟨_, _, rkq, t1, R2.out.lvl HY.out _ (fun j hj => by
                  rw [mk_next A x.lv I HIK.out j, hmk]
                  by_cases e : j = i
                  · rw [if_pos e, if_pos e]
                    split <;> omega
                  · rw [if_neg e, if_neg e]; rfl), R3.out.lvl HY.out _ _⟩
                refine ⟨⟨k + 1, by go_num, by omega, hst.below (Below.refl _ _).drew, HKR.out.trans (t2.trans (Kp.of_below (by have := t1.hb; have := t1.lt; omega) (Below.refl _ _).drew))⟩, by simp [intOf]; omega⟩
            · have hki : ¬ (k : Int) < (I.length : Int) := by omega
              obtain rfl : k = I.length := by omega
              have hC1 := HKQ.out.block _ _ (hb_alloc (hb_alloc HB1.out (.cells #[.int .i64 x.lv] 3)) (.cells #[.slice none 0 0] 88)) (by omega) (by omega) (fun cs fr e => by injection e with _ e2 _; exact absurd e2 (by decide))
              have f1 := hb_at (HKR.out.block _ _ HC06.out (by show _ ≠ c.B; omega) (fun cs fr e => by injection e with _ e2 _; exact absurd e2 (by decide))) 0 rfl
              have f2 := hb_at (HKR.out.block _ _ hC1 (by show _ ≠ c.B; omega) (fun cs fr e => by injection e with _ e2 _; exact absurd e2 (by decide))) 0 rfl
              obtain ⟨vq, Lq, rkq, r1, r2, r3⟩ := HSR.out
              have hal2 : a < Lq.length := by rw [← r2.len]; exact hal
              have hbl2 : b < Lq.length := by rw [← r2.len]; exact hbl
              have hy : Lq[a]? = some (Lq[a]) := List.getElem?_eq_getElem hal2
              generalize Lq[a] = y at hy
              obtain ⟨gq, capq, rfl, hgB, hg0, hc1, hc2, s0, s1, s2, s3, s4, y0, y1, y2, y3, y4, y5, y6, y7, y8, hfz⟩ := r1.at hy
              have hlt2 : (a : Int) < (Lq.length : Int) := by omega
              have hfz6 := hfz (a * 9 + 6)
              have R1 := Lib.hid r1
              have R2 := Lib.hid r2
              have R3 := Lib.hid r3
              have HY := Lib.hid hy
              clear r1 r2 r3 hy s1 s2 s3 s4 y0 y1 y2 y3 y4 y5 y7 y8 hfz hC1
              go_wp2
              go_region
              all_goals go_wp2
              all_goals go_ret
              all_goals
                obtain ⟨t1, t2⟩ := StL.put (y := { y with be := (b : Int) }) R1.out HY.out (f := 6) (u := .int .i64 (b : Int)) (by omega) (fun q => by
                  match q with
                  | 0 => rfl
                  | 1 => rfl
                  | 2 => rfl
                  | 3 => rfl
                  | 4 => rfl
                  | 5 => rfl
                  | 6 => rfl
                  | 7 => rfl
                  | 8 => rfl
                  | q + 9 => rfl) rfl rfl
                have hex := R3.out.same (SameBe.set HY.out (b : Int))
                have hbd := R2.out.bind HY.out hra hrb hbl2 hab
                have hst : St { c with wks := c.wks + 1 } (A.bind a b (mk A x.lv I I.length)) (wr.setCell ⟨gq, a * 9 + 6, none⟩ (.int .i64 (b : Int))) := ⟨_, _, _, t1, hbd, ⟨fun j z hz hp θ θ' h1 h2 => hex.pl j z hz hp θ θ' ((Abs.bind_mod hA hra hrb hal hbl θ).1 h1).1 ((Abs.bind_mod hA hra hrb hal hbl θ').1 h2).1, hex.wk⟩⟩
                rw [← hlva, mk_all A (fun z h1 h2 => (HIs.out.1 z h1 h2).2) HIs.out.2.2] at hst
                have hkp6 := kp_of_kq HW5.out (by omega) HKQ.out (by omega)
                have hkpr : Kp c w6 wr := ⟨HKR.out.below, HKR.out.size, HKR.out.block⟩
                have ht2 : Kp c wr _ := ⟨t2.below, t2.size, t2.block⟩
                refine ⟨true, rfl, (hkp6.trans hkpr).trans (ht2.trans (Kp.of_below (Nat.le_of_lt (Nat.lt_of_le_of_lt (show c.b0 ≤ c.B from t1.hb) t1.lt)) (Below.refl _ _).drew)), fun _ => ?_, (fun h => by cases h)⟩
                rw [HT.out]
                refine ⟨?_, hst.below (Below.refl _ _).drew⟩
                rintro (h1 | ⟨z, h1, h2, h3⟩)
                · exact (HIs.out.1 a h1 hka).1 rfl
                · have := HIs.out.2.1 z h1 h2
                  have h3 : A.lv a < A.lv z := h3
                  omega
end Go.Proofs.YtncebhddcokkoaaDoor
/- Are all these types? -/
namespace Go.Proofs.YtncebhddcokkoaaDoor
open Go.RowKit
set_option linter.unusedSimpArgs false
set_option linter.unusedVariables false
/-- Numbers in memory. -/
def Ints (w : World) (q : Option Addr) (l : List Int) : Prop := ∀ (j : Nat) (y : Int), l[j]? = some y → ∃ g o, q = some ⟨g, o, none⟩ ∧ w.cell? ⟨g, o + j, none⟩ = some (.int .i64 y)
theorem Ints.below {w w' : World} {q : Option Addr} {l : List Int} (h : Ints w q l) (hb : Below w.heap.size w w') : Ints w' q l := by
  intro j y hy
  obtain ⟨g, o, e, hc⟩ := h j y hy
  exact ⟨g, o, e, by rw [hb.cell (block_lt_of_cell hc)]; exact hc⟩
theorem has1_any (c : Cfg) (v : Value) (L : List Nd) (W : World) (bs : Nat) (i : Int) (h : StL c v L W) (hs : W.heap[bs]? = some (.cells #[.pointer (some ⟨c.B, 0, none⟩)] 51 (0, 0))) :
    Calls Tryd.prog 74 #[.int .i64 i, .pointer (some ⟨bs, 0, none⟩)] W fun e W' => e = .returned (.bool (decide (i < 0 ∨ (L.length : Int) ≤ i))) ∧ W' = W := by
  obtain ⟨s0, s1, s2, s3, s4, ⟨q, cap, rfl⟩, _⟩ := h.own5
  have b0 := hb_at hs 0 rfl
  clear h hs s1 s2 s3 s4
  by_cases h0 : i < 0
  · have e : decide (i < 0 ∨ (L.length : Int) ≤ i) = true := by simp [h0]
    rw [e]
    clear e
    go_enter Tryd.func74, Tryd.ntmps74
    go_wp2
    go_ret
    exact ⟨rfl, rfl⟩
  · by_cases h1 : (L.length : Int) ≤ i
    · have e : decide (i < 0 ∨ (L.length : Int) ≤ i) = true := by simp [h1]
      rw [e]
      clear e
      go_enter Tryd.func74, Tryd.ntmps74
      go_wp2
      go_ret
      exact ⟨by simp [h1], rfl⟩
    · have e : decide (i < 0 ∨ (L.length : Int) ≤ i) = false := by simp [h0, h1]
      rw [e]
      clear e
      go_enter Tryd.func74, Tryd.ntmps74
      go_wp2
      go_ret
      exact ⟨by simp [h1], rfl⟩
set_option maxRecDepth 100000 in
theorem index_has (c : Cfg) (v : Value) (L : List Nd) (w : World) (bs : Nat) (q : Option Addr) (l : List Int) (cc : Nat) (h : StL c v L w) (hs : w.heap[bs]? = some (.cells #[.pointer (some ⟨c.B, 0, none⟩)] 51 (0, 0))) (hl : Ints w q l) (hn : l.length ≤ 1000000) :
    Calls Tryd.prog 75 #[.slice q l.length cc, .func (.func 74) #[] #[.pointer (some ⟨bs, 0, none⟩)]] w fun e w' => (∃ r : Int, e = .returned (.int .i64 r) ∧ (r ≥ 0 ↔ ∃ i ∈ l, i < 0 ∨ (L.length : Int) ≤ i)) ∧ Below w.heap.size w w' := by
  have HA := Lib.hid fun (W : World) (hW : Below w.heap.size w W) (i : Int) => has1_any c v L W bs i (h.below hW) (hb_below hs hW (hb_lt hs))
  have HL := Lib.hid hl
  clear h hs hl
  go_enter Tryd.func75, Tryd.ntmps75
  go_wp2
  go_loopw [8] (fun t wr => ∃ k : Nat, t = .int .i64 k ∧ k ≤ l.length ∧ Below w.heap.size w wr ∧ ∀ i ∈ l.take k, ¬ (i < 0 ∨ (L.length : Int) ≤ i)) (fun t _ => l.length - (intOf t).toNat)
  case atStart => exact ⟨0, rfl, Nat.zero_le _, Below.refl _ _, fun i hi => by simp at hi⟩
  case round =>
    obtain ⟨k, rfl, hk, hb, hall⟩ := hrel
    have HALL := Lib.hid hall
    have HB := Lib.hid hb
    clear hall hb
    by_cases hlt : k < l.length
    · have hki : (k : Int) < (l.length : Int) := by omega
      have hy := List.getElem?_eq_getElem hlt
      generalize l[k] = y at hy
      obtain ⟨g, o, rfl, hc⟩ := (HL.out.below HB.out) k y hy
      have HA2 := Lib.hid (HA.out wr HB.out y)
      have HY := Lib.hid hy
      clear hy
      by_cases hbad : y < 0 ∨ (L.length : Int) ≤ y
      · have hd : decide (y < 0 ∨ (L.length : Int) ≤ y) = true := by simpa using hbad
        rw [hd] at HA2
        have HBD := Lib.hid hbad
        clear hd hbad
        go_wp2_with (go_at_call 74; (with_reducible refine HA2.out.mono ?_); rintro e w1 ⟨rfl, rfl⟩)
        all_goals go_ret
        all_goals exact ⟨⟨k, rfl, ⟨fun _ => ⟨y, List.mem_of_getElem? HY.out, HBD.out⟩, fun _ => by omega⟩⟩, HB.out⟩
      · have hd : decide (y < 0 ∨ (L.length : Int) ≤ y) = false := by simpa using hbad
        rw [hd] at HA2
        have HBD := Lib.hid hbad
        clear hd hbad
        go_wp2_with (go_at_call 74; (with_reducible refine HA2.out.mono ?_); rintro e w1 ⟨rfl, rfl⟩)
        refine ⟨⟨k + 1, by go_num, by omega, HB.out, fun i hi => ?_⟩, by simp [intOf]; omega⟩
        have e : l.take (k + 1) = l.take k ++ [y] := by rw [List.take_add_one, HY.out]; rfl
        rw [e] at hi
        rcases List.mem_append.1 hi with hi | hi
        · exact HALL.out i hi
        · cases List.mem_singleton.1 hi; exact HBD.out
    · have hki : ¬ (k : Int) < (l.length : Int) := by omega
      obtain rfl : k = l.length := by omega
      rw [List.take_length] at HALL
      go_wp2
      go_ret
      exact ⟨⟨-1, rfl, ⟨fun h => by omega, fun ⟨i, hi, h⟩ => absurd h (HALL.out i hi)⟩⟩, HB.out⟩
set_option maxRecDepth 100000 in
theorem contains_has (c : Cfg) (v : Value) (L : List Nd) (w : World) (bs : Nat) (q : Option Addr) (l : List Int) (cc : Nat) (h : StL c v L w) (hs : w.heap[bs]? = some (.cells #[.pointer (some ⟨c.B, 0, none⟩)] 51 (0, 0))) (hl : Ints w q l) (hn : l.length ≤ 1000000) :
    Calls Tryd.prog 51 #[.slice q l.length cc, .func (.func 74) #[] #[.pointer (some ⟨bs, 0, none⟩)]] w fun e w' => (∃ r, e = .returned (.bool r) ∧ (r = true ↔ ∃ i ∈ l, i < 0 ∨ (L.length : Int) ≤ i)) ∧ Below w.heap.size w w' := by
  have HI := Lib.hid (index_has c v L w bs q l cc h hs hl hn)
  clear h hs hl
  go_enter Tryd.func51, Tryd.ntmps51
  go_wp2_with (go_at_call 75; (with_reducible refine HI.out.mono ?_); rintro e w1 ⟨⟨r, rfl, hr⟩, hb⟩; have HR := Lib.hid hr; have HB := Lib.hid hb; clear hr hb)
  all_goals go_ret
  all_goals exact ⟨⟨_, rfl, by simpa using HR.out⟩, HB.out⟩
set_option maxRecDepth 100000 in
theorem has_any (c : Cfg) (v : Value) (L : List Nd) (w : World) (q : Option Addr) (l : List Int) (cc : Nat) (h : StL c v L w) (hl : Ints w q l) (hn : l.length ≤ 1000000) :
    Calls Tryd.prog 50 #[.pointer (some ⟨c.B, 0, none⟩), .slice q l.length cc] w fun e w' => (∃ r, e = .returned (.bool r) ∧ (r = true ↔ c.full = false ∧ ∀ i ∈ l, 0 ≤ i ∧ i < (L.length : Int))) ∧ Below w.heap.size w w' := by
  have hb1 := below_alloc w (.cells #[.pointer (some ⟨c.B, 0, none⟩)] 51)
  have HS := Lib.hid (h.below hb1)
  have hs := hb_new w (.cells #[.pointer (some ⟨c.B, 0, none⟩)] 51)
  have HL := Lib.hid (hl.below hb1)
  have HB := Lib.hid hb1
  have b0 := hb_at hs 0 rfl
  clear h hl hb1
  go_enter Tryd.func50, Tryd.ntmps50
  go_upto_region 1 with (fail)
  generalize w.alloc (.cells #[.pointer (some ⟨c.B, 0, none⟩)] 51) = W1 at *
  have HC := Lib.hid (contains_has c v L W1 w.heap.size q l cc HS.out hs HL.out hn)
  clear hs
  cases hf : c.full with
  | true =>
    go_wp2_with (go_at_call 28; (refine (full_any c _ L _ HS.out).mono ?_); rintro e w' ⟨rfl, rfl⟩; rw [hf])
    all_goals go_ret
    all_goals exact ⟨⟨false, rfl, by simp [hf]⟩, HB.out⟩
  | false =>
    go_wp2_with (first
      | (go_at_call 28; (refine (full_any c _ L _ HS.out).mono ?_); rintro e w' ⟨rfl, rfl⟩; rw [hf])
      | (go_at_call 51; (with_reducible refine HC.out.mono ?_); rintro e w2 ⟨⟨r, rfl, hr⟩, hb⟩; have HR := Lib.hid hr; have HB2 := Lib.hid (HB.out.trans (hb.mono HB.out.size)); clear hr hb))
    all_goals go_ret
    all_goals
      refine ⟨⟨!r, rfl, ?_⟩, HB2.out⟩
      have h1 := HR.out
      cases r with
      | true =>
        obtain ⟨i, hi, h2⟩ := h1.1 rfl
        refine ⟨fun h => by simp at h, fun ⟨_, h⟩ => ?_⟩
        have := h i hi
        omega
      | false =>
        refine ⟨fun _ => ⟨hf, fun i hi => ?_⟩, fun _ => rfl⟩
        have h3 : ¬ (i < 0 ∨ (L.length : Int) ≤ i) := fun h4 => by
          have := h1.2 ⟨i, hi, h4⟩
          cases this
        omega
end Go.Proofs.YtncebhddcokkoaaDoor
/- Two types are made the same: a run's list in memory. -/
namespace Go.Proofs.YtncebhddcokkoaaDoor
open Go.RowKit
set_option linter.unusedSimpArgs false
set_option linter.unusedVariables false
namespace Abs
theorem Step.stk {A B : Abs} {l m : List Item} (h : Step A l (some (B, m))) (hI : Inv A l) (hS : Stk A l) : Stk B m := by
  cases h with
  | done h => exact hS.tail rfl fun _ _ h => h
  | @merge x y l h =>
    obtain ⟨a, b, ha, hb, h1, hal, hk⟩ := mark_top hI
    exact hS.tail rfl fun p q hpq => hpq.mrg ha hb (hI.ok.idem y) h hal.2.2.2.2 hk
  | same h => exact hS.tail rfl fun _ _ h => h
  | @bnd u v l h hv hb =>
    have hlt := hI.lt (.pr u v) (by simp)
    generalize et : A.turn (A.r u) (A.r v) = t at *
    obtain ⟨a, b⟩ := t
    obtain ⟨ra, rb, la, lb, hab, ka, hw, _⟩ := turn_spec hI.ok hlt.1 hlt.2 h hv et
    obtain ⟨x, hx, hx1⟩ := var_of ra la ka
    exact hS.tail rfl fun p q hpq => hpq.bnd hI.ok hx hx1
  | @kids u v l x y h hu hv hx hy hn => exact hS.kids hI.ok hu hn.2.2.2.2
theorem Inv.mlt {A : Abs} {l : List Item} (hI : Inv A l) : ∀ x ∈ marks l, x < A.l.length := by
  have key : ∀ (l : List Item), (∀ x ∈ l, match x with
    | .pr u v => u < A.l.length ∧ v < A.l.length
    | .mk x y => x < A.l.length ∧ y < A.l.length) → ∀ x ∈ marks l, x < A.l.length := by
    intro l
    induction l with
    | nil => intro _ x hx; cases hx
    | cons i l ih =>
      intro h x hx
      have h2 := ih fun y hy => h y (by simp [hy])
      cases i with
      | pr u v => exact h2 x hx
      | mk a b =>
        rcases List.mem_cons.1 hx with rfl | hx
        · exact (h (.mk x b) (by simp)).1
        · exact h2 x hx
  exact key l hI.lt
theorem nv_le (A : Abs) : A.nv ≤ A.l.length := by
  unfold nv
  have := List.countP_le_length (p := fun i => decide (A.r i = i) && decide (A.kd i = 1)) (l := List.range A.l.length)
  simpa using this
end Abs
/-- A pair of a run's list. -/
def code : Abs.Item → Int × Int
  | .pr u v => ((u : Int), (v : Int))
  | .mk x y => (-(x : Int) - 1, (y : Int))
abbrev pairV (p : Int × Int) : List Value := [.int .i64 p.1, .int .i64 p.2]
def PRow (base : Nat) (w : World) (v : Value) (ps : List (Int × Int)) : Prop := w.ownsRow base 78 2 v ps.length (ps.map pairV).flatten
theorem pair_len (ps : List (Int × Int)) : ∀ cs ∈ ps.map pairV, cs.length = 2 := by
  intro cs h
  obtain ⟨x, _, rfl⟩ := List.mem_map.1 h
  rfl
theorem PRow.shape {base : Nat} {w : World} {v : Value} {l : List (Int × Int)} (h : PRow base w v l) : ∃ q c, v = .slice q l.length c ∧ c ≤ maxLen ∧ l.length ≤ c := by
  rcases h.2 with ⟨rfl, h0⟩ | ⟨g, cap, cur, rfl, _, _, h1, h2, _⟩
  · exact ⟨none, 0, by rw [h0], by decide, by omega⟩
  · exact ⟨_, _, rfl, h2, h1⟩
theorem PRow.blk {base : Nat} {w : World} {v : Value} {l : List (Int × Int)} (h : PRow base w v l) : ∀ g, v.ownBlock = some g → base ≤ g ∧ ∃ cs, w.heap[g]? = some (.cells cs 78 (0, 0)) := by
  intro g hg
  rcases h.2 with ⟨rfl, h0⟩ | ⟨g', cap, cur, rfl, h3, h4, h1, h2, _⟩
  · cases hg
  · injection hg with hg
    subst hg
    exact ⟨h3, cur, h4⟩
theorem PRow.kp {base : Nat} {c : Cfg} {w w' : World} {v : Value} {l : List (Int × Int)} (h : PRow base w v l) (hk : Kp c w w') (hB : c.B < base) : PRow base w' v l := by
  refine own_kept h fun g y hg hy => hk.block g y hy ?_ ?_
  · have := (h.blk g hg).1; omega
  · intro cs fr e
    obtain ⟨_, cs', h2⟩ := h.blk g hg
    rw [h2] at hy
    cases hy
    injection e with _ e2 _
    exact absurd e2 (by decide)
theorem PRow.pop {base : Nat} {w : World} {v : Value} {T : List (Int × Int)} {t : Int × Int} (h : PRow base w v (T ++ [t])) : ∃ g cap, v = .slice (some ⟨g, 0, none⟩) (T.length + 1) cap ∧ T.length + 1 ≤ cap ∧ cap ≤ maxLen ∧ base ≤ g ∧ w.cell? ⟨g, T.length * 2, none⟩ = some (.int .i64 t.1) ∧ w.cell? ⟨g, T.length * 2 + 1, none⟩ = some (.int .i64 t.2) ∧ PRow base w (.slice (some ⟨g, 0, none⟩) T.length cap) T := by
  obtain ⟨hl, h2⟩ := h
  rw [List.length_append] at h2
  rcases h2 with ⟨rfl, h0⟩ | ⟨g, cap, cur, rfl, h3, h4, h5, h6, h7, h8⟩
  · have h9 : T.length + 1 = 0 := h0
    omega
  · have h5' : T.length + 1 ≤ cap := h5
    have hfl : (T.map pairV).flatten.length = T.length * 2 := by rw [cflat_len _ (pair_len T), List.length_map]
    have e1 : [t].length = 1 := rfl
    rw [List.map_append, List.flatten_append] at h8
    have hc : ∀ j u, (pairV t)[j]? = some u → cur[T.length * 2 + j]? = some u := by
      intro j u hu
      have hj : j < 2 := (List.getElem?_eq_some_iff.1 hu).1
      have e : (cur.toList.take ((T.length + [t].length) * 2))[T.length * 2 + j]? = ((T.map pairV).flatten ++ ([t].map pairV).flatten)[T.length * 2 + j]? := by rw [h8]
      rw [List.getElem?_take, if_pos (by rw [e1]; omega), List.getElem?_append_right (by omega), hfl] at e
      rw [← Array.getElem?_toList, e]
      have e9 : T.length * 2 + j - T.length * 2 = j := by omega
      rw [e9]
      simpa using hu
    refine ⟨g, cap, rfl, h5', h6, h3, by rw [hb_cell h4]; exact hc 0 _ rfl, by rw [hb_cell h4]; exact hc 1 _ rfl, hfl, .inr ⟨g, cap, cur, rfl, h3, h4, by omega, h6, h7, ?_⟩⟩
    have e := congrArg (List.take (T.length * 2)) h8
    rw [List.take_take] at e
    have e2 : min (T.length * 2) ((T.length + [t].length) * 2) = T.length * 2 := by rw [e1]; omega
    rw [e2] at e
    rw [e, ← hfl, List.take_left]
theorem info78 : ∃ i z, Tryd.prog.info? 78 = some i ∧ i.zero = some z ∧ i.size = 2 ∧ i.bytes = 16 ∧ z.cells.size = 2 := by
  have h : (Tryd.prog.info? 78).map (fun i => (i.zero, i.size, i.bytes)) = some (some (.agg #[.int .i64 0, .int .i64 0]), 2, 16) := by kernel_rfl
  obtain ⟨i, hi, e⟩ := Option.map_eq_some_iff.1 h
  injection e with e1 e2
  injection e2 with e2 e3
  exact ⟨i, _, hi, e1, e2, e3, rfl⟩
theorem PRow.app {base : Nat} {w : World} {v : Value} {l : List (Int × Int)} {t : Int × Int} (h : PRow base w v l) (hbase : base ≤ w.heap.size) {g cc : Nat} (h0 : w.cell? ⟨g, 0, none⟩ = some (.int .i64 t.1)) (h0' : w.cell? ⟨g, 1, none⟩ = some (.int .i64 t.2)) (h1 : l.length ≤ 1000000) :
    ∃ v' w', (Builtin.append_ #[82, 82] 82 #[v, .slice (some ⟨g, 0, none⟩) 1 cc]).run Tryd.prog w = .ok v' w' ∧ PRow base w' v' (l ++ [t]) ∧ w.grownBy w' v.ownBlock ∧ (v'.ownBlock = v.ownBlock ∨ v'.ownBlock = some w.heap.size) := by
  obtain ⟨i, z, hi, hz, hs, hby, hzc⟩ := info78
  obtain ⟨v', w', r1, r2, r3, _, r5⟩ := run_append_own_at (P := Tryd.prog) (w := w) base 82 82 78 i z 2 16 (by kernel_rfl) hi hz hs hby hzc (by decide) v l.length (l.map pairV).flatten h ⟨g, 0, none⟩ 1 cc (pairV t) rfl
    (fun j u hu => by
      rw [add_zero_none]
      match j, hu with
      | 0, hu => obtain rfl := Option.some.inj hu; exact h0
      | 1, hu => obtain rfl := Option.some.inj hu; exact h0'
      | j + 2, hu => simp at hu)
    (fun u hu => by
      simp only [List.mem_cons, List.not_mem_nil, or_false] at hu
      rcases hu with rfl | rfl <;> rfl)
    (by unfold maxLen; omega) (by omega) hbase
  refine ⟨v', w', r1, ?_, r3, r5⟩
  show w'.ownsRow base 78 2 v' (l ++ [t]).length ((l ++ [t]).map pairV).flatten
  have e : ((l ++ [t]).map pairV).flatten = (l.map pairV).flatten ++ pairV t := by simp
  rw [List.length_append, e]
  exact r2
end Go.Proofs.YtncebhddcokkoaaDoor
