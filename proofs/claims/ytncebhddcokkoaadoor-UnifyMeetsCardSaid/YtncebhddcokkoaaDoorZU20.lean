/- Texts in a row: Qh U1 Ud. -/
import Derived.Test.YtncebhddcokkoaaDoorZU19
import Derived.Test.YtncebhddcokkoaaDoorZU10
import Derived.Test.YtncebhddcokkoaaDoorZU8
import Derived.Test.YtncebhddcokkoaaDoorZU5
import Derived.Outline
import Derived.Test.YtncebhddcokkoaaDoorZU13
import Derived.Maps.AppendAt
/- The document's solver: a type with all that its variables became. -/
namespace Go.Proofs.YtncebhddcokkoaaDoor
open Go.RowKit
set_option linter.unusedSimpArgs false
set_option linter.unusedVariables false
theorem RS.Fu.shape {S : RS} {ns : List ByteArray} {t x u : Tm} (hl : RS.Look S t x) (h : RS.Fu S x u) (hw : Wt ns x) : ∃ (k : Int) (p m : ByteArray) (l ms : List Tm), x = .mk k p m 0 l ∧ u = .mk k p m 0 ms ∧ l.length = ms.length ∧ ∀ (i : Nat) (a b : Tm), l[i]? = some a → ms[i]? = some b → RS.Fu S a b ∧ Wt ns a := by
  obtain ⟨k, N, p, m, l, rfl, hf⟩ := hl.top
  obtain rfl := hw.zero
  rcases h.inv rfl with ⟨rfl, hn, e⟩ | ⟨rfl, c, hc, _⟩ | ⟨hk, ms, e, hl, hm⟩
  · obtain ⟨h1, rfl, rfl, _⟩ := hw.var
    exact ⟨1, _, m, [], [], rfl, e, rfl, fun i a b ha => by simp at ha⟩
  · rw [hf rfl] at hc; cases hc
  · exact ⟨k, p, m, l, ms, rfl, e, hl, fun i a b ha hb => ⟨hm i a b ha hb, hw.kid hk (List.mem_of_getElem? ha)⟩⟩
/-- What Full answers. -/
def FullQ (n : Nat) (u : Tm) (w : World) (e : Ending) (w' : World) : Prop :=
  ∃ (k : Int) (p m : ByteArray) (N : Int) (q : Option Addr) (l c : Nat) (x : Tm) (r : Int), e = .returned (.tuple #[tv k p m N (.slice q l c), .int .i64 r]) ∧ IsX (fun b => w.heap.size ≤ b) w' (n + 2) (tv k p m N (.slice q l c)) x ∧
    ((cnt2 u ≤ n ∧ x = u ∧ r = (n : Int) - cnt2 u) ∨ (n < cnt2 u ∧ r = -1)) ∧ Below w.heap.size w w'
/-- How many terms the first ones have. -/
def cs9 (ms : List Tm) (j : Nat) : Nat := ((ms.take j).map cnt2).sum
theorem cs9_next {ms : List Tm} {j : Nat} {y : Tm} (h : ms[j]? = some y) : cs9 ms (j + 1) = cs9 ms j + cnt2 y := by
  obtain ⟨hj, rfl⟩ := List.getElem?_eq_some_iff.1 h
  unfold cs9
  rw [List.take_succ_eq_append_getElem hj, List.map_append, List.sum_append]
  simp
theorem cs9_le (ms : List Tm) (j : Nat) : cs9 ms j ≤ (ms.map cnt2).sum := by
  have e : (ms.map cnt2).sum = cs9 ms j + ((ms.drop j).map cnt2).sum := by
    unfold cs9
    rw [← List.sum_append, ← List.map_append, List.take_append_drop]
  omega
theorem cs9_all (ms : List Tm) : cs9 ms ms.length = (ms.map cnt2).sum := by unfold cs9; rw [List.take_length]
theorem cs9_ge (ms : List Tm) (j : Nat) (hj : j ≤ ms.length) : j ≤ cs9 ms j := by
  induction j with
  | zero => exact Nat.zero_le _
  | succ j ih =>
    have h : ms[j]? = some (ms[j]'(by omega)) := List.getElem?_eq_getElem _
    rw [cs9_next h]
    have := ih (by omega)
    have := cnt2_pos (ms[j]'(by omega))
    omega
set_option maxRecDepth 100000 in
set_option maxHeartbeats 4000000 in
theorem fullD_any {B0 B g D : Nat} {ns : List ByteArray} {S : RS} {nv : Value} {cg : Nat} (hI : S.Inv ns (ixO ns)) : ∀ (n : Nat) (w : World) (v : Value) (t uu : Tm), n ≤ 10000 → RSt B0 B g D ns S nv cg w → IsX (fun b => b < B0) w D v t → Wt ns t → RS.Fu S t uu →
    Calls Tryd.prog 43 #[.pointer (some ⟨B, 0, none⟩), v, .int .i64 (n : Int)] w (FullQ n uu w) := by
  intro n
  induction n using Nat.strongRecOn with
  | ind n ih =>
    intro w v t uu hn hR hv ht hf
    obtain ⟨k0, p0, n0, N0, q0, l0, c0, rfl⟩ := hv.shape
    obtain ⟨u, hu, hfu⟩ := RS.Look.ex hf
    have hwt := hu.wt hI ht
    obtain ⟨k9, p9, m9, l9, ms, hue, huu, hlm, hkf⟩ := hfu.shape hu hwt
    have hba := below2 w (.cells #[.int .i64 k0, .string p0, .string n0, .int .i64 N0, .slice q0 l0 c0] 36) (.cells #[.int .i64 0, .string ⟨#[]⟩, .string ⟨#[]⟩, .int .i64 0, .slice none 0 0] 36)
    have hn1 := hb_alloc (hb_new w (.cells #[.int .i64 k0, .string p0, .string n0, .int .i64 N0, .slice q0 l0 c0] 36)) (.cells #[.int .i64 0, .string ⟨#[]⟩, .string ⟨#[]⟩, .int .i64 0, .slice none 0 0] 36)
    have hn2 := hb_new (w.alloc (.cells #[.int .i64 k0, .string p0, .string n0, .int .i64 N0, .slice q0 l0 c0] 36)) (.cells #[.int .i64 0, .string ⟨#[]⟩, .string ⟨#[]⟩, .int .i64 0, .slice none 0 0] 36)
    simp only [World.size_alloc] at hn2
    have HLK := Lib.hid (look_any (hR.below hba) hI (hv.below hba) ht hu)
    have HR := Lib.hid hR
    have HI := Lib.hid hI
    have HIH := Lib.hid ih
    have HUU := Lib.hid huu
    have HUE := Lib.hid hue
    have HLM := Lib.hid hlm
    have HKF := Lib.hid hkf
    have HBA := Lib.hid hba
    have HN1 := Lib.hid hn1
    have HN2 := Lib.hid hn2
    have HB0 := Lib.hid hR.b0
    have hBl := hR.lt
    clear hR hI hv ht hf hu hfu hwt ih hba hn1 hn2 huu hue hlm hkf
    go_enter Tryd.func43, Tryd.ntmps43
    go_upto_region 1 with (fail)
    generalize (w.alloc (.cells #[.int .i64 k0, .string p0, .string n0, .int .i64 N0, .slice q0 l0 c0] 36)).alloc (.cells #[.int .i64 0, .string ⟨#[]⟩, .string ⟨#[]⟩, .int .i64 0, .slice none 0 0] 36) = W0 at *
    obtain ⟨x0, x1, x2, x3, x4⟩ := box_cells HN1.out
    go_upto_region 2 with (go_at_call 70; (with_reducible refine HLK.out.mono ?_); rintro e w1 ⟨k, p, m, N, q, l, c, rfl, hx, hb⟩; have HX := Lib.hid hx; have HB1 := Lib.hid hb; have hb1 := hb_below HN1.out hb (hb_lt HN1.out); have f0 := hb_free hb1 0; have f1 := hb_free hb1 1; have f2 := hb_free hb1 2; have f3 := hb_free hb1 3; have f4 := hb_free hb1 4; have e0 := hb_at hb1 0 rfl; have e1 := hb_at hb1 1 rfl; have e2 := hb_at hb1 2 rfl; have e3 := hb_at hb1 3 rfl; have e4 := hb_at hb1 4 rfl; have HBB := Lib.hid hb1; clear hx hb hb1)
    obtain ⟨y1, y2, y3⟩ := box_set (base := w.heap.size) (Nat.le_refl _) HBB.out (.int .i64 k) (.string p) (.string m) (.int .i64 N) (.slice q l c)
    have hX2 := HX.out.move (Y := fun b => b < B0) fun b hb _ => ⟨hb, y3.block b (by have := HB0.out; omega)⟩
    have HB2 := Lib.hid ((HBA.out.trans (HB1.out.mono HBA.out.size)).trans y3)
    have HY1 := Lib.hid y1
    have HY2 := Lib.hid ((y2 (w.heap.size + 1) (by omega)).trans (hb_below HN2.out HB1.out (hb_lt HN2.out)))
    clear y1 y2 y3 HN1 HN2 HBB HB1 HBA HLK HX f0 f1 f2 f3 f4 e0 e1 e2 e3 e4 x0 x1 x2 x3 x4
    generalize (((((w1.setCell ⟨w.heap.size, 0, none⟩ (.int .i64 k)).setCell ⟨w.heap.size, 1, none⟩ (.string p)).setCell ⟨w.heap.size, 2, none⟩ (.string m)).setCell ⟨w.heap.size, 3, none⟩ (.int .i64 N)).setCell ⟨w.heap.size, 4, none⟩ (.slice q l c)) = W2 at *
    obtain ⟨k', p', m', N', q', c', l', hv, hue, hps, hms, hll, hkids⟩ := hX2.opn
    cases hv
    obtain ⟨rfl, rfl, rfl, rfl, rfl⟩ : k9 = k ∧ p9 = p ∧ m9 = m ∧ 0 = N ∧ l9 = l' := by rw [HUE.out] at hue; injection hue with a1 a2 a3 a4 a5; exact ⟨a1, a2, a3, a4, a5⟩
    have HKIDS := Lib.hid hkids
    have HPS := Lib.hid hps
    have HMS := Lib.hid hms
    clear hX2 hkids hue HUE hps hms
    unfold maxLen at hll
    obtain ⟨z0, z1, z2, z3, z4⟩ := box_cells HY1.out
    go_upto_region 4 with (fail)
    have HB3 := Lib.hid (below_alloc W2 (.cells #[.int .i64 k9, .string p9, .string m9, .int .i64 0, .slice none 0 0] 36))
    have hg3 := hb_new W2 (.cells #[.int .i64 k9, .string p9, .string m9, .int .i64 0, .slice none 0 0] 36)
    have HG3 := Lib.hid hg3
    have HSZ2 := Lib.hid (hb_lt HY2.out)
    have HY1 := Lib.hid (hb_below HY1.out HB3.out (hb_lt HY1.out))
    have HY2 := Lib.hid (hb_below HY2.out HB3.out (hb_lt HY2.out))
    clear hg3 z0 z1 z2 z3 z4
    generalize W2.alloc (.cells #[.int .i64 k9, .string p9, .string m9, .int .i64 0, .slice none 0 0] 36) = W3 at *
    generalize hG : W2.heap.size = G at *
    have HGE := Lib.hid hG
    clear hG
    obtain ⟨z0, z1, z2, z3, z4⟩ := box_cells HY1.out
    obtain ⟨a0, a1, a2, a3, a4⟩ := box_cells HG3.out
    have g0 := hb_free HG3.out 0
    have g1 := hb_free HG3.out 1
    have g2 := hb_free HG3.out 2
    have g3 := hb_free HG3.out 3
    have g4 := hb_free HG3.out 4
    rcases Bool.eq_false_or_eq_true (k9 != 1) with hk1 | hk1
    all_goals
      go_upto_region 6 with (fail)
      go_wp2
      (try rw [setCell_id a3])
      clear z0 z1 z2 z3 z4 a0 a1 a2 a3 a4 g0 g1 g2 g3 g4
      go_loopw [2, 9] (fun t2 t9 wr => ∃ (j : Nat) (r : Int) (sv : Value) (done : List Tm), j ≤ l9.length ∧ t9 = .int .i64 j ∧ t2 = .int .i64 r ∧ done.length = j ∧ wr.heap[G]? = some (.cells #[.int .i64 k9, .string p9, .string m9, .int .i64 0, sv] 36 (0, 0)) ∧ MadeB 0 (G + 1) wr (n + 1) sv done ∧ Below G W3 wr ∧ G + 1 ≤ wr.heap.size ∧
        wr.heap[w.heap.size]? = some (.cells #[.int .i64 k9, .string p9, .string m9, .int .i64 0, .slice q l9.length c] 36 (0, 0)) ∧ wr.heap[w.heap.size + 1]? = some (.cells #[.int .i64 0, .string ⟨#[]⟩, .string ⟨#[]⟩, .int .i64 0, .slice none 0 0] 36 (0, 0)) ∧
        ((done = ms.take j ∧ r = (n : Int) - 1 - cs9 ms j ∧ 1 + cs9 ms j ≤ n) ∨ (r = -1 ∧ n < 1 + cs9 ms j ∧ j ≤ n + 1))) (fun _ t9 _ => l9.length - (intOf t9).toNat)
      case atStart =>
        refine ⟨0, (n : Int) - 1, _, [], Nat.zero_le _, rfl, rfl, rfl, HG3.out, MadeB.nil _ _ _ _, Below.refl _ _, hb_lt HG3.out, HY1.out, HY2.out, ?_⟩
        have e0 : cs9 ms 0 = 0 := rfl
        rw [e0]
        by_cases h0 : 1 ≤ n
        · exact .inl ⟨rfl, by omega, by omega⟩
        · exact .inr ⟨by omega, by omega, by omega⟩
      case round =>
        obtain ⟨j, r, sv, done, hj, rfl, rfl, hdl, hbox, hmd, hbel, hsz, hb1, hb2, hcase⟩ := hrel
        obtain ⟨qs, cs, rfl⟩ := hmd.shape
        rw [hdl] at hbox hmd
        have HBOX := Lib.hid hbox
        have HMD := Lib.hid hmd
        have HDL := Lib.hid hdl
        have HBEL := Lib.hid hbel
        have HB1 := Lib.hid hb1
        have HB2' := Lib.hid hb2
        have HCASE := Lib.hid hcase
        have HB3' := Lib.hid (HB2.out.trans ((HB3.out.mono (by have := HB2.out.size; have := HGE.out; omega)).trans (hbel.mono (by have := HSZ2.out; have := HGE.out; omega))))
        obtain ⟨z0, z1, z2, z3, z4⟩ := box_cells hb1
        clear hbox hmd hdl hbel hb1 hb2
        by_cases hlt : j < l9.length
        · have hlt2 : (j : Int) < (l9.length : Int) := by omega
          rcases hcase with ⟨hd, hr, hle⟩ | ⟨hr, hgt, hjn⟩
          · obtain ⟨rn, hrn⟩ : ∃ rn : Nat, rn = n - 1 - cs9 ms j := ⟨_, rfl⟩
            obtain rfl : r = (rn : Int) := by omega
            have hge : decide ((rn : Int) ≥ 0) = true := by simp
            have hx := List.getElem?_eq_getElem hlt
            obtain ⟨y, hy⟩ := at_both HLM.out hx
            have hjn : j ≤ n := by
              have := cs9_ge ms j (by have := (List.getElem?_eq_some_iff.1 hy).1; omega)
              omega
            obtain ⟨bk, ok, k3, p3, n3, N3, q3, l3, c3, rfl, hbk, hta, hx3⟩ := HKIDS.out j _ hx
            obtain ⟨hfy, hwy⟩ := HKF.out j _ y hx hy
            have hBK := Lib.hid hbk
            have HRN := Lib.hid hrn
            have HD := Lib.hid hd
            have HLE := Lib.hid hle
            have HYY := Lib.hid hy
            have h2r : Below W2.heap.size W2 wr := by rw [HGE.out]; exact HB3.out.trans HBEL.out
            have H2R := Lib.hid h2r
            have HTA := Lib.hid (hta.below h2r hta.lt)
            have HX3 := Lib.hid (hx3.below h2r)
            have HFY := Lib.hid hfy
            have HWY := Lib.hid hwy
            clear hx hy hta hx3 hfy hwy hd hle hrn hbk h2r hr
            go_upto_region 10 with (fail)
            have HBK5 := Lib.hid (below_alloc wr (.cells #[.int .i64 0, .string ⟨#[]⟩, .string ⟨#[]⟩, .int .i64 0, .slice none 0 0] 36))
            have HK5 := Lib.hid (hb_new wr (.cells #[.int .i64 0, .string ⟨#[]⟩, .string ⟨#[]⟩, .int .i64 0, .slice none 0 0] 36))
            generalize wr.alloc (.cells #[.int .i64 0, .string ⟨#[]⟩, .string ⟨#[]⟩, .int .i64 0, .slice none 0 0] 36) = W5 at *
            have HB5 := Lib.hid (HB3'.out.trans (HBK5.out.mono HB3'.out.size))
            have HC := Lib.hid (HIH.out rn (by have := HRN.out; have := HLE.out; omega) W5 _ _ y (by have := HRN.out; omega) (HR.out.below HB5.out) ((HX3.out.below HBK5.out)) HWY.out HFY.out)
            obtain ⟨z0, z1, z2, z3, z4⟩ := box_cells (hb_below HB1.out HBK5.out (hb_lt HB1.out))
            obtain ⟨t0, t1, t2, t3, t4⟩ := HTA.out.below HBK5.out HTA.out.lt
            have HKZ := Lib.hid (hb_lt HK5.out)
            go_upto_region 11 with (go_at_call 43; (with_reducible refine HC.out.mono ?_); rintro e w6 ⟨k6, p6, m6, N6, q6, l6, c6, x6, r6, rfl, hx6, hc6, hb6⟩; have HX6 := Lib.hid hx6; have HC6 := Lib.hid hc6; have HB6 := Lib.hid hb6; have hk6 := hb_below HK5.out hb6 (hb_lt HK5.out); have HK6 := Lib.hid hk6; have f0 := hb_free hk6 0; have f1 := hb_free hk6 1; have f2 := hb_free hk6 2; have f3 := hb_free hk6 3; have f4 := hb_free hk6 4; have e0 := hb_at hk6 0 rfl; have e1 := hb_at hk6 1 rfl; have e2 := hb_at hk6 2 rfl; have e3 := hb_at hk6 3 rfl; have e4 := hb_at hk6 4 rfl; clear hx6 hc6 hb6 hk6)
            obtain ⟨u1, u2, u3⟩ := box_set (base := wr.heap.size) (Nat.le_refl _) HK6.out (.int .i64 k6) (.string p6) (.string m6) (.int .i64 N6) (.slice q6 l6 c6)
            have HX7 := Lib.hid (HX6.out.move (Y := fun b => wr.heap.size ≤ b) fun b hb _ => ⟨by have := HBK5.out.size; omega, u2 b (by have := HKZ.out; omega)⟩)
            have HB7 := Lib.hid ((HBK5.out.trans (HB6.out.mono HBK5.out.size)).trans u3)
            have HU1 := Lib.hid u1
            clear u1 u2 u3 HK6 HX6 HB6 HK5 HC HTA HX3 f0 f1 f2 f3 f4 e0 e1 e2 e3 e4 z0 z1 z2 z3 z4 t0 t1 t2 t3 t4
            generalize (((((w6.setCell ⟨wr.heap.size, 0, none⟩ (.int .i64 k6)).setCell ⟨wr.heap.size, 1, none⟩ (.string p6)).setCell ⟨wr.heap.size, 2, none⟩ (.string m6)).setCell ⟨wr.heap.size, 3, none⟩ (.int .i64 N6)).setCell ⟨wr.heap.size, 4, none⟩ (.slice q6 l6 c6)) = W7 at *
            have hb8 := below_alloc W7 (.cells #[.int .i64 k6, .string p6, .string m6, .int .i64 N6, .slice q6 l6 c6] 36)
            have HB8 := Lib.hid (HB7.out.trans (hb8.mono HB7.out.size))
            have hn8 := hb_new W7 (.cells #[.int .i64 k6, .string p6, .string m6, .int .i64 N6, .slice q6 l6 c6] 36)
            obtain ⟨v9, w9, hrun, hmd9, hb9⟩ := HMD.out.append (x := x6) (Nat.zero_le _) hsz HB8.out (((HX7.out.below hb8).more (by have := HRN.out; have := HLE.out; omega)).move fun b hb _ => ⟨.inr hb, rfl⟩) hn8 1 (by rw [HDL.out]; omega)
            obtain ⟨qv, cv, hsv⟩ := hmd9.shape
            have hdn : (done ++ [x6]).length = j + 1 := by rw [List.length_append, HDL.out]; rfl
            rw [hdn] at hsv
            subst hsv
            have HRUN := Lib.hid hrun
            have HMD9 := Lib.hid hmd9
            have HB9 := Lib.hid hb9
            have HDN := Lib.hid hdn
            obtain ⟨z0, z1, z2, z3, z4⟩ := box_cells (hb_below HBOX.out HB7.out (hb_lt HBOX.out))
            obtain ⟨t0, t1, t2, t3, t4⟩ := box_cells HU1.out
            have hbx9 := hb_below (hb_below HBOX.out HB8.out (hb_lt HBOX.out)) hb9 (Nat.lt_succ_self _)
            have HBX9 := Lib.hid hbx9
            have f4 := hb_free hbx9 4
            have e4 := hb_at hbx9 4 rfl
            clear hb8 hn8 hrun hmd9 hb9 hdn hbx9
            go_wp2_with (at_builtin; refine wpList_append_at rfl (.tmp 53) (.tmp 55) rfl rfl rfl rfl HRUN.out ?_)
            have G3 := hb_set_same HBX9.out 4 (.slice qv (j + 1) cv)
            have hB9' : Below G wr w9 := (HB8.out.mono (by omega)).trans (HB9.out.mono (Nat.le_succ _))
            refine ⟨⟨j + 1, r6, _, done ++ [x6], by omega, by go_num, rfl, HDN.out, G3, HMD9.out.move fun b hb1 hb2 => Below.heap_setCell _ _ _ b (by show b ≠ G; omega), (HBEL.out.trans hB9').setCell (Nat.le_refl _) _, by have := hB9'.size; simp [World.setCell]; omega, ?_, ?_, ?_⟩, by simp [intOf]; omega⟩
            · exact hb_set_other (hb_below HB1.out hB9' (by have := HSZ2.out; have := HGE.out; omega)) _ (by have := HSZ2.out; have := HGE.out; show w.heap.size ≠ G; omega)
            · exact hb_set_other (hb_below HB2'.out hB9' (by have := HSZ2.out; have := HGE.out; omega)) _ (by have := HSZ2.out; have := HGE.out; show w.heap.size + 1 ≠ G; omega)
            · rw [cs9_next HYY.out]
              have hle := HLE.out
              have hrn := HRN.out
              rcases HC6.out with ⟨h1, h2, h3⟩ | ⟨h1, h2⟩
              · left
                refine ⟨?_, by omega, by omega⟩
                rw [HD.out, h2, List.take_add_one, HYY.out]
                rfl
              · right
                exact ⟨h2, by omega, by omega⟩
          · subst hr
            have hge : decide ((-1 : Int) ≥ 0) = false := by decide
            obtain ⟨a0, a1, a2, a3, a4⟩ := box_cells HBOX.out
            obtain ⟨e0, e1, e2, e3, e4⟩ := box_cells HB2'.out
            have f0 := hb_free HB2'.out 0
            have f1 := hb_free HB2'.out 1
            have f2 := hb_free HB2'.out 2
            have f3 := hb_free HB2'.out 3
            have f4 := hb_free HB2'.out 4
            go_wp2
            obtain ⟨u1, u2, u3⟩ := box_set (base := w.heap.size) (Nat.le_succ _) HB2'.out (.int .i64 k9) (.string p9) (.string m9) (.int .i64 0) (.slice qs j cs)
            generalize (((((wr.setCell ⟨w.heap.size + 1, 0, none⟩ (.int .i64 k9)).setCell ⟨w.heap.size + 1, 1, none⟩ (.string p9)).setCell ⟨w.heap.size + 1, 2, none⟩ (.string m9)).setCell ⟨w.heap.size + 1, 3, none⟩ (.int .i64 0)).setCell ⟨w.heap.size + 1, 4, none⟩ (.slice qs j cs)) = WF at *
            refine bodyPost_ret (v := .tuple #[tv k9 p9 m9 0 (.slice qs j cs), .int .i64 (-1)]) (by simp [results, Tryd.results43, go_sem, hb_at u1 0 rfl, hb_at u1 1 rfl, hb_at u1 2 rfl, hb_at u1 3 rfl, hb_at u1 4 rfl]) rfl ⟨k9, p9, m9, 0, qs, j, cs, .mk k9 p9 m9 0 done, _, rfl, ?_, ?_, HB3'.out.trans u3⟩
            · have hKX := (HMD.out.all (w' := WF) (by rw [HDL.out]; unfold maxLen; omega) (fun b hb => u2 b (by have := HGE.out; have := HSZ2.out; omega))).mono (Y := fun b => w.heap.size ≤ b) (fun b hb => by have := HGE.out; have := HSZ2.out; omega)
              rw [← HDL.out] at hKX ⊢
              exact IsX.mk HPS.out HMS.out hKX
            · right
              refine ⟨?_, rfl⟩
              rw [HUU.out, cnt2_eq]
              have := cs9_le ms j
              omega
        · obtain rfl : j = l9.length := by omega
          obtain ⟨a0, a1, a2, a3, a4⟩ := box_cells HBOX.out
          obtain ⟨e0, e1, e2, e3, e4⟩ := box_cells HB2'.out
          have f0 := hb_free HB2'.out 0
          have f1 := hb_free HB2'.out 1
          have f2 := hb_free HB2'.out 2
          have f3 := hb_free HB2'.out 3
          have f4 := hb_free HB2'.out 4
          go_wp2
          obtain ⟨u1, u2, u3⟩ := box_set (base := w.heap.size) (Nat.le_succ _) HB2'.out (.int .i64 k9) (.string p9) (.string m9) (.int .i64 0) (.slice qs l9.length cs)
          generalize (((((wr.setCell ⟨w.heap.size + 1, 0, none⟩ (.int .i64 k9)).setCell ⟨w.heap.size + 1, 1, none⟩ (.string p9)).setCell ⟨w.heap.size + 1, 2, none⟩ (.string m9)).setCell ⟨w.heap.size + 1, 3, none⟩ (.int .i64 0)).setCell ⟨w.heap.size + 1, 4, none⟩ (.slice qs l9.length cs)) = WF at *
          refine bodyPost_ret (v := .tuple #[tv k9 p9 m9 0 (.slice qs l9.length cs), .int .i64 r]) (by simp [results, Tryd.results43, go_sem, hb_at u1 0 rfl, hb_at u1 1 rfl, hb_at u1 2 rfl, hb_at u1 3 rfl, hb_at u1 4 rfl]) rfl ⟨k9, p9, m9, 0, qs, l9.length, cs, .mk k9 p9 m9 0 done, _, rfl, ?_, ?_, HB3'.out.trans u3⟩
          · have hKX := (HMD.out.all (w' := WF) (by rw [HDL.out]; unfold maxLen; omega) (fun b hb => u2 b (by have := HGE.out; have := HSZ2.out; omega))).mono (Y := fun b => w.heap.size ≤ b) (fun b hb => by have := HGE.out; have := HSZ2.out; omega)
            rw [← HDL.out] at hKX ⊢
            exact IsX.mk HPS.out HMS.out hKX
          · rw [HUU.out, cnt2_eq]
            have hall : cs9 ms l9.length = (ms.map cnt2).sum := by rw [HLM.out]; exact cs9_all ms
            rcases HCASE.out with ⟨h1, h2, h3⟩ | ⟨h1, h2, h3⟩
            · left
              rw [hall] at h2 h3
              refine ⟨h3, ?_, by rw [h2]; omega⟩
              rw [h1, HLM.out, List.take_length]
            · right
              rw [hall] at h2
              exact ⟨h2, h1⟩
end Go.Proofs.YtncebhddcokkoaaDoor
/- Is a text one of some: both functions. -/
namespace Go.Proofs.YtncebhddcokkoaaDoor
open Go.RowKit
theorem inN_yes {s : ByteArray} {l : List ByteArray} {k : Nat} (h : l[k]? = some s) : inN s l = true := by
  unfold inN
  exact List.any_eq_true.2 ⟨s, List.mem_of_getElem? h, by simp⟩
theorem inN_no {s : ByteArray} {l : List ByteArray} (h : ∀ t ∈ l, t ≠ s) : inN s l = false := by
  unfold inN
  exact List.any_eq_false.2 fun t ht => by simpa using h t ht
set_option maxRecDepth 100000 in
set_option maxHeartbeats 1000000 in
theorem in51_any (s : ByteArray) (v : Value) (l : List ByteArray) (w : World) (h : SRow w v l) (hl : l.length ≤ 1000000) : Calls Tryd.prog 64 #[.string s, v] w fun e w' => e = .returned (.bool (inN s l)) ∧ w = w' := by
  obtain ⟨q1, c1, rfl, h1⟩ := h
  have H1 := Lib.hid h1
  clear h1
  go_enter Tryd.func64, Tryd.ntmps64
  go_wp2
  go_loop [5] (fun i => ∃ k : Nat, k ≤ l.length ∧ i = .int .i64 k ∧ (∀ t ∈ l.take k, t ≠ s)) (fun i => l.length - (intOf i).toNat)
  case atStart => exact ⟨0, Nat.zero_le _, rfl, by simp⟩
  case round =>
    obtain ⟨k, hk, rfl, hn⟩ := hrel
    have HN := Lib.hid hn
    clear hn
    by_cases hlt : k < l.length
    · have HK : RowKit.Hid (l[k]? = some l[k]) := Lib.hid (List.getElem?_eq_getElem hlt)
      have HT : RowKit.Hid (l.take (k + 1) = l.take k ++ [l[k]]) := Lib.hid (List.take_succ_eq_append_getElem hlt)
      obtain ⟨g1, e1, ha1⟩ := H1.out k l[k] HK.out
      subst e1
      generalize l[k] = x at *
      have hki : (k : Int) < (l.length : Int) := by omega
      by_cases hx : x = s
      · have he : (x.toList == s.toList) = true := by rw [hx]; simp
        have HX := Lib.hid hx
        clear hx
        go_wp2
        go_ret
        exact ⟨ret_bool (inN_yes (by rw [HK.out, HX.out])).symm, rfl⟩
      · have he : (x.toList == s.toList) = false := by
          rw [beq_eq_false_iff_ne]
          intro h
          rw [ByteArray.toList_eq, ByteArray.toList_eq] at h
          exact hx (name_eq h)
        have HX := Lib.hid hx
        clear hx
        go_wp2
        go_round
        case rel =>
          refine ⟨k + 1, by omega, by go_num, fun t ht => ?_⟩
          rw [HT.out] at ht
          rcases List.mem_append.1 ht with ht | ht
          · exact HN.out t ht
          · rw [List.mem_singleton.1 ht]; exact HX.out
        case measure => simp [intOf]; omega
    · obtain rfl : k = l.length := by omega
      go_wp2
      go_ret
      exact ⟨ret_bool (inN_no (by have := HN.out; rwa [List.take_length] at this)).symm, rfl⟩
theorem in_any (s : ByteArray) (v : Value) (l : List ByteArray) (w : World) (h : SRow w v l) (hl : l.length ≤ 1000000) : Calls Tryd.prog 36 #[.string s, v] w fun e w' => e = .returned (.bool (inN s l)) ∧ w = w' := by
  have H := Lib.hid (in51_any s v l w h hl)
  clear h
  go_enter Tryd.func36, Tryd.ntmps36
  go_wp2_with (go_at_call 64; refine H.out.mono ?_; rintro e w' ⟨rfl, rfl⟩)
  go_ret
  exact ⟨rfl, rfl⟩
end Go.Proofs.YtncebhddcokkoaaDoor
/- An append of a slice of texts to a row of the call's own. -/
namespace Go.Proofs.YtncebhddcokkoaaDoor
open Go.RowKit
theorem grown_refl (w : World) (row : Option Nat) : w.grownBy w row := ⟨rfl, rfl, rfl, Nat.le_refl _, fun _ _ _ => rfl⟩
theorem append_s (w : World) (base : Nat) (v vx : Value) (xs l : List ByteArray) (hown : w.ownsRow base 9 1 v xs.length (xs.map .string)) (hr : SRow w vx l) (hn : xs.length + l.length ≤ 200000) (hbase : base ≤ w.heap.size) :
    ∃ v' w', (Builtin.append_ #[33, 33] 33 #[v, vx]).run Tryd.prog w = .ok v' w' ∧ w'.ownsRow base 9 1 v' (xs ++ l).length ((xs ++ l).map .string) ∧ w.grownBy w' v.ownBlock ∧ (v'.ownBlock = v.ownBlock ∨ v'.ownBlock = some w.heap.size) := by
  obtain ⟨i0, hi, hz0, hz1, hz2⟩ := info_parts info9
  obtain ⟨q, c, rfl, hx⟩ := hr
  rw [List.length_append, List.map_append]
  cases q with
  | none =>
    have hl : l = [] := by
      cases l with
      | nil => rfl
      | cons y l => obtain ⟨b, h, _⟩ := hx 0 y rfl; cases h
    subst hl
    refine ⟨v, w, ?_, by simpa using hown, grown_refl _ _, .inl rfl⟩
    rcases hown.2 with ⟨rfl, _⟩ | ⟨g, cap, cur, rfl, _, _, hnc, _⟩
    · simp [Builtin.append_, run_underlying Tryd.underlying33, sizeOf, typeInfo, hi, Builtin.lenOf, Builtin.firstCells]
    · simp [Builtin.append_, run_underlying Tryd.underlying33, sizeOf, typeInfo, hi, Builtin.lenOf, Builtin.firstCells, hnc, storeCells]
  | some ad =>
    have hcells : ∀ j u, (l.map Value.string)[j]? = some u → w.cell? (ad.add j) = some u := by
      intro j u hu
      rw [List.getElem?_map] at hu
      cases hj : l[j]? with
      | none => rw [hj] at hu; cases hu
      | some s =>
        rw [hj] at hu
        cases hu
        obtain ⟨g2, e, h2⟩ := hx j s hj
        cases e
        rw [add_zero_none]
        exact h2
    obtain ⟨v', w', h1, h2, h3, _, h5⟩ := run_append_own_at (P := Tryd.prog) w base 33 33 9 i0 _ 1 16 Tryd.underlying33 hi hz0 hz1 hz2 rfl (by decide) v xs.length (xs.map .string) hown ad l.length c (l.map .string) (by simp) hcells
      (fun u hu => by
        rw [List.mem_map] at hu
        obtain ⟨y, _, rfl⟩ := hu
        rfl)
      (by unfold maxLen; omega) (by omega) hbase
    exact ⟨v', w', h1, h2, h3, h5⟩
theorem SRow.one {w : World} {g : Nat} {x : ByteArray} (h : w.heap[g]? = some (.cells #[.string x] 9 (0, 0))) : SRow w (.slice (some ⟨g, 0, none⟩) 1 1) [x] := by
  refine ⟨_, 1, rfl, fun i y hy => ⟨g, rfl, ?_⟩⟩
  match i, hy with
  | 0, hy => cases hy; exact hb_at h 0 rfl
  | i + 1, hy => simp at hy
end Go.Proofs.YtncebhddcokkoaaDoor
