/- Texts in a row: Mf Mh Mg. -/
import Derived.Test.YtncebhddcokkoaaDoorZR27
/- The rigid example's steps, and its calls. -/
namespace Go.Proofs.YtncebhddcokkoaaDoor
open Go.RowKit Go.Maps
set_option linter.unusedSimpArgs false
set_option linter.unusedVariables false
namespace Abs
theorem s1 (lv o : Int) : Step (R0 lv o) [.pr 0 1] none := rig_clash rfl rfl rfl
theorem s2 (lv o : Int) : Step (R0 lv o) [.pr 0 0] (some (R0 lv o, [])) := .same rfl
theorem s3 {lv o : Int} (h : o ≤ lv) : Step (R0 lv o) [.pr 2 0] (some (R1 lv o, [])) := v_bnd rfl rfl rfl (by show ¬ lv < o; omega)
theorem s3n {lv o : Int} (h : ¬ o ≤ lv) : Step (R0 lv o) [.pr 2 0] none := v_bad rfl rfl rfl (by show lv < o; omega)
theorem s4 {lv o : Int} (h : o ≤ lv) : Step (R1 lv o) [.pr 5 4] (some (R2 lv o, [])) := f_bnd rfl rfl rfl rfl rfl (by show ¬ lv < o; omega) rfl
theorem s4n {lv o : Int} (h : ¬ o ≤ lv) : Step (R0 lv o) [.pr 5 4] none := f_bad rfl rfl rfl rfl (by show lv < o; omega)
theorem s5 (lv o : Int) : Step (R2 lv o) [.pr 3 4] none := w_bad rfl rfl rfl
theorem s5n (lv o : Int) : Step (R0 lv o) [.pr 3 4] none := w_bad rfl rfl rfl
end Abs
theorem uniN {c : Cfg} {A : Abs} {w : World} {u v : Nat} {iu iv k : Int} (eu : (u : Int) = iu) (ev : (v : Int) = iv) (hI : Abs.Inv A []) (h : St { c with wks := k } A w) (hl : A.l = Abs.lR) (hu : u < 6) (hv : v < 6) (hf : c.full = false) (hw0 : 0 ≤ k) (hw1 : k ≤ 1000) (hs : Abs.Step A [.pr u v] none) :
    Calls Tryd.prog 27 #[.pointer (some ⟨c.B, 0, none⟩), .int .i64 iu, .int .i64 iv] w fun e w' => e = .returned (.bool false) ∧ ∃ k' : Int, 0 ≤ k' ∧ k' ≤ k + 7 ∧ Kp c w w' ∧ St { c with wks := k' } A w' := by
  subst eu ev
  refine (uni_none (c := { c with wks := k }) hI h hl hu hv hf hw0 hw1 hs).mono ?_
  rintro e w' ⟨he, k', h1, h2, h3, h4⟩
  exact ⟨he, k', h1, h2, ⟨h3.below, h3.size, h3.block⟩, h4⟩
theorem uniS {c : Cfg} {A B : Abs} {w : World} {u v : Nat} {iu iv k : Int} (eu : (u : Int) = iu) (ev : (v : Int) = iv) (hI : Abs.Inv A []) (h : St { c with wks := k } A w) (hl : A.l = Abs.lR) (hu : u < 6) (hv : v < 6) (hf : c.full = false) (hw0 : 0 ≤ k) (hw1 : k ≤ 1000) (hs : Abs.Step A [.pr u v] (some (B, []))) :
    Calls Tryd.prog 27 #[.pointer (some ⟨c.B, 0, none⟩), .int .i64 iu, .int .i64 iv] w fun e w' => e = .returned (.bool true) ∧ ∃ k' : Int, 0 ≤ k' ∧ k' ≤ k + 7 ∧ Kp c w w' ∧ St { c with wks := k' } B w' ∧ Abs.Inv B [] := by
  subst eu ev
  refine (uni_some (c := { c with wks := k }) hI h hl hu hv hf hw0 hw1 hs).mono ?_
  rintro e w' ⟨he, k', h1, h2, h3, h4, h5⟩
  exact ⟨he, k', h1, h2, ⟨h3.below, h3.size, h3.block⟩, h4, h5⟩
theorem new_c (w : World) (b : Int) (h0 : 0 ≤ b) (hb : b ≤ 200000) : Calls Tryd.prog 23 #[.int .i64 b] w fun e w' => ∃ c : Cfg, e = .returned (.pointer (some ⟨c.B, 0, none⟩)) ∧ c.b0 = w.heap.size ∧ c.bud = b ∧ c.full = false ∧ c.wks = 0 ∧ StL c (.slice none 0 0) [] w' ∧ Below w.heap.size w w' := by
  refine (new_any w b h0 hb).mono ?_
  rintro e w' ⟨rfl, h1, h2⟩
  exact ⟨_, rfl, rfl, rfl, rfl, rfl, h1, h2⟩
theorem kp_bel {c : Cfg} {n : Nat} {w0 w w' : World} (h : Below n w0 w) (k : Kp c w w') (hc : n ≤ c.b0) : Below n w0 w' := h.trans (k.below.mono hc)
theorem rem_b (z : Int) (h1 : -9223372036854775808 ≤ z) (h2 : z ≤ 9223372036854775807) : ∃ n : Nat, n ≤ 20 ∧ (RowKit.wrap64 (z.tmod 21 + 21)).tmod 21 = (n : Int) := by
  have b1 := Int.lt_tmod_of_pos z (b := 21) (by decide)
  have b2 := Int.tmod_lt_of_pos z (b := 21) (by decide)
  have e : RowKit.wrap64 (z.tmod 21 + 21) = z.tmod 21 + 21 := by unfold RowKit.wrap64; omega
  rw [e]
  have b3 := Int.tmod_nonneg (a := z.tmod 21 + 21) 21 (by omega)
  have b4 := Int.tmod_lt_of_pos (z.tmod 21 + 21) (b := 21) (by decide)
  exact ⟨_, by omega, (Int.toNat_of_nonneg b3).symm⟩
end Go.Proofs.YtncebhddcokkoaaDoor
/- A full store, and none. -/
namespace Go.Proofs.YtncebhddcokkoaaDoor
open Go.RowKit Go.Maps
set_option linter.unusedSimpArgs false
set_option linter.unusedVariables false
theorem ints2 (w : World) (a b : Int) : Ints (w.alloc (.cells #[.int .i64 a, .int .i64 b] 3)) (some ⟨w.heap.size, 0, none⟩) [a, b] := by
  intro j y hy
  have hn := hb_new w (.cells #[.int .i64 a, .int .i64 b] 3)
  match j, hy with
  | 0, hy => cases hy; exact ⟨_, 0, rfl, hb_at hn 0 rfl⟩
  | 1, hy => cases hy; exact ⟨_, 0, rfl, hb_at hn 1 rfl⟩
  | j + 2, hy => cases hy
theorem has_full {c : Cfg} {v : Value} {L : List Nd} {w : World} {q : Option Addr} {l : List Int} {cc n : Nat} (hn : l.length = n) (h : StL c v L w) (hf : c.full = true) (hl : Ints w q l) (hn' : l.length ≤ 1000000) :
    Calls Tryd.prog 50 #[.pointer (some ⟨c.B, 0, none⟩), .slice q n cc] w fun e w' => e = .returned (.bool false) ∧ Below w.heap.size w w' := by
  subst hn
  refine (has_any c v L w q l cc h hl hn').mono ?_
  rintro e w' ⟨⟨r, rfl, hr⟩, hb⟩
  cases r with
  | false => exact ⟨rfl, hb⟩
  | true =>
    have := (hr.1 rfl).1
    rw [hf] at this
    cases this
set_option maxRecDepth 100000 in
theorem has_nil (w : World) (q : Option Addr) (n cc : Nat) : Calls Tryd.prog 50 #[.pointer none, .slice q n cc] w fun e w' => e = .returned (.bool false) ∧ Below w.heap.size w w' := by
  have hb1 := below_alloc w (.cells #[.pointer none] 51)
  have hs := hb_new w (.cells #[.pointer none] 51)
  have HB := Lib.hid hb1
  have b0 := hb_at hs 0 rfl
  clear hb1 hs
  go_enter Tryd.func50, Tryd.ntmps50
  go_upto_region 1 with (fail)
  generalize w.alloc (.cells #[.pointer none] 51) = W1 at *
  go_wp2_with (go_at_call 28; (with_reducible refine (full_nil _).mono ?_); rintro e w' ⟨rfl, rfl⟩)
  all_goals
    go_ret
    exact ⟨rfl, HB.out⟩
set_option maxRecDepth 100000 in
theorem uni_full {c : Cfg} {v : Value} {L : List Nd} {w : World} (a b : Int) (h : StL c v L w) (hf : c.full = true) : Calls Tryd.prog 27 #[.pointer (some ⟨c.B, 0, none⟩), .int .i64 a, .int .i64 b] w fun e w' => e = .returned (.bool false) ∧ Below w.heap.size w w' := by
  have hb1 := below_alloc w (.cells #[.int .i64 a, .int .i64 b] 3)
  have HH := Lib.hid (has_full (n := 2) (cc := 2) rfl (h.below hb1) hf (ints2 w a b) (by simp))
  have HB := Lib.hid hb1
  clear h hb1
  go_enter Tryd.func27, Tryd.ntmps27
  go_wp2_with (go_at_call 50; (with_reducible refine HH.out.mono ?_); rintro e w' ⟨rfl, hb⟩)
  all_goals
    go_ret
    exact ⟨rfl, HB.out.trans (hb.mono HB.out.size)⟩
set_option maxRecDepth 100000 in
theorem uni_nil (w : World) (a b : Int) : Calls Tryd.prog 27 #[.pointer none, .int .i64 a, .int .i64 b] w fun e w' => e = .returned (.bool false) ∧ Below w.heap.size w w' := by
  have hb1 := below_alloc w (.cells #[.int .i64 a, .int .i64 b] 3)
  have HB := Lib.hid hb1
  clear hb1
  go_enter Tryd.func27, Tryd.ntmps27
  go_wp2_with (go_at_call 50; (with_reducible refine (has_nil _ _ _ _).mono ?_); rintro e w' ⟨rfl, hb⟩)
  all_goals
    go_ret
    exact ⟨rfl, HB.out.trans (hb.mono HB.out.size)⟩
set_option maxRecDepth 100000 in
theorem add_nil (w : World) (k lv wk b : Int) (p n : ByteArray) (kq : Option Addr) (kl kc : Nat) (cl pl : Bool) :
    Calls Tryd.prog 48 #[.pointer none, .agg #[.int .i64 k, .string p, .string n, .slice kq kl kc, .int .i64 lv, .bool cl, .int .i64 b, .bool pl, .int .i64 wk]] w fun e w' => e = .returned (.int .i64 (-1)) ∧ Below w.heap.size w w' := by
  have HW := Lib.hid (below_alloc w (.cells #[.int .i64 k, .string p, .string n, .slice kq kl kc, .int .i64 lv, .bool cl, .int .i64 b, .bool pl, .int .i64 wk] 90))
  go_enter Tryd.func48, Tryd.ntmps48
  go_upto_region 1 with (fail)
  generalize (w.alloc (.cells #[.int .i64 k, .string p, .string n, .slice kq kl kc, .int .i64 lv, .bool cl, .int .i64 b, .bool pl, .int .i64 wk] 90)) = W1 at *
  go_wp2_with (go_at_call 28; (with_reducible refine (full_nil _).mono ?_); rintro e w' ⟨rfl, rfl⟩)
  all_goals
    go_ret
    exact ⟨rfl, HW.out⟩
set_option maxRecDepth 100000 in
theorem var_nil (w : World) (lv : Int) : Calls Tryd.prog 25 #[.pointer none, .int .i64 lv] w fun e w' => e = .returned (.int .i64 (-1)) ∧ Below w.heap.size w w' := by
  go_enter Tryd.func25, Tryd.ntmps25
  go_wp2_with (go_at_call 48; (refine (add_nil _ _ _ _ _ _ _ _ _ _ _ _).mono ?_); rintro e w' ⟨rfl, hh⟩)
  all_goals
    go_ret
    exact ⟨rfl, hh⟩
set_option maxRecDepth 100000 in
theorem term_full {c : Cfg} {v : Value} {L : List Nd} {w : World} (a : Int) (h : StL c v L w) (hf : c.full = true) : Calls Tryd.prog 29 #[.pointer (some ⟨c.B, 0, none⟩), .int .i64 a] w fun e w' => e = .returned (.tuple #[tv 0 ⟨#[]⟩ ⟨#[]⟩ 0 (.slice none 0 0), .bool false]) ∧ Below w.heap.size w w' := by
  have hb1 := below_alloc w (.cells #[.int .i64 0, .string ⟨#[]⟩, .string ⟨#[]⟩, .int .i64 0, .slice none 0 0] 36)
  have hn := hb_new w (.cells #[.int .i64 0, .string ⟨#[]⟩, .string ⟨#[]⟩, .int .i64 0, .slice none 0 0] 36)
  have hS1 := h.below hb1
  have HN := Lib.hid hn
  have HB := Lib.hid hb1
  clear h hb1 hn
  go_enter Tryd.func29, Tryd.ntmps29
  go_upto_region 1 with (fail)
  generalize (w.alloc (.cells #[.int .i64 0, .string ⟨#[]⟩, .string ⟨#[]⟩, .int .i64 0, .slice none 0 0] 36)) = W1 at *
  have hb2 := below_alloc W1 (.cells #[.int .i64 a] 3)
  have HH := Lib.hid (has_full (n := 1) (cc := 1) rfl (hS1.below hb2) hf (one_int W1 a) (by simp))
  have HB2 := Lib.hid (HB.out.trans (hb2.mono HB.out.size))
  have HN2 := Lib.hid (hb_below HN.out hb2 (hb_lt HN.out))
  clear hS1 hb2
  go_upto_region 2 with (go_at_call 50; (with_reducible refine HH.out.mono ?_); rintro e w6 ⟨rfl, hb⟩; have h6 := hb_below HN2.out hb (hb_lt HN2.out); have y0 := hb_at h6 0 rfl; have y1 := hb_at h6 1 rfl; have y2 := hb_at h6 2 rfl; have y3 := hb_at h6 3 rfl; have y4 := hb_at h6 4 rfl; have f0 := hb_free h6 0; have f1 := hb_free h6 1; have f2 := hb_free h6 2; have f3 := hb_free h6 3; have f4 := hb_free h6 4; have HB6 := Lib.hid (HB2.out.trans (hb.mono HB2.out.size)); clear hb h6)
  go_wp2
  refine bodyPost_ret (v := .tuple #[tv 0 ⟨#[]⟩ ⟨#[]⟩ 0 (.slice none 0 0), .bool false]) (by simp [results, Tryd.results29, go_sem, y0, y1, y2, y3, y4]) rfl ⟨rfl, ?_⟩
  exact ((((HB6.out.setCell (Nat.le_refl _) _).setCell (Nat.le_refl _) _).setCell (Nat.le_refl _) _).setCell (Nat.le_refl _) _).setCell (Nat.le_refl _) _
theorem full_t {c : Cfg} {v : Value} {L : List Nd} {w : World} (h : StL { c with full := true } v L w) : Calls Tryd.prog 28 #[.pointer (some ⟨c.B, 0, none⟩)] w fun e w' => e = .returned (.bool true) ∧ w' = w := full_any { c with full := true } v L w h
theorem var_t {c : Cfg} {v : Value} {L : List Nd} {w : World} (lv : Int) (h : StL { c with full := true } v L w) : Calls Tryd.prog 25 #[.pointer (some ⟨c.B, 0, none⟩), .int .i64 lv] w fun e w' => e = .returned (.int .i64 (-1)) ∧ Below w.heap.size w w' := var_full { c with full := true } v L w lv h rfl
theorem term_t {c : Cfg} {v : Value} {L : List Nd} {w : World} (a : Int) (h : StL { c with full := true } v L w) : Calls Tryd.prog 29 #[.pointer (some ⟨c.B, 0, none⟩), .int .i64 a] w fun e w' => e = .returned (.tuple #[tv 0 ⟨#[]⟩ ⟨#[]⟩ 0 (.slice none 0 0), .bool false]) ∧ Below w.heap.size w w' := term_full (c := { c with full := true }) a h rfl
theorem uni_t {c : Cfg} {v : Value} {L : List Nd} {w : World} (a b : Int) (h : StL { c with full := true } v L w) : Calls Tryd.prog 27 #[.pointer (some ⟨c.B, 0, none⟩), .int .i64 a, .int .i64 b] w fun e w' => e = .returned (.bool false) ∧ Below w.heap.size w w' := uni_full (c := { c with full := true }) a b h rfl
end Go.Proofs.YtncebhddcokkoaaDoor
/- The rigid example, run. -/
namespace Go.Proofs.YtncebhddcokkoaaDoor
open Go.RowKit Go.Maps
set_option linter.unusedSimpArgs false
set_option linter.unusedVariables false
set_option maxRecDepth 100000 in
set_option maxHeartbeats 4000000 in
theorem rigid_walk (w : World) (x y z : Int) (hx : -9223372036854775808 ≤ x ∧ x ≤ 9223372036854775807) (hy : -9223372036854775808 ≤ y ∧ y ≤ 9223372036854775807) (hz : -9223372036854775808 ≤ z ∧ z ≤ 9223372036854775807) :
    Calls Tryd.prog 7 #[.int .i64 x, .int .i64 y, .int .i64 z] w (fun e w' => e = .returned (.bool true) ∧ Below w.heap.size w w') := by
  have HNEW := Lib.hid (new_c w 100 (by decide) (by decide))
  obtain ⟨hx1, hx2⟩ := hx
  obtain ⟨hy1, hy2⟩ := hy
  obtain ⟨hz1, hz2⟩ := hz
  obtain ⟨b, hb20, hb⟩ := rem_b z hz1 hz2
  have HB := Lib.hid hb
  clear hb
  go_enter Tryd.func7, Tryd.ntmps7
  go_upto_region 3 with (fail)
  rw [HB.out]
  generalize x.tmod 1000 = lv
  generalize y.tmod 1000 = o
  clear HB hx1 hx2 hy1 hy2 hz1 hz2
  go_upto_region 4 with (go_at_call 23; (with_reducible refine HNEW.out.mono ?_); rintro e w1 ⟨c, rfl, hc0, hcb, hcf, hcw, h1, hb1⟩; have HC0 := Lib.hid (Nat.le_of_eq hc0.symm); have HCB := Lib.hid hcb; have HCF := Lib.hid hcf; have HCW := Lib.hid hcw; have H0 := Lib.hid h1; have HBL := Lib.hid hb1; clear hc0 hcb hcf hcw h1 hb1)
  clear HNEW
  go_upto_region 7 with (first
    | (go_at_call 24; (with_reducible refine (rig_n 0 o H0.out rfl (by decide) HCF.out (by rw [HCB.out]; decide)).mono ?_); rintro e w2 ⟨rfl, v2, hs, hk⟩; have H1 := Lib.hid hs; have HBL := Lib.hid (kp_bel HBL.out hk HC0.out); clear hs hk)
    | (go_at_call 24; (with_reducible refine (rig_n 1 o H1.out rfl (by simp) HCF.out (by rw [HCB.out]; simp)).mono ?_); rintro e w3 ⟨rfl, v3, hs, hk⟩; have H2 := Lib.hid hs; have HBL := Lib.hid (kp_bel HBL.out hk HC0.out); clear hs hk)
    | (go_at_call 25; (with_reducible refine (var_n 2 lv H2.out rfl (by simp) HCF.out (by rw [HCB.out]; simp)).mono ?_); rintro e w4 ⟨rfl, v4, hs, hk⟩; have H3 := Lib.hid hs; have HBL := Lib.hid (kp_bel HBL.out hk HC0.out); clear hs hk)
    | (go_at_call 25; (with_reducible refine (var_n 3 lv H3.out rfl (by simp) HCF.out (by rw [HCB.out]; simp)).mono ?_); rintro e w5 ⟨rfl, v5, hs, hk⟩; have H4 := Lib.hid hs; have HM := Lib.hid (make_n (o := o) (lv := lv) hs HCF.out (by rw [HCB.out]; decide)); have HBL := Lib.hid (kp_bel HBL.out hk HC0.out); clear hs hk)
    | (go_at_call 26; (with_reducible refine HM.out.mono ?_); rintro e w6 ⟨rfl, v6, ks6, hs, hk⟩; have H5 := Lib.hid hs; have HBL := Lib.hid (kp_bel HBL.out hk HC0.out); clear hs hk)
    | (go_at_call 25; (with_reducible refine (var_n 5 lv H5.out rfl (by simp) HCF.out (by rw [HCB.out]; simp)).mono ?_); rintro e w7 ⟨rfl, v7, hs, hk⟩; have H6 := Lib.hid (st_R0 (lv := lv) (o := o) hs (by rw [HCW.out]; decide)); have HBL := Lib.hid (kp_bel HBL.out hk HC0.out); clear hs hk))
  clear H0 H1 H2 H3 H4 HM H5
  obtain ⟨k6, hk6, H6⟩ : ∃ k6 : Int, (0 ≤ k6 ∧ k6 ≤ 0) ∧ Hid (St { c with wks := k6 } (Abs.R0 lv o) w7) := ⟨c.wks, by rw [HCW.out]; decide, H6⟩
  have I6 := Lib.hid (Abs.r0_inv lv o)
  rcases Int.lt_or_le lv o with hle | hle
  · go_upto_region 9 with (first
    | (go_at_call 27; (with_reducible refine (uniN (u := 0) (v := 1) (iu := 0) (iv := 1) rfl rfl I6.out H6.out rfl (by decide) (by decide) HCF.out hk6.1 (by omega) (Abs.s1 lv o)).mono ?_); rintro e w8 ⟨rfl, k7, g1, g2, hk, hs⟩; have hk7 : 0 ≤ k7 ∧ k7 ≤ 7 := ⟨g1, by omega⟩; have H7 := Lib.hid hs; have I7 := I6; have HBL := Lib.hid (kp_bel HBL.out hk HC0.out); clear g1 g2 hs hk)
    | (go_at_call 27; (with_reducible refine (uniS (u := 0) (v := 0) (iu := 0) (iv := 0) rfl rfl I7.out H7.out rfl (by decide) (by decide) HCF.out hk7.1 (by omega) (Abs.s2 lv o)).mono ?_); rintro e w9 ⟨rfl, k8, g1, g2, hk, hs, hi⟩; have hk8 : 0 ≤ k8 ∧ k8 ≤ 14 := ⟨g1, by omega⟩; have H8 := Lib.hid hs; have I8 := Lib.hid hi; have HBL := Lib.hid (kp_bel HBL.out hk HC0.out); clear g1 g2 hs hk hi)
    | (go_at_call 27; (with_reducible refine (uniN (u := 2) (v := 0) (iu := 2) (iv := 0) rfl rfl I8.out H8.out rfl (by decide) (by decide) HCF.out hk8.1 (by omega) (Abs.s3n (Int.not_le.2 hle))).mono ?_); rintro e w10 ⟨rfl, k9, g1, g2, hk, hs⟩; have hk9 : 0 ≤ k9 ∧ k9 ≤ 21 := ⟨g1, by omega⟩; have H9 := Lib.hid hs; have I9 := I8; have HBL := Lib.hid (kp_bel HBL.out hk HC0.out); clear g1 g2 hs hk)
    | (go_at_call 27; (with_reducible refine (uniN (u := 5) (v := 4) (iu := 5) (iv := 4) rfl rfl I9.out H9.out rfl (by decide) (by decide) HCF.out hk9.1 (by omega) (Abs.s4n (Int.not_le.2 hle))).mono ?_); rintro e w11 ⟨rfl, k10, g1, g2, hk, hs⟩; have hk10 : 0 ≤ k10 ∧ k10 ≤ 28 := ⟨g1, by omega⟩; have H10 := Lib.hid hs; have I10 := I9; have HBL := Lib.hid (kp_bel HBL.out hk HC0.out); clear g1 g2 hs hk)
    | (go_at_call 27; (with_reducible refine (uniN (u := 3) (v := 4) (iu := 3) (iv := 4) rfl rfl I10.out H10.out rfl (by decide) (by decide) HCF.out hk10.1 (by omega) (Abs.s5n lv o)).mono ?_); rintro e w12 ⟨rfl, k11, g1, g2, hk, hs⟩; have hk11 : 0 ≤ k11 ∧ k11 ≤ 35 := ⟨g1, by omega⟩; have H11 := Lib.hid hs; have I11 := I10; have HBL := Lib.hid (kp_bel HBL.out hk HC0.out); clear g1 g2 hs hk))
    clear H6 H7 H8 H9 H10 H11 I6 I7 I8 I9 I10 I11 HCB HCF HCW hle hk6 hk7 hk8 hk9 hk10 hk11
    have HNEW := Lib.hid (new_c w12 (b : Int) (by omega) (by omega))
    go_upto_region 10 with (go_at_call 23; (with_reducible refine HNEW.out.mono ?_); rintro e w13 ⟨c2, rfl, hc0, hcb, hcf, hcw, h1, hb1⟩; have HD0 := Lib.hid (show w.heap.size ≤ c2.b0 by rw [hc0]; exact HBL.out.size); have HDB := Lib.hid hcb; have HDF := Lib.hid hcf; have H0 := Lib.hid h1; have HBL := Lib.hid (HBL.out.trans (hb1.mono HBL.out.size)); clear hc0 hcb hcf hcw h1 hb1)
    clear HNEW
    go_wp2
    go_loopw [15] (fun i wr => ∃ j : Nat, j ≤ 25 ∧ i = .int .i64 j ∧ Below w.heap.size w wr ∧ ((j ≤ b ∧ ∃ v L, StL c2 v L wr ∧ L.length = j) ∨ (b < j ∧ ∃ v L, StL { c2 with full := true } v L wr))) (fun i _ => 25 - (intOf i).toNat)
    case atStart => exact ⟨0, Nat.zero_le _, rfl, HBL.out, .inl ⟨Nat.zero_le _, _, _, H0.out, rfl⟩⟩
    case round =>
      obtain ⟨j, hj, rfl, hBL, hrel⟩ := hrel
      have HBLr := Lib.hid hBL
      clear hBL
      by_cases hlt : (j : Int) < 25
      · rcases hrel with ⟨hjb, v, L, hst, hlen⟩ | ⟨hjb, v, L, hst⟩
        · have HST := Lib.hid hst
          have HLEN := Lib.hid hlen
          clear hst hlen
          by_cases hlb : (j : Int) < (b : Int)
          · have HV := Lib.hid (var_n (j : Int) 0 HST.out (by rw [HLEN.out]) (by rw [HLEN.out]; omega) HDF.out (by rw [HLEN.out, HDB.out]; exact hlb))
            go_wp2_with (first
              | (go_at_call 25; (with_reducible refine HV.out.mono ?_); rintro e w14 ⟨rfl, v2, hs, hk⟩; have HS2 := Lib.hid hs; have HBLr := Lib.hid (kp_bel HBLr.out hk HD0.out); clear hs hk)
              | (go_at_call 28; (refine (full_any c2 _ _ _ HS2.out).mono ?_); rintro e w' ⟨rfl, rfl⟩; rw [HDF.out]))
            all_goals
              exact ⟨⟨j + 1, by omega, by simp, HBLr.out, .inl ⟨by omega, _, _, HS2.out, by rw [List.length_append, HLEN.out]; rfl⟩⟩, by simp [intOf]; omega⟩
          · have HV := Lib.hid (var_over c2 v L _ 0 HST.out HDF.out (by rw [HLEN.out, HDB.out]; omega))
            go_wp2_with (first
              | (go_at_call 25; (with_reducible refine HV.out.mono ?_); rintro e w14 ⟨rfl, hs, hk⟩; have HS2 := Lib.hid hs; have HBLr := Lib.hid (kp_bel HBLr.out hk HD0.out); clear hs hk)
              | (go_at_call 28; (with_reducible refine (full_t HS2.out).mono ?_); rintro e w' ⟨rfl, rfl⟩))
            all_goals
              exact ⟨⟨j + 1, by omega, by simp, HBLr.out, .inr ⟨by omega, _, _, HS2.out⟩⟩, by simp [intOf]; omega⟩
        · have HST := Lib.hid hst
          clear hst
          go_wp2_with (first
            | (go_at_call 25; (with_reducible refine (var_t 0 HST.out).mono ?_); rintro e w14 ⟨rfl, hk⟩; have HS2 := Lib.hid (HST.out.below hk); have HBLr := Lib.hid (HBLr.out.trans (hk.mono HBLr.out.size)); clear hk)
            | (go_at_call 28; (with_reducible refine (full_t HS2.out).mono ?_); rintro e w' ⟨rfl, rfl⟩))
          all_goals
            exact ⟨⟨j + 1, by omega, by simp, HBLr.out, .inr ⟨by omega, _, _, HS2.out⟩⟩, by simp [intOf]; omega⟩
      · obtain ⟨v, L, hst⟩ : ∃ v L, StL { c2 with full := true } v L wr := by
          rcases hrel with ⟨h1, _⟩ | ⟨_, v, L, h⟩
          · omega
          · exact ⟨v, L, h⟩
        have HST := Lib.hid hst
        clear hst hrel
        go_wp2_with (first
          | (go_at_call 29; (with_reducible refine (term_t 0 HST.out).mono ?_); rintro e w14 ⟨rfl, hk⟩; have HST := Lib.hid ((HST.out.below hk).below (below_alloc _ (.cells #[.int .i64 0, .string ⟨#[]⟩, .string ⟨#[]⟩, .int .i64 0, .slice none 0 0] 36))); have HBLr := Lib.hid (HBLr.out.trans ((hk.alloc hk.size (.cells #[.int .i64 0, .string ⟨#[]⟩, .string ⟨#[]⟩, .int .i64 0, .slice none 0 0] 36)).mono HBLr.out.size)); clear hk)
          | (go_at_call 28; (with_reducible refine (full_nil _).mono ?_); rintro e w' ⟨rfl, rfl⟩)
          | (go_at_call 25; (with_reducible refine (var_nil _ _).mono ?_); rintro e w15 ⟨rfl, hk⟩; have HBLr := Lib.hid (HBLr.out.trans (hk.mono HBLr.out.size)); clear hk)
          | (go_at_call 27; (with_reducible refine (uni_nil _ _ _).mono ?_); rintro e w16 ⟨rfl, hk⟩; have HBLr := Lib.hid (HBLr.out.trans (hk.mono HBLr.out.size)); clear hk)
          | (go_at_call 27; (with_reducible refine (uni_t 0 0 HST.out).mono ?_); rintro e w17 ⟨rfl, hk⟩; have HBLr := Lib.hid (HBLr.out.trans (hk.mono HBLr.out.size)); clear hk)
          | (go_at_call 11; (with_reducible refine (alive13_any _).mono ?_); rintro e w18 ⟨rfl, hk⟩; have HBLr := Lib.hid (HBLr.out.trans (hk.mono HBLr.out.size)); clear hk))
        all_goals
          first
          | (go_ret; exact ⟨rfl, HBLr.out⟩)
          | trace_state
  · go_upto_region 9 with (first
    | (go_at_call 27; (with_reducible refine (uniN (u := 0) (v := 1) (iu := 0) (iv := 1) rfl rfl I6.out H6.out rfl (by decide) (by decide) HCF.out hk6.1 (by omega) (Abs.s1 lv o)).mono ?_); rintro e w8 ⟨rfl, k7, g1, g2, hk, hs⟩; have hk7 : 0 ≤ k7 ∧ k7 ≤ 7 := ⟨g1, by omega⟩; have H7 := Lib.hid hs; have I7 := I6; have HBL := Lib.hid (kp_bel HBL.out hk HC0.out); clear g1 g2 hs hk)
    | (go_at_call 27; (with_reducible refine (uniS (u := 0) (v := 0) (iu := 0) (iv := 0) rfl rfl I7.out H7.out rfl (by decide) (by decide) HCF.out hk7.1 (by omega) (Abs.s2 lv o)).mono ?_); rintro e w9 ⟨rfl, k8, g1, g2, hk, hs, hi⟩; have hk8 : 0 ≤ k8 ∧ k8 ≤ 14 := ⟨g1, by omega⟩; have H8 := Lib.hid hs; have I8 := Lib.hid hi; have HBL := Lib.hid (kp_bel HBL.out hk HC0.out); clear g1 g2 hs hk hi)
    | (go_at_call 27; (with_reducible refine (uniS (u := 2) (v := 0) (iu := 2) (iv := 0) rfl rfl I8.out H8.out rfl (by decide) (by decide) HCF.out hk8.1 (by omega) (Abs.s3 hle)).mono ?_); rintro e w10 ⟨rfl, k9, g1, g2, hk, hs, hi⟩; have hk9 : 0 ≤ k9 ∧ k9 ≤ 21 := ⟨g1, by omega⟩; have H9 := Lib.hid hs; have I9 := Lib.hid hi; have HBL := Lib.hid (kp_bel HBL.out hk HC0.out); clear g1 g2 hs hk hi)
    | (go_at_call 27; (with_reducible refine (uniS (u := 5) (v := 4) (iu := 5) (iv := 4) rfl rfl I9.out H9.out rfl (by decide) (by decide) HCF.out hk9.1 (by omega) (Abs.s4 hle)).mono ?_); rintro e w11 ⟨rfl, k10, g1, g2, hk, hs, hi⟩; have hk10 : 0 ≤ k10 ∧ k10 ≤ 28 := ⟨g1, by omega⟩; have H10 := Lib.hid hs; have I10 := Lib.hid hi; have HBL := Lib.hid (kp_bel HBL.out hk HC0.out); clear g1 g2 hs hk hi)
    | (go_at_call 27; (with_reducible refine (uniN (u := 3) (v := 4) (iu := 3) (iv := 4) rfl rfl I10.out H10.out rfl (by decide) (by decide) HCF.out hk10.1 (by omega) (Abs.s5 lv o)).mono ?_); rintro e w12 ⟨rfl, k11, g1, g2, hk, hs⟩; have hk11 : 0 ≤ k11 ∧ k11 ≤ 35 := ⟨g1, by omega⟩; have H11 := Lib.hid hs; have I11 := I10; have HBL := Lib.hid (kp_bel HBL.out hk HC0.out); clear g1 g2 hs hk))
    clear H6 H7 H8 H9 H10 H11 I6 I7 I8 I9 I10 I11 HCB HCF HCW hle hk6 hk7 hk8 hk9 hk10 hk11
    have HNEW := Lib.hid (new_c w12 (b : Int) (by omega) (by omega))
    go_upto_region 10 with (go_at_call 23; (with_reducible refine HNEW.out.mono ?_); rintro e w13 ⟨c2, rfl, hc0, hcb, hcf, hcw, h1, hb1⟩; have HD0 := Lib.hid (show w.heap.size ≤ c2.b0 by rw [hc0]; exact HBL.out.size); have HDB := Lib.hid hcb; have HDF := Lib.hid hcf; have H0 := Lib.hid h1; have HBL := Lib.hid (HBL.out.trans (hb1.mono HBL.out.size)); clear hc0 hcb hcf hcw h1 hb1)
    clear HNEW
    go_wp2
    go_loopw [15] (fun i wr => ∃ j : Nat, j ≤ 25 ∧ i = .int .i64 j ∧ Below w.heap.size w wr ∧ ((j ≤ b ∧ ∃ v L, StL c2 v L wr ∧ L.length = j) ∨ (b < j ∧ ∃ v L, StL { c2 with full := true } v L wr))) (fun i _ => 25 - (intOf i).toNat)
    case atStart => exact ⟨0, Nat.zero_le _, rfl, HBL.out, .inl ⟨Nat.zero_le _, _, _, H0.out, rfl⟩⟩
    case round =>
      obtain ⟨j, hj, rfl, hBL, hrel⟩ := hrel
      have HBLr := Lib.hid hBL
      clear hBL
      by_cases hlt : (j : Int) < 25
      · rcases hrel with ⟨hjb, v, L, hst, hlen⟩ | ⟨hjb, v, L, hst⟩
        · have HST := Lib.hid hst
          have HLEN := Lib.hid hlen
          clear hst hlen
          by_cases hlb : (j : Int) < (b : Int)
          · have HV := Lib.hid (var_n (j : Int) 0 HST.out (by rw [HLEN.out]) (by rw [HLEN.out]; omega) HDF.out (by rw [HLEN.out, HDB.out]; exact hlb))
            go_wp2_with (first
              | (go_at_call 25; (with_reducible refine HV.out.mono ?_); rintro e w14 ⟨rfl, v2, hs, hk⟩; have HS2 := Lib.hid hs; have HBLr := Lib.hid (kp_bel HBLr.out hk HD0.out); clear hs hk)
              | (go_at_call 28; (refine (full_any c2 _ _ _ HS2.out).mono ?_); rintro e w' ⟨rfl, rfl⟩; rw [HDF.out]))
            all_goals
              exact ⟨⟨j + 1, by omega, by simp, HBLr.out, .inl ⟨by omega, _, _, HS2.out, by rw [List.length_append, HLEN.out]; rfl⟩⟩, by simp [intOf]; omega⟩
          · have HV := Lib.hid (var_over c2 v L _ 0 HST.out HDF.out (by rw [HLEN.out, HDB.out]; omega))
            go_wp2_with (first
              | (go_at_call 25; (with_reducible refine HV.out.mono ?_); rintro e w14 ⟨rfl, hs, hk⟩; have HS2 := Lib.hid hs; have HBLr := Lib.hid (kp_bel HBLr.out hk HD0.out); clear hs hk)
              | (go_at_call 28; (with_reducible refine (full_t HS2.out).mono ?_); rintro e w' ⟨rfl, rfl⟩))
            all_goals
              exact ⟨⟨j + 1, by omega, by simp, HBLr.out, .inr ⟨by omega, _, _, HS2.out⟩⟩, by simp [intOf]; omega⟩
        · have HST := Lib.hid hst
          clear hst
          go_wp2_with (first
            | (go_at_call 25; (with_reducible refine (var_t 0 HST.out).mono ?_); rintro e w14 ⟨rfl, hk⟩; have HS2 := Lib.hid (HST.out.below hk); have HBLr := Lib.hid (HBLr.out.trans (hk.mono HBLr.out.size)); clear hk)
            | (go_at_call 28; (with_reducible refine (full_t HS2.out).mono ?_); rintro e w' ⟨rfl, rfl⟩))
          all_goals
            exact ⟨⟨j + 1, by omega, by simp, HBLr.out, .inr ⟨by omega, _, _, HS2.out⟩⟩, by simp [intOf]; omega⟩
      · obtain ⟨v, L, hst⟩ : ∃ v L, StL { c2 with full := true } v L wr := by
          rcases hrel with ⟨h1, _⟩ | ⟨_, v, L, h⟩
          · omega
          · exact ⟨v, L, h⟩
        have HST := Lib.hid hst
        clear hst hrel
        go_wp2_with (first
          | (go_at_call 29; (with_reducible refine (term_t 0 HST.out).mono ?_); rintro e w14 ⟨rfl, hk⟩; have HST := Lib.hid ((HST.out.below hk).below (below_alloc _ (.cells #[.int .i64 0, .string ⟨#[]⟩, .string ⟨#[]⟩, .int .i64 0, .slice none 0 0] 36))); have HBLr := Lib.hid (HBLr.out.trans ((hk.alloc hk.size (.cells #[.int .i64 0, .string ⟨#[]⟩, .string ⟨#[]⟩, .int .i64 0, .slice none 0 0] 36)).mono HBLr.out.size)); clear hk)
          | (go_at_call 28; (with_reducible refine (full_nil _).mono ?_); rintro e w' ⟨rfl, rfl⟩)
          | (go_at_call 25; (with_reducible refine (var_nil _ _).mono ?_); rintro e w15 ⟨rfl, hk⟩; have HBLr := Lib.hid (HBLr.out.trans (hk.mono HBLr.out.size)); clear hk)
          | (go_at_call 27; (with_reducible refine (uni_nil _ _ _).mono ?_); rintro e w16 ⟨rfl, hk⟩; have HBLr := Lib.hid (HBLr.out.trans (hk.mono HBLr.out.size)); clear hk)
          | (go_at_call 27; (with_reducible refine (uni_t 0 0 HST.out).mono ?_); rintro e w17 ⟨rfl, hk⟩; have HBLr := Lib.hid (HBLr.out.trans (hk.mono HBLr.out.size)); clear hk)
          | (go_at_call 11; (with_reducible refine (alive13_any _).mono ?_); rintro e w18 ⟨rfl, hk⟩; have HBLr := Lib.hid (HBLr.out.trans (hk.mono HBLr.out.size)); clear hk))
        all_goals
          first
          | (go_ret; exact ⟨rfl, HBLr.out⟩)
          | trace_state
end Go.Proofs.YtncebhddcokkoaaDoor
