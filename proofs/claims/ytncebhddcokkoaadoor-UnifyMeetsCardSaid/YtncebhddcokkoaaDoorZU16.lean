/- Texts in a row: Kd Ke Kf. -/
import Derived.Test.YtncebhddcokkoaaDoorZU15
import Derived.Deep.RegionHeld3
import Derived.Deep.RegionLaw
import Derived.BigQuiet
/- Is a store full? A type more. -/
namespace Go.Proofs.YtncebhddcokkoaaDoor
open Go.RowKit
set_option linter.unusedSimpArgs false
set_option linter.unusedVariables false
/-- A store's own cells. -/
theorem StL.own5 {c : Cfg} {v : Value} {L : List Nd} {w : World} (h : StL c v L w) : w.cell? ⟨c.B, 0, none⟩ = some v ∧ w.cell? ⟨c.B, 1, none⟩ = some (.int .i64 c.bud) ∧ w.cell? ⟨c.B, 2, none⟩ = some (.bool true) ∧ w.cell? ⟨c.B, 3, none⟩ = some (.bool c.full) ∧ w.cell? ⟨c.B, 4, none⟩ = some (.int .i64 c.wks) ∧ (∃ q cap, v = .slice q L.length cap) ∧ (∀ o, w.frozen? ⟨c.B, o, none⟩ = false) := by
  refine ⟨hb_at h.blk 0 rfl, hb_at h.blk 1 rfl, hb_at h.blk 2 rfl, hb_at h.blk 3 rfl, hb_at h.blk 4 rfl, ?_, fun o => hb_free h.blk o⟩
  rcases h.row with ⟨rfl, rfl⟩ | ⟨g, cap, _, rfl, _⟩
  · exact ⟨none, 0, rfl⟩
  · exact ⟨_, _, rfl⟩
theorem full_any (c : Cfg) (v : Value) (L : List Nd) (w : World) (h : StL c v L w) : Calls Tryd.prog 28 #[.pointer (some ⟨c.B, 0, none⟩)] w fun e w' => e = .returned (.bool c.full) ∧ w' = w := by
  obtain ⟨s0, s1, s2, s3, s4, _, _⟩ := h.own5
  clear h
  go_enter Tryd.func28, Tryd.ntmps28
  go_wp2
  go_ret
  exact ⟨rfl, rfl⟩
set_option maxRecDepth 100000 in
theorem step_node {ops : Array Oper} {o : Oper} {a : Act} {w : World} {K : Act → World → Prop} {Q : Exit → Act → World → Prop} {E : Prop} (hgd : o.guard = none) (s x : Operand)
    (ho : o.op = .call { callee := .builtin .append, args := #[s, x], argTypes := #[79, 79] }) (hty : o.type = 79) {c : Cfg} {v : Value} {L : List Nd} {w0 : World} {y : Nd} {g0 cc : Nat} (h : StL c v L w0) (hs : a.eval s = v) (hx : a.eval x = .slice (some ⟨g0, 0, none⟩) 1 cc)
    (hq : Below w0.heap.size w0 w) (hy : ∀ j u, y.cells[j]? = some u → w.cell? ⟨g0, j, none⟩ = some u) (hk1 : y.ks.oneCell' = true) (hkid : KI c.B w y.ks y.i.kids) (hn : L.length < 100000)
    (hK : ∀ q cap w', w'.cell? ⟨c.B, 0, none⟩ = some v → w'.frozen? ⟨c.B, 0, none⟩ = false → RowKit.Hid (StL c (.slice q (L.length + 1) cap) (L ++ [y]) (w'.setCell ⟨c.B, 0, none⟩ (.slice q (L.length + 1) cap)) ∧ Kp c w0 (w'.setCell ⟨c.B, 0, none⟩ (.slice q (L.length + 1) cap))) → K (a.put o.dst (.slice q (L.length + 1) cap)) w') :
    if Region.wanted o (yielded ops a.tmps) = true then Oper.wp Tryd.prog o a w K Q else E := by
  have hw : Region.wanted o (yielded ops a.tmps) = true := by simp [Region.wanted, hgd]
  rw [if_pos hw]
  obtain ⟨v', w', hrun, _, hB, h1, h2⟩ := h.app hq hy hk1 hkid hn
  obtain ⟨_, _, _, _, _, ⟨q, cap, e⟩, _⟩ := h1.own5
  rw [List.length_append] at e
  subst e
  unfold Oper.wp execOp
  simp only [ho, hty, resolve, invoke, builtin, Sem.run_bind, Sem.run_pure, Result.andThen_ok, List.map_toArray, List.map_cons, List.map_nil, hs, hx]
  rw [hrun]
  have hSq := h.below hq
  have hb := hSq.blk
  rw [← hB] at hb
  exact hK q cap w' (hb_at hb 0 rfl) (hb_free hb 0) (Lib.hid ⟨h1, h2⟩)
set_option maxRecDepth 100000 in
set_option maxHeartbeats 1000000 in
theorem add_any (c : Cfg) (v : Value) (L : List Nd) (w : World) (k lv wk b : Int) (p n : ByteArray) (kids : List Nat) (kq : Option Addr) (kl kc : Nat) (cl pl : Bool) (h : StL c v L w) (hk : KI c.B w (.slice kq kl kc) kids) (hn : L.length < 100000) (hf : c.full = false) (hb : (L.length : Int) < c.bud) :
    Calls Tryd.prog 48 #[.pointer (some ⟨c.B, 0, none⟩), .agg #[.int .i64 k, .string p, .string n, .slice kq kl kc, .int .i64 lv, .bool cl, .int .i64 b, .bool pl, .int .i64 wk]] w fun e w' => e = .returned (.int .i64 (L.length : Nat)) ∧ ∃ v', StL c v' (L ++ [⟨⟨k, p, n, kids⟩, .slice kq kl kc, lv, cl, -1, pl, wk⟩]) w' ∧ Kp c w w' := by
  have hblw : c.b0 ≤ w.heap.size := Nat.le_trans h.hb (Nat.le_of_lt h.lt)
  have HK := Lib.hid hk
  have hS1 := h.below (below_alloc w (.cells #[.int .i64 k, .string p, .string n, .slice kq kl kc, .int .i64 lv, .bool cl, .int .i64 b, .bool pl, .int .i64 wk] 90))
  have hXb := hb_new w (.cells #[.int .i64 k, .string p, .string n, .slice kq kl kc, .int .i64 lv, .bool cl, .int .i64 b, .bool pl, .int .i64 wk] 90)
  have HW := Lib.hid (below_alloc w (.cells #[.int .i64 k, .string p, .string n, .slice kq kl kc, .int .i64 lv, .bool cl, .int .i64 b, .bool pl, .int .i64 wk] 90))
  have HS0 := Lib.hid h
  have hBl := h.lt
  clear h hk
  go_enter Tryd.func48, Tryd.ntmps48
  go_upto_region 1 with (fail)
  generalize (w.alloc (.cells #[.int .i64 k, .string p, .string n, .slice kq kl kc, .int .i64 lv, .bool cl, .int .i64 b, .bool pl, .int .i64 wk] 90)) = W1 at *
  have HS := Lib.hid hS1
  obtain ⟨s0, s1, s2, s3, s4, ⟨q, cap, rfl⟩, hfz⟩ := hS1.own5
  have HX := Lib.hid hXb
  have x6 := hb_at hXb 6 rfl
  have xf := hb_free hXb 6
  have hfz0 := hfz 0
  clear hS1 hXb s2 s3 s4 hfz
  have hge : ¬ (L.length : Int) ≥ c.bud := by omega
  go_wp2_with (go_at_call 28; (refine (full_any c _ L _ HS.out).mono ?_); rintro e w' ⟨rfl, rfl⟩; rw [hf])
  all_goals
    go_region
    go_wp2
    have hB2 : Below w.heap.size w (w'.setCell ⟨w.heap.size, 6, none⟩ (.int .i64 (-1))) := HW.out.setCell (Nat.le_refl _) _
    have hX2 := hb_set_same HX.out 6 (.int .i64 (-1))
    generalize w'.setCell ⟨w.heap.size, 6, none⟩ (.int .i64 (-1)) = W2 at *
    have HB2 := Lib.hid hB2
    have hBl2 : c.B < W2.heap.size := by have := hB2.size; omega
    have HX2 := Lib.hid hX2
    have hS2 := HS0.out.below hB2
    obtain ⟨t0, _, _, _, _, _, hfz2⟩ := hS2.own5
    have t1 := hfz2 0
    have y0 := hb_at hX2 0 rfl
    have y1 := hb_at hX2 1 rfl
    have y2 := hb_at hX2 2 rfl
    have y3 := hb_at hX2 3 rfl
    have y4 := hb_at hX2 4 rfl
    have y5 := hb_at hX2 5 rfl
    have y6 := hb_at hX2 6 rfl
    have y7 := hb_at hX2 7 rfl
    have y8 := hb_at hX2 8 rfl
    clear hX2 hB2 hfz2 hS2 s0 s1 x6 xf hfz0
    go_region_law (refine step_node (c := c) (L := L) (w0 := w) (y := ⟨⟨k, p, n, kids⟩, .slice kq kl kc, lv, cl, -1, pl, wk⟩) rfl (.tmp 25) (.tmp 27) rfl rfl HS0.out rfl rfl (by first | exact (HB2.out.alloc HB2.out.size _).drew.drew | exact (HB2.out.alloc HB2.out.size _).drew) (fun j u hu => (hb_cell (hb_new W2 _) j).trans (by simpa [Nd.cells] using hu)) rfl (HK.out.move (Kp.of_below hblw (by first | exact (HB2.out.alloc HB2.out.size _).drew.drew | exact (HB2.out.alloc HB2.out.size _).drew))) hn ?_; intro q5 cap5 w5 z0 z1 HZ)
    all_goals
      obtain ⟨hZ1, hZ2⟩ := HZ.out
      obtain ⟨r0, _, _, _, _, _, _⟩ := hZ1.own5
      have HZ1 := Lib.hid hZ1
      have HZ2 := Lib.hid hZ2
      clear hZ1 hZ2 HZ
      generalize w5.setCell ⟨c.B, 0, none⟩ (.slice q5 (L.length + 1) cap5) = W6 at *
      go_wp2
      go_ret
      exact ⟨by simp, _, HZ1.out, HZ2.out⟩
end Go.Proofs.YtncebhddcokkoaaDoor
/- A store that is full; New, Var, Rigid; what has become one. -/
namespace Go.Proofs.YtncebhddcokkoaaDoor
open Go.RowKit
set_option linter.unusedSimpArgs false
set_option linter.unusedVariables false
set_option maxRecDepth 100000 in
theorem var_any (c : Cfg) (v : Value) (L : List Nd) (w : World) (lv : Int) (h : StL c v L w) (hn : L.length < 100000) (hf : c.full = false) (hb : (L.length : Int) < c.bud) :
    Calls Tryd.prog 25 #[.pointer (some ⟨c.B, 0, none⟩), .int .i64 lv] w fun e w' => e = .returned (.int .i64 (L.length : Nat)) ∧ ∃ v', StL c v' (L ++ [⟨⟨1, ⟨#[]⟩, ⟨#[]⟩, []⟩, .slice none 0 0, lv, false, -1, false, 0⟩]) w' ∧ Kp c w w' := by
  have HA := Lib.hid (add_any c v L w 1 lv 0 0 ⟨#[]⟩ ⟨#[]⟩ [] none 0 0 false false h ⟨none, 0, rfl, .inl rfl⟩ hn hf hb)
  go_enter Tryd.func25, Tryd.ntmps25
  go_wp2_with (go_at_call 48; (refine HA.out.mono ?_); rintro e w' ⟨rfl, hh⟩)
  all_goals
    go_ret
    exact ⟨rfl, hh⟩
theorem other_any (w : World) (k : Int) : Calls Tryd.prog 49 #[.int .i64 k] w fun e w' => e = .returned (.bool (decide (k = 2 ∨ k = 3 ∨ k = 4))) ∧ w' = w := by
  by_cases h2 : k = 2
  · subst h2
    go_enter Tryd.func49, Tryd.ntmps49
    go_wp2
    go_ret
    exact ⟨rfl, rfl⟩
  by_cases h3 : k = 3
  · subst h3
    go_enter Tryd.func49, Tryd.ntmps49
    go_wp2
    go_ret
    exact ⟨rfl, rfl⟩
  by_cases h4 : k = 4
  · subst h4
    go_enter Tryd.func49, Tryd.ntmps49
    go_wp2
    go_ret
    exact ⟨rfl, rfl⟩
  have e2 : (k == 2) = false := by simpa using h2
  have e3 : (k == 3) = false := by simpa using h3
  have e4 : (k == 4) = false := by simpa using h4
  have e : decide (k = 2 ∨ k = 3 ∨ k = 4) = false := by simp [h2, h3, h4]
  rw [e]
  go_enter Tryd.func49, Tryd.ntmps49
  go_wp2
  go_ret
  exact ⟨rfl, rfl⟩
end Go.Proofs.YtncebhddcokkoaaDoor
/- Are two types alike? Two types become one. -/
namespace Go.Proofs.YtncebhddcokkoaaDoor
open Go.RowKit
set_option linter.unusedSimpArgs false
set_option linter.unusedVariables false
theorem kinj {a b : ByteArray} (h : a.toList = b.toList) : a = b := by
  rw [ByteArray.toList_eq, ByteArray.toList_eq] at h
  cases a; cases b
  simpa using h
set_option maxRecDepth 100000 in
set_option maxHeartbeats 4000000 in
theorem alike_any (c : Cfg) (v : Value) (L : List Nd) (w : World) (i j : Nat) (x y : Nd) (h : StL c v L w) (hx : L[i]? = some x) (hy : L[j]? = some y) :
    Calls Tryd.prog 57 #[.pointer (some ⟨c.B, 0, none⟩), .int .i64 i, .int .i64 j] w fun e w' => (∃ b, e = .returned (.bool b) ∧ (b = true ↔ Abs.Alike x.i y.i)) ∧ Below w.heap.size w w' := by
  have hil := (List.getElem?_eq_some_iff.1 hx).1
  have hjl := (List.getElem?_eq_some_iff.1 hy).1
  obtain ⟨qx, cx, ex, _⟩ := h.kid x (List.mem_of_getElem? hx)
  obtain ⟨qy, cy, ey, _⟩ := h.kid y (List.mem_of_getElem? hy)
  obtain ⟨g, cap, rfl, hgB, hg0, hc1, hc2, s0, s1, s2, s3, s4, x0, x1, x2, x3, x4, x5, x6, x7, x8, hfz⟩ := h.at hx
  obtain ⟨g', cap', e, _, _, _, _, _, _, _, _, _, y0, y1, y2, y3, y4, y5, y6, y7, y8, _⟩ := h.at hy
  injection e with e1 e2 e3
  injection e1 with e1
  injection e1 with e1
  subst e1 e3
  have hlt1 : (i : Int) < (L.length : Int) := by omega
  have hlt2 : (j : Int) < (L.length : Int) := by omega
  clear h hx hy s1 s2 s3 s4 x4 x5 x6 x7 x8 y4 y5 y6 y7 y8 hfz
  obtain ⟨⟨k, p, n, kx⟩, ksx, lvx, clx, bex, plx, wkx⟩ := x
  obtain ⟨⟨k', p', n', ky⟩, ksy, lvy, cly, bey, ply, wky⟩ := y
  simp only at ex ey
  subst ex ey
  simp only at x0 x1 x2 x3 y0 y1 y2 y3
  have HAL : ∀ b : Bool, (b = true ↔ (k = k' ∧ k ≠ 5 ∧ p = p' ∧ n = n' ∧ kx.length = ky.length)) → (b = true ↔ Abs.Alike ⟨k, p, n, kx⟩ ⟨k', p', n', ky⟩) := fun b h => h
  by_cases hh : k = k'
  rotate_left
  · have e0 : (k == k') = false := by simpa using hh
    have HP := Lib.hid (HAL false (by simp only [Bool.false_eq_true, false_iff]; exact fun h => hh h.1))
    clear hh HAL
    go_enter Tryd.func57, Tryd.ntmps57
    go_wp2_with fail
    go_region
    all_goals go_wp2_with fail
    all_goals go_quiet (fail)
    all_goals go_wp2
    all_goals go_ret
    all_goals exact ⟨⟨_, rfl, HP.out⟩, by first | exact (Below.refl _ _).drew.drew | exact below_drewN (Below.refl _ _).drew _ | exact (Below.refl _ _).drew⟩
  subst hh
  by_cases hh : k ≠ 5
  rotate_left
  · have e0 : (k != 5) = false := by simpa using hh
    have HP := Lib.hid (HAL false (by simp only [Bool.false_eq_true, false_iff]; exact fun h => hh h.2.1))
    clear hh HAL
    go_enter Tryd.func57, Tryd.ntmps57
    go_wp2_with fail
    go_region
    all_goals go_wp2_with fail
    all_goals go_quiet (fail)
    all_goals go_wp2
    all_goals go_ret
    all_goals exact ⟨⟨_, rfl, HP.out⟩, by first | exact (Below.refl _ _).drew.drew | exact below_drewN (Below.refl _ _).drew _ | exact (Below.refl _ _).drew⟩
  have e5 : (k != 5) = true := by simpa using hh
  have H5 := Lib.hid hh
  clear hh
  by_cases hh : p = p'
  rotate_left
  · have e0 : (p.toList == p'.toList) = false := by simpa using fun h => hh (kinj h)
    have HP := Lib.hid (HAL false (by simp only [Bool.false_eq_true, false_iff]; exact fun h => hh h.2.2.1))
    clear hh HAL
    go_enter Tryd.func57, Tryd.ntmps57
    go_wp2_with fail
    go_region
    all_goals go_wp2_with fail
    all_goals go_quiet (fail)
    all_goals go_wp2
    all_goals go_ret
    all_goals exact ⟨⟨_, rfl, HP.out⟩, by first | exact (Below.refl _ _).drew.drew | exact below_drewN (Below.refl _ _).drew _ | exact (Below.refl _ _).drew⟩
  subst hh
  by_cases hh : n = n'
  rotate_left
  · have e0 : (n.toList == n'.toList) = false := by simpa using fun h => hh (kinj h)
    have HP := Lib.hid (HAL false (by simp only [Bool.false_eq_true, false_iff]; exact fun h => hh h.2.2.2.1))
    clear hh HAL
    go_enter Tryd.func57, Tryd.ntmps57
    go_wp2_with fail
    go_region
    all_goals go_wp2_with fail
    all_goals go_quiet (fail)
    all_goals go_wp2
    all_goals go_ret
    all_goals exact ⟨⟨_, rfl, HP.out⟩, by first | exact (Below.refl _ _).drew.drew | exact below_drewN (Below.refl _ _).drew _ | exact (Below.refl _ _).drew⟩
  subst hh
  by_cases hh : kx.length = ky.length
  rotate_left
  · have e0 : ((kx.length : Int) == (ky.length : Int)) = false := by simp; omega
    have HP := Lib.hid (HAL false (by simp only [Bool.false_eq_true, false_iff]; exact fun h => hh h.2.2.2.2))
    clear hh HAL
    go_enter Tryd.func57, Tryd.ntmps57
    go_wp2_with fail
    go_region
    all_goals go_wp2_with fail
    all_goals go_quiet (fail)
    all_goals go_wp2
    all_goals go_ret
    all_goals exact ⟨⟨_, rfl, HP.out⟩, by first | exact (Below.refl _ _).drew.drew | exact below_drewN (Below.refl _ _).drew _ | exact (Below.refl _ _).drew⟩
  have e0 : ((kx.length : Int) == (ky.length : Int)) = true := by simp; omega
  have HP := Lib.hid (HAL true ⟨fun _ => ⟨rfl, H5.out, rfl, rfl, hh⟩, fun _ => rfl⟩)
  clear hh HAL
  go_enter Tryd.func57, Tryd.ntmps57
  go_wp2_with fail
  go_region
  all_goals go_wp2_with fail
  all_goals go_quiet (fail)
  all_goals go_wp2
  all_goals go_ret
  all_goals exact ⟨⟨_, rfl, ⟨fun _ => HP.out.1 trivial, fun _ => rfl⟩⟩, by first | exact (Below.refl _ _).drew.drew | exact below_drewN (Below.refl _ _).drew _ | exact (Below.refl _ _).drew⟩
end Go.Proofs.YtncebhddcokkoaaDoor
