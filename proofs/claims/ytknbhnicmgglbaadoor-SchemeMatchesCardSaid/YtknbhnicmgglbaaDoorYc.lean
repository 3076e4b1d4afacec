
/- Above, and Same, of the program. -/
import Derived.Test.YtknbhnicmgglbaaDoorXd
namespace Go.Proofs.YtknbhnicmgglbaaDoor
open Go.RowKit
def AboveR (ta tb : Tm) (w : World) (e : Ending) (w' : World) : Prop := ∃ r : Bool, e = .returned (.bool r) ∧ Mt [(ta, tb)] (fun _ => none) r ∧ Below w.heap.size w w'
/-- May Match go through these two? -/
structure Two (w : World) (d : Nat) (va vb : Value) (ta tb : Tm) : Prop where
  a : IsT w d va ta
  b : IsT w d vb tb
  sa : Sm d ta
  sb : Sm d tb
  za : tszN d ta ≤ 30000
  zb : tszN d tb ≤ 30000
theorem Two.below {w w' : World} {d : Nat} {va vb : Value} {ta tb : Tm} (h : Two w d va vb ta tb) (hb : Below w.heap.size w w') : Two w' d va vb ta tb := ⟨h.a.below hb, h.b.below hb, h.sa, h.sb, h.za, h.zb⟩
theorem Two.turn {w : World} {d : Nat} {va vb : Value} {ta tb : Tm} (h : Two w d va vb ta tb) : Two w d vb va tb ta := ⟨h.b, h.a, h.sb, h.sa, h.zb, h.za⟩
theorem Two.shape {w : World} {d : Nat} {va vb : Value} {ta tb : Tm} (h : Two w d va vb ta tb) : ∃ k1 p1 n1 N1 q1 l1 c1 k2 p2 n2 N2 q2 l2 c2, va = tv k1 p1 n1 N1 (.slice q1 l1 c1) ∧ vb = tv k2 p2 n2 N2 (.slice q2 l2 c2) := by
  obtain ⟨_, k1, p1, n1, N1, _, l1, _, _, rfl, _, _, q1, c1, rfl, _, _⟩ := h.a.open
  obtain ⟨_, k2, p2, n2, N2, _, l2, _, _, rfl, _, _, q2, c2, rfl, _, _⟩ := h.b.open
  exact ⟨_, _, _, _, _, _, _, _, _, _, _, _, _, _, rfl, rfl⟩
set_option maxRecDepth 100000 in
theorem above_any (d : Nat) (va vb : Value) (ta tb : Tm) (w : World) (h : Two w d va vb ta tb) : Calls Tryd.prog 10 #[va, vb] w (AboveR ta tb w) := by
  have HT := Lib.hid h
  obtain ⟨k1, p1, n1, N1, q1, l1, c1, k2, p2, n2, N2, q2, l2, c2, rfl, rfl⟩ := h.shape
  have hB0 := below2 w (.cells #[.int .i64 k1, .string p1, .string n1, .int .i64 N1, .slice q1 l1 c1] 24) (.cells #[.int .i64 k2, .string p2, .string n2, .int .i64 N2, .slice q2 l2 c2] 24)
  have HB0 := Lib.hid hB0
  have HT1 := Lib.hid (HT.out.below hB0)
  clear h hB0
  go_enter Tryd.func10, Tryd.ntmps10
  go_wp2_with (go_at_call 7; refine (match_any d _ _ ta tb _ HT1.out.a HT1.out.b HT1.out.sa HT1.out.sb HT1.out.za).mono ?_; rintro e w3 ⟨r, v, rfl, hm, hb⟩; have HM := Lib.hid hm; have HB3 := Lib.hid hb; clear hm hb)
  go_ret
  exact ⟨r, rfl, HM.out, HB0.out.trans (HB3.out.mono HB0.out.size)⟩
/-- What Same says. -/
def SameM (ta tb : Tm) (r : Bool) : Prop := ∃ r1, Mt [(ta, tb)] (fun _ => none) r1 ∧ (r1 = false → r = false) ∧ (r1 = true → Mt [(tb, ta)] (fun _ => none) r)
theorem SameM.parts {k : Int} {p n e : ByteArray} {la lb : List Tm} {r r' : Bool} (hk : k ≠ 1) (h : SameM (.mk k p n 0 la) (.mk k p n 0 lb) r) (h' : SameM (.mk 4 e e 0 la) (.mk 4 e e 0 lb) r') : r = r' := by
  obtain ⟨r1, h1, h2, h3⟩ := h
  obtain ⟨r2, h4, h5, h6⟩ := h'
  obtain rfl := h1.parts hk h4
  cases r1 with
  | false => rw [h2 rfl, h5 rfl]
  | true => exact (h3 rfl).parts hk (h6 rfl)
def Same7R (ta tb : Tm) (w : World) (e : Ending) (w' : World) : Prop := ∃ r : Bool, e = .returned (.bool r) ∧ SameM ta tb r ∧ Below w.heap.size w w'
set_option maxRecDepth 100000 in
set_option maxHeartbeats 4000000 in
theorem same7_any (d : Nat) (va vb : Value) (ta tb : Tm) (w : World) (h : Two w d va vb ta tb) : Calls Tryd.prog 11 #[va, vb] w (Same7R ta tb w) := by
  have HT := Lib.hid h
  obtain ⟨k1, p1, n1, N1, q1, l1, c1, k2, p2, n2, N2, q2, l2, c2, rfl, rfl⟩ := h.shape
  have hB0 := below2 w (.cells #[.int .i64 k1, .string p1, .string n1, .int .i64 N1, .slice q1 l1 c1] 24) (.cells #[.int .i64 k2, .string p2, .string n2, .int .i64 N2, .slice q2 l2 c2] 24)
  have b0 := hb_alloc (hb_new w (.cells #[.int .i64 k1, .string p1, .string n1, .int .i64 N1, .slice q1 l1 c1] 24)) (.cells #[.int .i64 k2, .string p2, .string n2, .int .i64 N2, .slice q2 l2 c2] 24)
  have b1 := hb_new (w.alloc (.cells #[.int .i64 k1, .string p1, .string n1, .int .i64 N1, .slice q1 l1 c1] 24)) (.cells #[.int .i64 k2, .string p2, .string n2, .int .i64 N2, .slice q2 l2 c2] 24)
  rw [World.size_alloc] at b1
  have K0 := Lib.hid b0
  have K1 := Lib.hid b1
  have HB0 := Lib.hid hB0
  have HT1 := Lib.hid (HT.out.below hB0)
  clear h hB0 b0 b1
  have HC : RowKit.Hid (∀ W, Below w.heap.size w W → Two W d (tv k1 p1 n1 N1 (.slice q1 l1 c1)) (tv k2 p2 n2 N2 (.slice q2 l2 c2)) ta tb) := Lib.hid fun W hW => HT.out.below hW
  go_enter Tryd.func11, Tryd.ntmps11
  go_wp2_with (first
    | (go_at_call 10; (with_reducible refine (above_any d (tv k1 p1 n1 N1 (.slice q1 l1 c1)) (tv k2 p2 n2 N2 (.slice q2 l2 c2)) ta tb _ HT1.out).mono ?_); rintro e w3 ⟨r1, rfl, hm, hb⟩; have HM := Lib.hid hm; have HB3 := Lib.hid hb; have u0 := hb_below K0.out hb (by simp <;> omega); have u1 := hb_below K1.out hb (by simp <;> omega); have x0 := hb_at u0 0 rfl; have x1 := hb_at u0 1 rfl; have x2 := hb_at u0 2 rfl; have x3 := hb_at u0 3 rfl; have x4 := hb_at u0 4 rfl; have y0 := hb_at u1 0 rfl; have y1 := hb_at u1 1 rfl; have y2 := hb_at u1 2 rfl; have y3 := hb_at u1 3 rfl; have y4 := hb_at u1 4 rfl; have HT3 := Lib.hid (HT1.out.below hb).turn; clear hm hb u0 u1; cases r1)
    | (go_at_call 10; (with_reducible refine (above_any d (tv k2 p2 n2 N2 (.slice q2 l2 c2)) (tv k1 p1 n1 N1 (.slice q1 l1 c1)) tb ta _ HT3.out).mono ?_); rintro e w5 ⟨r5, rfl, hm, hb⟩; have HM5 := Lib.hid hm; have HB5 := Lib.hid hb; clear hm hb))
  · go_ret
    exact ⟨false, rfl, ⟨false, HM.out, fun _ => rfl, (by intro h; cases h)⟩, HB0.out.trans (HB3.out.mono HB0.out.size)⟩
  · have hB3 : Below w.heap.size w w3 := HB0.out.trans (HB3.out.mono HB0.out.size)
    go_ret
    exact ⟨r5, rfl, ⟨true, HM.out, (by intro h; cases h), fun _ => HM5.out⟩, hB3.trans (HB5.out.mono hB3.size)⟩
end Go.Proofs.YtknbhnicmgglbaaDoor
