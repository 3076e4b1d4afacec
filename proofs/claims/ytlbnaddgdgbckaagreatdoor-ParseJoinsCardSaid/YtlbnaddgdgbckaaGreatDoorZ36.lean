/- Texts in a row: Qi Ra. -/
import Derived.Test.YtlbnaddgdgbckaaGreatDoorZ35
/- The chapter's examples. -/
namespace Go.Proofs.YtlbnaddgdgbckaaGreatDoor
open Go.RowKit
set_option linter.unusedSimpArgs false
set_option linter.unusedVariables false
def xF : Tm := .mk 21 ⟨#[]⟩ ⟨#[102]⟩ 0 []
def xG : Tm := .mk 21 ⟨#[]⟩ ⟨#[103]⟩ 0 []
def xX : Tm := .mk 21 ⟨#[]⟩ ⟨#[120]⟩ 0 []
def x1 : Tm := .mk 22 ⟨#[]⟩ ⟨#[]⟩ 1 []
def xA : Tm := .mk 27 ⟨#[]⟩ ⟨#[]⟩ 0 [.mk 27 ⟨#[]⟩ ⟨#[]⟩ 0 [xF, .mk 27 ⟨#[]⟩ ⟨#[]⟩ 0 [xG, x1]], xX]
def xB : Tm := .mk 27 ⟨#[]⟩ ⟨#[]⟩ 0 [.mk 27 ⟨#[]⟩ ⟨#[]⟩ 0 [xF, .mk 27 ⟨#[]⟩ ⟨#[]⟩ 0 [xG, x1]], xX]
set_option maxRecDepth 1000000 in
theorem ex_a : exprM ⟨#[102, 32, 40, 103, 32, 49, 41, 32, 120]⟩ = .ok xA := by kernel_rfl
set_option maxRecDepth 1000000 in
theorem ex_b : exprM ⟨#[40, 102, 32, 40, 103, 32, 49, 41, 41, 32, 120]⟩ = .ok xA := by kernel_rfl
set_option maxRecDepth 1000000 in
theorem ex_c : modM ⟨#[108, 101, 116, 32, 120, 32, 61, 32, 59]⟩ = .error (8, 10) := by kernel_rfl
theorem no_any (x : Int) (w : World) : Calls Tryz.prog 9 #[.int .i64 x] w fun e w' => e = .returned (.int .i64 x) ∧ w = w' := by
  go_enter Tryz.func9, Tryz.ntmps9
  go_wp2
  go_ret
  exact ⟨rfl, rfl⟩
theorem exprR_ok {s : ByteArray} {t : Tm} (h : exprM s = .ok t) (hm : s.size ≤ 4194304) (w : World) (hw : EscW w) : Calls Tryz.prog 12 #[.string s] w fun e w' => ∃ k p n N q l c, e = .returned (.tuple #[tv k p n N (.slice q l c), .int .i64 0, .int .i64 0]) ∧ TmV w w' (tv k p n N (.slice q l c)) t ∧ Below w.heap.size w w' := by
  refine (exprR_any s hm w hw).mono ?_
  rintro e w' ⟨hb, h2⟩
  rw [h] at h2
  obtain ⟨v, rfl, hV⟩ := h2
  obtain ⟨k, p, n, N, q, l, c, rfl⟩ := hV.shape
  exact ⟨k, p, n, N, q, l, c, rfl, hV, hb⟩
theorem moduleR_err {s : ByteArray} {y : Nat × Nat} (h : modM s = .error y) (hm : s.size ≤ 4194304) (w : World) (hw : EscW w) : Calls Tryz.prog 8 #[.string s] w fun e w' => e = .returned (.tuple #[zM, .int .i64 (y.1 : Nat), .int .i64 (y.2 : Nat)]) ∧ Below w.heap.size w w' := by
  refine (moduleR_any s hm w hw).mono ?_
  rintro e w' ⟨hb, h2⟩
  rw [h] at h2
  exact ⟨h2, hb⟩
/-- Two terms are compared, by the document's Same. -/
theorem refSame_tm {w0 w1 : World} {va vb : Value} {ta tb : Tm} {W : World} (ha : TmV w0 W va ta) (hb : TmV w1 W vb tb) : Calls Tryz.prog 14 #[va, vb] W (SameR ta tb W) := by
  obtain ⟨d1, h1⟩ := ha
  obtain ⟨d2, h2⟩ := hb
  exact refSame_any (max d1 d2) va vb ta tb W (h1.isT.more (Nat.le_max_left ..)) (h2.isT.more (Nat.le_max_right ..))
theorem TmV.below {w w1 w2 : World} {v : Value} {t : Tm} (h : TmV w w1 v t) (hb : Below w1.heap.size w1 w2) : TmV w w2 v t :=
  let ⟨d, h⟩ := h; ⟨d, h.below hb⟩
theorem tag_of {w w1 : World} {k N : Int} {p n : ByteArray} {s : Value} {K M : Int} {P Q : ByteArray} {l : List Tm} (h : TmV w w1 (tv k p n N s) (.mk K P Q M l)) : k = K := by
  obtain ⟨d, h⟩ := h
  cases d with
  | zero => cases h
  | succ d =>
    obtain ⟨q, c, h1, _⟩ := h
    unfold tv at h1
    cases h1
    rfl
set_option maxRecDepth 100000 in
set_option maxHeartbeats 4000000 in
theorem alive_any (w : World) (hw : EscW w) : Calls Tryz.prog 7 #[] w fun e w' => e = .returned (.bool true) ∧ Below w.heap.size w w' := by
  have hpos : 0 < w.heap.size := hw.pos
  have HE := Lib.hid hw
  have H1 := Lib.hid (fun W hW => exprR_ok ex_a (by decide) W hW)
  have H2 := Lib.hid (fun W hW => exprR_ok ex_b (by decide) W hW)
  have H3 : Hid (∀ W, EscW W → Calls Tryz.prog 8 #[.string ⟨#[108, 101, 116, 32, 120, 32, 61, 32, 59]⟩] W fun e w' => e = .returned (.tuple #[.agg #[.slice none 0 0, .slice none 0 0, .slice none 0 0, .slice none 0 0, .slice none 0 0], .int .i64 8, .int .i64 10]) ∧ Below W.heap.size W w') := Lib.hid (fun W hW => moduleR_err ex_c (by decide) W hW)
  clear hw
  go_enter Tryz.func7, Tryz.ntmps7
  go_upto_region 2 with (go_at_call 12; (with_reducible refine (H1.out _ HE.out).mono ?_); rintro e w1 ⟨k1, p1, n1, N1, q1, l1, c1, rfl, hV, hb⟩; obtain rfl := tag_of hV; have HV1 := Lib.hid hV; have HB1 := Lib.hid hb; clear hV hb)
  have hk1 := hb_new w1 (.cells #[.int .i64 27, .string p1, .string n1, .int .i64 N1, .slice q1 l1 c1] 39)
  have v1 := HV1.out.below (below_alloc w1 (.cells #[.int .i64 27, .string p1, .string n1, .int .i64 N1, .slice q1 l1 c1] 39))
  have b1 := HB1.out.trans ((below_alloc w1 (.cells #[.int .i64 27, .string p1, .string n1, .int .i64 N1, .slice q1 l1 c1] 39)).mono HB1.out.size)
  generalize hW1 : w1.alloc (.cells #[.int .i64 27, .string p1, .string n1, .int .i64 N1, .slice q1 l1 c1] 39) = W1 at *
  have HC1 := Lib.hid hk1
  have HV1' := Lib.hid v1
  have HB1' := Lib.hid b1
  have HE1 := Lib.hid (HE.out.below b1 hpos)
  have z1 := hb_lt hk1
  clear hW1 hk1 v1 b1 HV1 HB1
  go_upto_region 3 with (go_at_call 12; (with_reducible refine (H2.out _ HE1.out).mono ?_); rintro e w2 ⟨k2, p2, n2, N2, q2, l2, c2, rfl, hV, hb⟩; obtain rfl := tag_of hV; have HV2 := Lib.hid hV; have HB2 := Lib.hid hb; clear hV hb)
  have c2' := hb_new w2 (.cells #[.int .i64 27, .string p2, .string n2, .int .i64 N2, .slice q2 l2 c2] 39)
  have v2 := HV2.out.below (below_alloc w2 (.cells #[.int .i64 27, .string p2, .string n2, .int .i64 N2, .slice q2 l2 c2] 39))
  have b2 := HB2.out.trans ((below_alloc w2 (.cells #[.int .i64 27, .string p2, .string n2, .int .i64 N2, .slice q2 l2 c2] 39)).mono HB2.out.size)
  generalize hW2 : w2.alloc (.cells #[.int .i64 27, .string p2, .string n2, .int .i64 N2, .slice q2 l2 c2] 39) = W2 at *
  have d1 := hb_below HC1.out b2 (hb_lt HC1.out)
  have HD1 := Lib.hid d1
  have HC2 := Lib.hid c2'
  have HV2' := Lib.hid v2
  have HV12 := Lib.hid (HV1'.out.below b2)
  have b3 := HB1'.out.trans (b2.mono HB1'.out.size)
  have HB2' := Lib.hid b3
  have HE2 := Lib.hid (HE.out.below b3 hpos)
  have z2 := hb_lt c2'
  clear hW2 c2' v2 b2 d1 b3 HV2 HB2 HC1 HV1' HE1 HB1'
  go_upto_region 4 with (go_at_call 8; (with_reducible refine (H3.out _ HE2.out).mono ?_); rintro e w3 ⟨rfl, hb⟩; have HB3 := Lib.hid hb; clear hb)
  have b3 := HB3.out.trans ((below_alloc w3 (.cells #[.slice none 0 0, .slice none 0 0, .slice none 0 0, .slice none 0 0, .slice none 0 0] 29)).mono HB3.out.size)
  generalize w3.alloc (.cells #[.slice none 0 0, .slice none 0 0, .slice none 0 0, .slice none 0 0, .slice none 0 0] 29) = W3 at *
  have d1 := hb_below HD1.out b3 (hb_lt HD1.out)
  have d2 := hb_below HC2.out b3 (hb_lt HC2.out)
  have HV13 := Lib.hid (HV12.out.below b3)
  have HV23 := Lib.hid (HV2'.out.below b3)
  have HBf := Lib.hid (HB2'.out.trans (b3.mono HB2'.out.size))
  obtain ⟨x0, x1, x2, x3, x4, _⟩ := box5 d1
  obtain ⟨y0, y1, y2, y3, y4, _⟩ := box5 d2
  have u1 := hb_lt d1
  have u2 := hb_lt d2
  clear d1 d2 b3
  go_wp2_with (first
    | (go_at_call 9; (with_reducible refine (no_any _ _).mono ?_); rintro e w4 ⟨rfl, rfl⟩)
    | (go_at_call 14; (with_reducible refine (refSame_tm HV13.out HV23.out).mono ?_); rintro e w4 ⟨he, hb⟩; rw [same_self] at he; subst he; have HB4 := Lib.hid hb; clear hb))
  all_goals
    go_ret
    exact ⟨rfl, HBf.out.trans (HB4.out.mono HBf.out.size)⟩
end Go.Proofs.YtlbnaddgdgbckaaGreatDoor
/- The parser on what ParseDeep builds, from 0 to 60. -/
namespace Go.Proofs.YtlbnaddgdgbckaaGreatDoor
def kT (k : Int) (s : ByteArray) : Tk × Nat := (⟨k, s, 0⟩, 0)
def tokX : Tk × Nat := kT 1 ⟨#[120]⟩
def tokO : Tk × Nat := kT 8 ⟨#[40]⟩
def tokC : Tk × Nat := kT 8 ⟨#[41]⟩
def tokA : Tk × Nat := kT 8 ⟨#[45, 62]⟩
def tokF : Tk × Nat := kT 7 ⟨#[102, 117, 110]⟩
def tokI : Tk × Nat := kT 1 ⟨#[105, 110, 116]⟩
def tS : Nat → Ts
  | 0 => [tokX]
  | n + 1 => tokO :: (tS n ++ [tokC])
def tT : Nat → Ts
  | 0 => [tokX]
  | n + 1 => [tokF, tokX, tokA] ++ tT n
def tU : Nat → Ts
  | 0 => [tokI]
  | n + 1 => [tokI, tokA] ++ tU n
def tV : Nat → Ts
  | 0 => [tokX]
  | n + 1 => tV n ++ [tokX]
def errOf {α : Type} : Except (Nat × Nat) α → Nat
  | .ok _ => 0
  | .error y => y.2
def chkT (n : Nat) : Bool :=
  let want := if 40 ≤ n then 9 else 0
  (errOf (wholeP 0 (exprP 0 40) (tS n)) == want) && (errOf (wholeP 0 (exprP 0 40) (tT n)) == want) && (errOf (wholeP 0 (typP 0 40) (tU n)) == want) && ((errOf (wholeP 0 (exprP 0 40) (tV n)) == 0) == decide (n ≤ 50))
set_option maxRecDepth 1000000 in
theorem chk_all : (List.range 61).all chkT = true := by kernel_rfl
end Go.Proofs.YtlbnaddgdgbckaaGreatDoor
