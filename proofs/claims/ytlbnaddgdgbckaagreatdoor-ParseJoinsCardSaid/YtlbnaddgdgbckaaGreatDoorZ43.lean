/- Texts in a row: Td Tj. -/
import Derived.Test.YtlbnaddgdgbckaaGreatDoorZ34
import Derived.Test.YtlbnaddgdgbckaaGreatDoorZ42
import Derived.Deep.QuietTactic
import Derived.BigQuiet
import Derived.Deep.DeepCutAuto
/- No fault has the number 0. -/
namespace Go.Proofs.YtlbnaddgdgbckaaGreatDoor
set_option linter.unusedSimpArgs false
set_option linter.unusedVariables false
variable {α β : Type}
def ER (x : Res α) : Prop := ∀ p, x = .error p → p.2 ≠ 0
theorem ER.bnd {x : Res α} {f : α → Ts → Res β} (h : ER x) (hf : ∀ a ts, ER (f a ts)) : ER (bnd x f) := by
  intro p e
  cases x with
  | error q => exact h p (by cases e; rfl)
  | ok y => exact hf y.1 y.2 p e
theorem ER.ok {a : α} {ts : Ts} : ER (.ok (a, ts) : Res α) := fun p e => by cases e
theorem ER.die {E e : Nat} {ts : Ts} (he : e ≠ 0) : ER (die E ts e : Res α) := fun p h => by cases h; exact he
theorem ER.d10 {E : Nat} {ts : Ts} : ER (Proofs.YtlbnaddgdgbckaaGreatDoor.die E ts 10 : Res α) := ER.die (by decide)
theorem ER.d9 {E : Nat} {ts : Ts} : ER (Proofs.YtlbnaddgdgbckaaGreatDoor.die E ts 9 : Res α) := ER.die (by decide)
theorem ER.ite {c : Prop} [Decidable c] {x y : Res α} (hx : ER x) (hy : ER y) : ER (if c then x else y) := by
  by_cases h : c
  · rw [if_pos h]; exact hx
  · rw [if_neg h]; exact hy
theorem takeP_e {E : Nat} {k : Int} {ts : Ts} : ER (takeP E k ts) := ER.ite ER.ok ER.d10
theorem keyP_e {E : Nat} {k : Int} {x : ByteArray} {ts : Ts} : ER (keyP E k x ts) := ER.ite ER.ok ER.d10
theorem sevF_e {E : Nat} {bt : ByteArray} {f : Ts → Res α} (hf : ∀ ts, ER (f ts)) : ∀ (n : Nat) (ts : Ts) (acc : List α), ER (sevF E bt f n ts acc)
  | 0, ts, acc => ER.d10
  | n + 1, ts, acc => ER.ite (ER.bnd (hf _) fun a ts => sevF_e hf n ts _) ER.ok
theorem sevP_e {E : Nat} {bt : ByteArray} {f : Ts → Res α} (hf : ∀ ts, ER (f ts)) {ts : Ts} : ER (sevP E bt f ts) := ER.bnd (hf _) fun a ts => sevF_e hf _ _ _
theorem heldP_e {E : Nat} {f : Ts → Res α} (hf : ∀ ts, ER (f ts)) {ts : Ts} : ER (heldP E f ts) := ER.ite (ER.bnd (sevP_e hf) fun l ts => ER.bnd keyP_e fun _ ts => ER.ok) ER.ok
theorem openP_e {E : Nat} {f : Ts → Res Tm} (hf : ∀ ts, ER (f ts)) {ts : Ts} : ER (openP E f ts) := ER.bnd keyP_e fun _ ts => ER.ite ER.ok (sevP_e hf)
theorem shutP_e {E : Nat} {k : Int} {l : List Tm} {ts : Ts} : ER (shutP E k l ts) := ER.bnd keyP_e fun _ ts => ER.ok
theorem conP_e {E : Nat} {k : Int} {p : ByteArray} {f : Ts → Res Tm} (hf : ∀ ts, ER (f ts)) {ts : Ts} : ER (conP E k p f ts) := ER.bnd takeP_e fun s ts => ER.bnd (heldP_e hf) fun l ts => ER.ok
theorem tyConP_e {E : Nat} {p : ByteArray} {f : Ts → Res Tm} (hf : ∀ ts, ER (f ts)) {ts : Ts} : ER (tyConP E p f ts) := ER.bnd takeP_e fun s ts => ER.bnd (heldP_e hf) fun l ts => ER.ok
theorem tyAtomP_e {E : Nat} {f : Ts → Res Tm} (hf : ∀ ts, ER (f ts)) {ts : Ts} : ER (tyAtomP E f ts) :=
  ER.ite (ER.bnd takeP_e fun s ts => ER.ok) (ER.ite (ER.bnd takeP_e fun p ts => ER.bnd keyP_e fun _ ts => tyConP_e hf) (ER.ite (tyConP_e hf) (ER.bnd (openP_e hf) fun l ts => shutP_e)))
theorem typP_e (E : Nat) : ∀ (g : Nat) (ts : Ts), ER (typP E g ts)
  | 0, ts => ER.d9
  | g + 1, ts => ER.bnd (tyAtomP_e (typP_e E g)) fun t ts => ER.ite (ER.bnd (typP_e E g _) fun u ts => ER.ok) ER.ok
theorem annP_e {E : Nat} {f : Ts → Res Tm} (hf : ∀ ts, ER (f ts)) {ts : Ts} : ER (annP E f ts) := ER.ite (ER.bnd (hf _) fun t ts => ER.ok) ER.ok
theorem qualP_e {E : Nat} {ts : Ts} : ER (qualP E ts) := ER.ite (ER.bnd takeP_e fun p ts => ER.bnd keyP_e fun _ ts => ER.ok) ER.ok
theorem patP_e (E : Nat) : ∀ (g : Nat) (ts : Ts), ER (patP E g ts)
  | 0, ts => ER.d9
  | g + 1, ts => ER.ite (ER.bnd takeP_e fun s ts => ER.ok) (ER.ite (ER.bnd takeP_e fun s ts => ER.ok) (ER.ite (ER.bnd takeP_e fun s ts => ER.ok) (ER.ite (ER.bnd qualP_e fun p ts => conP_e (patP_e E g)) (ER.ite ER.ok (ER.bnd (openP_e (patP_e E g)) fun l ts => shutP_e)))))
theorem appF_e {E : Nat} {f : Ts → Res Tm} (hf : ∀ ts, ER (f ts)) : ∀ (k : Nat) (t : Tm) (ts : Ts), ER (appF E f k t ts)
  | 0, t, ts => ER.ite ER.d9 ER.ok
  | k + 1, t, ts => ER.ite (ER.bnd (hf _) fun a ts => appF_e hf k _ ts) ER.ok
theorem appP_e {E : Nat} {f : Ts → Res Tm} (hf : ∀ ts, ER (f ts)) {ts : Ts} : ER (appP E f ts) := ER.bnd (hf _) fun t ts => appF_e hf _ _ _
theorem varP_e {E : Nat} {p : ByteArray} {ts : Ts} : ER (varP E p ts) := ER.bnd takeP_e fun s ts => ER.ok
theorem atomP_e {E : Nat} {f f' : Ts → Res Tm} (hf : ∀ ts, ER (f ts)) (ht : ∀ ts, ER (f' ts)) (ts : Ts) : ER (atomP E f f' ts) :=
  ER.ite (ER.bnd takeP_e fun s ts => ER.ok) (ER.ite (ER.bnd takeP_e fun s ts => ER.ok) (ER.ite (ER.bnd qualP_e fun p ts => ER.ite (conP_e hf) varP_e) (ER.ite varP_e (ER.bnd (openP_e hf) fun l ts => ER.ite (ER.bnd (annP_e ht) fun a ts => shutP_e) shutP_e))))
theorem funP_e {E : Nat} {f : Ts → Res Tm} (hf : ∀ ts, ER (f ts)) {ts : Ts} : ER (funP E f ts) := ER.bnd takeP_e fun s ts => ER.bnd keyP_e fun _ ts => ER.bnd (hf _) fun x ts => ER.ok
theorem letR_e {E : Nat} {f f' : Ts → Res Tm} (hf : ∀ ts, ER (f ts)) (ht : ∀ ts, ER (f' ts)) {N : Int} {ts : Ts} : ER (letR E f f' N ts) :=
  ER.bnd takeP_e fun s ts => ER.bnd (annP_e ht) fun a ts => ER.bnd keyP_e fun _ ts => ER.bnd (hf _) fun x ts => ER.bnd keyP_e fun _ ts => ER.bnd (hf _) fun y ts => ER.ok
theorem letP_e {E : Nat} {f f' : Ts → Res Tm} (hf : ∀ ts, ER (f ts)) (ht : ∀ ts, ER (f' ts)) {ts : Ts} : ER (letP E f f' ts) := ER.ite (letR_e hf ht) (letR_e hf ht)
theorem armP_e {E : Nat} {f f' : Ts → Res Tm} (hp : ∀ ts, ER (f ts)) (hf : ∀ ts, ER (f' ts)) (ts : Ts) : ER (armP E f f' ts) := ER.bnd (hp _) fun p ts => ER.bnd keyP_e fun _ ts => ER.bnd (hf _) fun x ts => ER.ok
theorem matP_e {E : Nat} {f f' : Ts → Res Tm} (hp : ∀ ts, ER (f ts)) (hf : ∀ ts, ER (f' ts)) {ts : Ts} : ER (matP E f f' ts) :=
  ER.bnd (hf _) fun x ts => ER.bnd keyP_e fun _ ts => ER.bnd (sevP_e (armP_e hp hf)) fun l ts => ER.bnd keyP_e fun _ ts => ER.ok
theorem exprP_e (E : Nat) : ∀ (g : Nat) (ts : Ts), ER (exprP E g ts)
  | 0, ts => ER.d9
  | g + 1, ts => ER.ite (funP_e (exprP_e E g)) (ER.ite (letP_e (exprP_e E g) (typP_e E g)) (ER.ite (matP_e (patP_e E g) (exprP_e E g)) (appP_e (atomP_e (exprP_e E g) (typP_e E g)))))
theorem conIP_e {E : Nat} (ts : Ts) : ER (conIP E ts) := ER.bnd takeP_e fun s ts => ER.bnd (heldP_e (typP_e E 40)) fun l ts => ER.ok
theorem paramsP_e {E : Nat} {ts : Ts} : ER (paramsP E ts) := heldP_e fun _ => takeP_e
theorem impP_e {E : Nat} {ts : Ts} : ER (impP E ts) :=
  ER.bnd takeP_e fun a ts => ER.bnd keyP_e fun _ ts => ER.ite (ER.bnd takeP_e fun p ts => ER.bnd keyP_e fun _ ts => ER.bnd takeP_e fun v ts => ER.ok) ER.d10
theorem tydP_e {E : Nat} {ts : Ts} : ER (tydP E ts) := ER.bnd takeP_e fun n ts => ER.bnd paramsP_e fun p ts => ER.bnd keyP_e fun _ ts => ER.bnd (sevP_e conIP_e) fun c ts => ER.ok
theorem aliP_e {E : Nat} {ts : Ts} : ER (aliP E ts) := ER.bnd takeP_e fun n ts => ER.bnd paramsP_e fun p ts => ER.bnd keyP_e fun _ ts => ER.bnd (typP_e E 40 _) fun t ts => ER.ok
theorem letIP_e {E : Nat} {ts : Ts} : ER (letIP E ts) := ER.bnd takeP_e fun n ts => ER.bnd (annP_e (typP_e E 40)) fun a ts => ER.bnd keyP_e fun _ ts => ER.bnd (exprP_e E 40 _) fun b ts => ER.ok
theorem expP_e {E : Nat} {ts : Ts} : ER (expP E ts) := ER.ite (ER.bnd takeP_e fun n ts => ER.ok) (ER.bnd takeP_e fun n ts => ER.bnd (annP_e (typP_e E 40)) fun a ts => ER.ok)
theorem itemP_e {E : Nat} {m : Mod} {ts : Ts} : ER (itemP E m ts) :=
  ER.ite (ER.bnd impP_e fun _ ts => ER.ok) (ER.ite (ER.bnd tydP_e fun _ ts => ER.ok) (ER.ite (ER.bnd aliP_e fun _ ts => ER.ok) (ER.ite (ER.bnd letIP_e fun _ ts => ER.ok) (ER.ite (ER.bnd expP_e fun _ ts => ER.ok) ER.d10))))
theorem modF_e {E : Nat} : ∀ (f : Nat) (m : Mod) (ts : Ts), ER (modF E f m ts)
  | 0, m, ts => ER.d10
  | f + 1, m, ts => ER.ite ER.ok (ER.bnd itemP_e fun m ts => ER.bnd keyP_e fun _ ts => modF_e f m ts)
theorem modP_e (E : Nat) (ts : Ts) : ER (modP E ts) := modF_e _ _ _
end Go.Proofs.YtlbnaddgdgbckaaGreatDoor
/- ParseParens: the walk. -/
namespace Go.Proofs.YtlbnaddgdgbckaaGreatDoor
open Go.RowKit
set_option linter.unusedSimpArgs false
set_option linter.unusedVariables false
theorem around_expr {s t : ByteArray} {n : Nat} (hn : 1 ≤ n) (hn3 : n ≤ 3) (hz : s.size ≤ 3000) (ht : t.data.toList = parL n s.data.toList) : Around (errOf (exprM s) : Nat) (errOf (exprM t) : Nat) (exprM s) (exprM t) := by
  cases h : exprM s with
  | error y => exact .inl (errOf_pos (X := .error y) (fun z hz => by cases hz; exact readM_err (one := fun E ts => exprP E 40 ts) (fun E ts p hp => exprP_e E 40 ts p hp) h) rfl)
  | ok x =>
    rcases parens_expr hn hn3 hz ht h with h2 | ⟨p, h2⟩
    · rw [h2]; exact .inr (.inr ⟨rfl, rfl, x, rfl, rfl⟩)
    · rw [h2]; exact .inr (.inl ⟨rfl, rfl⟩)
theorem around_typ {s t : ByteArray} {n : Nat} (hn : 1 ≤ n) (hn3 : n ≤ 3) (hz : s.size ≤ 3000) (ht : t.data.toList = parL n s.data.toList) : Around (errOf (typM s) : Nat) (errOf (typM t) : Nat) (typM s) (typM t) := by
  cases h : typM s with
  | error y => exact .inl (errOf_pos (X := .error y) (fun z hz => by cases hz; exact readM_err (one := fun E ts => typP E 40 ts) (fun E ts p hp => typP_e E 40 ts p hp) h) rfl)
  | ok x =>
    rcases parens_typ hn hn3 hz ht h with h2 | ⟨p, h2⟩
    · rw [h2]; exact .inr (.inr ⟨rfl, rfl, x, rfl, rfl⟩)
    · rw [h2]; exact .inr (.inl ⟨rfl, rfl⟩)
set_option maxRecDepth 100000 in
set_option maxHeartbeats 8000000 in
theorem parens_walk (s : ByteArray) (x : Int) (h1 : -9223372036854775808 ≤ x) (h2 : x ≤ 9223372036854775807) (w : World) (hw : EscW w) : Calls Tryz.prog 4 #[.string s, .int .i64 x] w fun e w' => e = .returned (.bool true) ∧ Below w.heap.size w w' := by
  have hpos : 0 < w.heap.size := hw.pos
  have HE := Lib.hid hw
  obtain ⟨n, hn1, hn3, hx⟩ := par_n x h1 h2
  have HX := Lib.hid hx
  clear hw hx
  by_cases hz : s.size ≤ 3000
  · have hd : decide ((3000 : Int) < (s.size : Int)) = false := decide_eq_false (by omega)
    have hl : ((⟨#[40, 40, 40]⟩ : ByteArray).extract 0 n ++ s ++ ⟨#[10]⟩ ++ (⟨#[41, 41, 41]⟩ : ByteArray).extract 0 n).data.toList = parL n s.data.toList := par_list hn1 hn3
    obtain ⟨t, ht⟩ : ∃ t, t = (⟨#[40, 40, 40]⟩ : ByteArray).extract 0 n ++ s ++ ⟨#[10]⟩ ++ (⟨#[41, 41, 41]⟩ : ByteArray).extract 0 n := ⟨_, rfl⟩
    rw [← ht] at hl
    have htz : t.size ≤ 3007 := by
      have := congrArg List.length hl
      unfold parL at this
      rw [len_list] at this
      simp at this
      omega
    have hA := around_expr hn1 hn3 hz hl
    have hB := around_typ hn1 hn3 hz hl
    have C1 := Lib.hid (fun W hW => exprR_z (s := s) rfl (by omega) W hW)
    have C2 := Lib.hid (fun W hW => exprR_z (s := t) rfl (by omega) W hW)
    have C3 := Lib.hid (fun W hW => typR_z (s := s) rfl (by omega) W hW)
    have C4 := Lib.hid (fun W hW => typR_z (s := t) rfl (by omega) W hW)
    clear hl
    generalize ((errOf (exprM s) : Nat) : Int) = z1 at *
    generalize ((errOf (exprM t) : Nat) : Int) = z2 at *
    generalize ((errOf (typM s) : Nat) : Int) = z3 at *
    generalize ((errOf (typM t) : Nat) : Int) = z4 at *
    generalize exprM s = X1 at *
    generalize exprM t = X2 at *
    generalize typM s = X3 at *
    generalize typM t = X4 at *
    have HA := Lib.hid hA
    have HBt := Lib.hid hB
    have HT := Lib.hid ht
    clear hA hB ht
    unfold ExprZ at C1 C2 C3 C4
    go_enter Tryz.func4, Tryz.ntmps4
    go_upto_region 4 with (fail)
    rw [HX.out]
    go_upto_region 5 with (fail)
    go_quiet (fail)
    go_upto_region 6 with (fail)
    rw [← HT.out]
    clear HT
    have hb0 : Below w.heap.size w (w.drewN nq) := below_drewN (Below.refl _ _) nq
    generalize w.drewN nq = W0 at *
    have HB0 := Lib.hid hb0
    clear hb0
    go_upto_region 7 with (go_at_call 12; (with_reducible refine (C1.out _ (HE.out.below HB0.out hpos)).mono ?_); rintro e w1 ⟨k1, p1, n1, N1, q1, l1, c1, a1, rfl, hb, hv⟩; have HV1 := Lib.hid hv; have HC1 := Lib.hid hb; clear hb hv)
    have hk := hb_new w1 (.cells #[.int .i64 k1, .string p1, .string n1, .int .i64 N1, .slice q1 l1 c1] 39)
    have hb := HC1.out.trans ((below_alloc w1 (.cells #[.int .i64 k1, .string p1, .string n1, .int .i64 N1, .slice q1 l1 c1] 39)).mono HC1.out.size)
    have hv := fun t h => (HV1.out t h).below (below_alloc w1 (.cells #[.int .i64 k1, .string p1, .string n1, .int .i64 N1, .slice q1 l1 c1] 39))
    generalize hW : w1.alloc (.cells #[.int .i64 k1, .string p1, .string n1, .int .i64 N1, .slice q1 l1 c1] 39) = W1 at *
    have HB1 := Lib.hid (HB0.out.trans (hb.mono HB0.out.size))
    have K1 := Lib.hid hk
    have V1 := Lib.hid hv
    have hz1 := hb.size
    clear hW hk hb hv HV1 HC1
    go_upto_region 8 with (go_at_call 12; (with_reducible refine (C2.out _ (HE.out.below HB1.out hpos)).mono ?_); rintro e w2 ⟨k2, p2, n2, N2, q2, l2, c2, a2, rfl, hb, hv⟩; have HV2 := Lib.hid hv; have HC2 := Lib.hid hb; clear hb hv)
    have hk := hb_new w2 (.cells #[.int .i64 k2, .string p2, .string n2, .int .i64 N2, .slice q2 l2 c2] 39)
    have hb := HC2.out.trans ((below_alloc w2 (.cells #[.int .i64 k2, .string p2, .string n2, .int .i64 N2, .slice q2 l2 c2] 39)).mono HC2.out.size)
    have hv := fun t h => (HV2.out t h).below (below_alloc w2 (.cells #[.int .i64 k2, .string p2, .string n2, .int .i64 N2, .slice q2 l2 c2] 39))
    generalize hW : w2.alloc (.cells #[.int .i64 k2, .string p2, .string n2, .int .i64 N2, .slice q2 l2 c2] 39) = W2 at *
    have HB2 := Lib.hid (HB1.out.trans (hb.mono HB1.out.size))
    have hx := hb_below K1.out hb (hb_lt K1.out)
    have hy := fun t h => (V1.out t h).below hb
    clear K1 V1
    have K1 := Lib.hid hx
    have V1 := Lib.hid hy
    clear hx hy
    have K2 := Lib.hid hk
    have V2 := Lib.hid hv
    have hz2 := hb.size
    clear hW hk hb hv HV2 HC2
    go_upto_region 9 with (go_at_call 13; (with_reducible refine (C3.out _ (HE.out.below HB2.out hpos)).mono ?_); rintro e w3 ⟨k3, p3, n3, N3, q3, l3, c3, a3, rfl, hb, hv⟩; have HV3 := Lib.hid hv; have HC3 := Lib.hid hb; clear hb hv)
    have hk := hb_new w3 (.cells #[.int .i64 k3, .string p3, .string n3, .int .i64 N3, .slice q3 l3 c3] 39)
    have hb := HC3.out.trans ((below_alloc w3 (.cells #[.int .i64 k3, .string p3, .string n3, .int .i64 N3, .slice q3 l3 c3] 39)).mono HC3.out.size)
    have hv := fun t h => (HV3.out t h).below (below_alloc w3 (.cells #[.int .i64 k3, .string p3, .string n3, .int .i64 N3, .slice q3 l3 c3] 39))
    generalize hW : w3.alloc (.cells #[.int .i64 k3, .string p3, .string n3, .int .i64 N3, .slice q3 l3 c3] 39) = W3 at *
    have HB3 := Lib.hid (HB2.out.trans (hb.mono HB2.out.size))
    have hx := hb_below K1.out hb (hb_lt K1.out)
    have hy := fun t h => (V1.out t h).below hb
    clear K1 V1
    have K1 := Lib.hid hx
    have V1 := Lib.hid hy
    clear hx hy
    have hx := hb_below K2.out hb (hb_lt K2.out)
    have hy := fun t h => (V2.out t h).below hb
    clear K2 V2
    have K2 := Lib.hid hx
    have V2 := Lib.hid hy
    clear hx hy
    have K3 := Lib.hid hk
    have V3 := Lib.hid hv
    have hz3 := hb.size
    clear hW hk hb hv HV3 HC3
    go_upto_region 10 with (go_at_call 13; (with_reducible refine (C4.out _ (HE.out.below HB3.out hpos)).mono ?_); rintro e w4 ⟨k4, p4, n4, N4, q4, l4, c4, a4, rfl, hb, hv⟩; have HV4 := Lib.hid hv; have HC4 := Lib.hid hb; clear hb hv)
    have hk := hb_new w4 (.cells #[.int .i64 k4, .string p4, .string n4, .int .i64 N4, .slice q4 l4 c4] 39)
    have hb := HC4.out.trans ((below_alloc w4 (.cells #[.int .i64 k4, .string p4, .string n4, .int .i64 N4, .slice q4 l4 c4] 39)).mono HC4.out.size)
    have hv := fun t h => (HV4.out t h).below (below_alloc w4 (.cells #[.int .i64 k4, .string p4, .string n4, .int .i64 N4, .slice q4 l4 c4] 39))
    generalize hW : w4.alloc (.cells #[.int .i64 k4, .string p4, .string n4, .int .i64 N4, .slice q4 l4 c4] 39) = W4 at *
    have HB4 := Lib.hid (HB3.out.trans (hb.mono HB3.out.size))
    have hx := hb_below K1.out hb (hb_lt K1.out)
    have hy := fun t h => (V1.out t h).below hb
    clear K1 V1
    have K1 := Lib.hid hx
    have V1 := Lib.hid hy
    clear hx hy
    have hx := hb_below K2.out hb (hb_lt K2.out)
    have hy := fun t h => (V2.out t h).below hb
    clear K2 V2
    have K2 := Lib.hid hx
    have V2 := Lib.hid hy
    clear hx hy
    have hx := hb_below K3.out hb (hb_lt K3.out)
    have hy := fun t h => (V3.out t h).below hb
    clear K3 V3
    have K3 := Lib.hid hx
    have V3 := Lib.hid hy
    clear hx hy
    have K4 := Lib.hid hk
    have V4 := Lib.hid hv
    have hz4 := hb.size
    clear hW hk hb hv HV4 HC4
    have x1 := box5 K1.out
    obtain ⟨x0, x1, x2, x3, x4, _⟩ := x1
    obtain ⟨y0, y1, y2, y3, y4, _⟩ := box5 K2.out
    obtain ⟨s0, s1, s2, s3, s4, _⟩ := box5 K3.out
    obtain ⟨t0, t1, t2, t3, t4, _⟩ := box5 K4.out
    rcases HA.out with hz1 | ⟨hz1, hz2⟩ | ⟨hz1, hz2, u1, e1, e2⟩
    · have g1 : (z1 == 0) = false := by simpa using hz1
      go_upto_region 12 with (go_at_call 9; (with_reducible refine (no_any _ _).mono ?_); rintro e w8 ⟨rfl, rfl⟩)
      rcases HBt.out with hz3 | ⟨hz3, hz4⟩ | ⟨hz3, hz4, u, e3, e4⟩
      · have g3 : (z3 == 0) = false := by simpa using hz3
        clear HA HBt
        go_wp2_with (first | (go_at_call 9; (with_reducible refine (no_any _ _).mono ?_); rintro e w8 ⟨rfl, rfl⟩) | (go_at_call 7; (with_reducible refine (alive_any _ (HE.out.below HB4.out hpos)).mono ?_); rintro e w5 ⟨rfl, hb⟩; have HB9 := Lib.hid hb; clear hb))
        all_goals
          go_ret
          exact ⟨rfl, HB4.out.trans (HB9.out.mono HB4.out.size)⟩
      · subst hz3 hz4
        clear HA HBt
        go_wp2_with (first | (go_at_call 9; (with_reducible refine (no_any _ _).mono ?_); rintro e w8 ⟨rfl, rfl⟩) | (go_at_call 7; (with_reducible refine (alive_any _ (HE.out.below HB4.out hpos)).mono ?_); rintro e w5 ⟨rfl, hb⟩; have HB9 := Lib.hid hb; clear hb))
        all_goals
          go_ret
          exact ⟨rfl, HB4.out.trans (HB9.out.mono HB4.out.size)⟩
      · subst hz3 hz4
        have hs := refSame_tm (V3.out u e3) (V4.out u e4)
        unfold SameR at hs
        rw [same_self] at hs
        have HS2 := Lib.hid hs
        clear hs HA HBt
        go_wp2_with (first | (go_at_call 9; (with_reducible refine (no_any _ _).mono ?_); rintro e w8 ⟨rfl, rfl⟩) | (go_at_call 14; (with_reducible refine HS2.out.mono ?_); rintro e w9 ⟨rfl, hb⟩; have HB6 := Lib.hid hb; clear hb) | (go_at_call 7; (with_reducible refine (alive_any _ (HE.out.below (HB4.out.trans (HB6.out.mono HB4.out.size)) hpos)).mono ?_); rintro e w5 ⟨rfl, hb⟩; have HB9 := Lib.hid (HB6.out.trans (hb.mono HB6.out.size)); clear hb))
        all_goals
          go_ret
          exact ⟨rfl, HB4.out.trans (HB9.out.mono HB4.out.size)⟩
    · subst hz1 hz2
      go_upto_region 12 with (go_at_call 9; (with_reducible refine (no_any _ _).mono ?_); rintro e w8 ⟨rfl, rfl⟩)
      rcases HBt.out with hz3 | ⟨hz3, hz4⟩ | ⟨hz3, hz4, u, e3, e4⟩
      · have g3 : (z3 == 0) = false := by simpa using hz3
        clear HA HBt
        go_wp2_with (first | (go_at_call 9; (with_reducible refine (no_any _ _).mono ?_); rintro e w8 ⟨rfl, rfl⟩) | (go_at_call 7; (with_reducible refine (alive_any _ (HE.out.below HB4.out hpos)).mono ?_); rintro e w5 ⟨rfl, hb⟩; have HB9 := Lib.hid hb; clear hb))
        all_goals
          go_ret
          exact ⟨rfl, HB4.out.trans (HB9.out.mono HB4.out.size)⟩
      · subst hz3 hz4
        clear HA HBt
        go_wp2_with (first | (go_at_call 9; (with_reducible refine (no_any _ _).mono ?_); rintro e w8 ⟨rfl, rfl⟩) | (go_at_call 7; (with_reducible refine (alive_any _ (HE.out.below HB4.out hpos)).mono ?_); rintro e w5 ⟨rfl, hb⟩; have HB9 := Lib.hid hb; clear hb))
        all_goals
          go_ret
          exact ⟨rfl, HB4.out.trans (HB9.out.mono HB4.out.size)⟩
      · subst hz3 hz4
        have hs := refSame_tm (V3.out u e3) (V4.out u e4)
        unfold SameR at hs
        rw [same_self] at hs
        have HS2 := Lib.hid hs
        clear hs HA HBt
        go_wp2_with (first | (go_at_call 9; (with_reducible refine (no_any _ _).mono ?_); rintro e w8 ⟨rfl, rfl⟩) | (go_at_call 14; (with_reducible refine HS2.out.mono ?_); rintro e w9 ⟨rfl, hb⟩; have HB6 := Lib.hid hb; clear hb) | (go_at_call 7; (with_reducible refine (alive_any _ (HE.out.below (HB4.out.trans (HB6.out.mono HB4.out.size)) hpos)).mono ?_); rintro e w5 ⟨rfl, hb⟩; have HB9 := Lib.hid (HB6.out.trans (hb.mono HB6.out.size)); clear hb))
        all_goals
          go_ret
          exact ⟨rfl, HB4.out.trans (HB9.out.mono HB4.out.size)⟩
    · subst hz1 hz2
      have hs := refSame_tm (V1.out u1 e1) (V2.out u1 e2)
      unfold SameR at hs
      rw [same_self] at hs
      have HS1 := Lib.hid hs
      clear hs
      go_upto_region 12 with (first | (go_at_call 9; (with_reducible refine (no_any _ _).mono ?_); rintro e w8 ⟨rfl, rfl⟩) | (go_at_call 14; (with_reducible refine HS1.out.mono ?_); rintro e w9 ⟨rfl, hb⟩; have HB5 := Lib.hid hb; clear hb))
      have hk3 := hb_below K3.out HB5.out (hb_lt K3.out)
      have hk4 := hb_below K4.out HB5.out (hb_lt K4.out)
      have hv3 := fun t h => (V3.out t h).below HB5.out
      have hv4 := fun t h => (V4.out t h).below HB5.out
      have HBQ := Lib.hid (HB4.out.trans (HB5.out.mono HB4.out.size))
      clear s0 s1 s2 s3 s4 t0 t1 t2 t3 t4
      have U3 := Lib.hid hv3
      have U4 := Lib.hid hv4
      obtain ⟨s0, s1, s2, s3, s4, _⟩ := box5 hk3
      obtain ⟨t0, t1, t2, t3, t4, _⟩ := box5 hk4
      clear hk3 hk4 hv3 hv4
      rcases HBt.out with hz3 | ⟨hz3, hz4⟩ | ⟨hz3, hz4, u, e3, e4⟩
      · have g3 : (z3 == 0) = false := by simpa using hz3
        clear HA HBt
        go_wp2_with (first | (go_at_call 9; (with_reducible refine (no_any _ _).mono ?_); rintro e w8 ⟨rfl, rfl⟩) | (go_at_call 7; (with_reducible refine (alive_any _ (HE.out.below HBQ.out hpos)).mono ?_); rintro e w5 ⟨rfl, hb⟩; have HB9 := Lib.hid hb; clear hb))
        all_goals
          go_ret
          exact ⟨rfl, HBQ.out.trans (HB9.out.mono HBQ.out.size)⟩
      · subst hz3 hz4
        clear HA HBt
        go_wp2_with (first | (go_at_call 9; (with_reducible refine (no_any _ _).mono ?_); rintro e w8 ⟨rfl, rfl⟩) | (go_at_call 7; (with_reducible refine (alive_any _ (HE.out.below HBQ.out hpos)).mono ?_); rintro e w5 ⟨rfl, hb⟩; have HB9 := Lib.hid hb; clear hb))
        all_goals
          go_ret
          exact ⟨rfl, HBQ.out.trans (HB9.out.mono HBQ.out.size)⟩
      · subst hz3 hz4
        have hs := refSame_tm (U3.out u e3) (U4.out u e4)
        unfold SameR at hs
        rw [same_self] at hs
        have HS2 := Lib.hid hs
        clear hs HA HBt
        go_wp2_with (first | (go_at_call 9; (with_reducible refine (no_any _ _).mono ?_); rintro e w8 ⟨rfl, rfl⟩) | (go_at_call 14; (with_reducible refine HS2.out.mono ?_); rintro e w9 ⟨rfl, hb⟩; have HB6 := Lib.hid hb; clear hb) | (go_at_call 7; (with_reducible refine (alive_any _ (HE.out.below (HBQ.out.trans (HB6.out.mono HBQ.out.size)) hpos)).mono ?_); rintro e w5 ⟨rfl, hb⟩; have HB9 := Lib.hid (HB6.out.trans (hb.mono HB6.out.size)); clear hb))
        all_goals
          go_ret
          exact ⟨rfl, HBQ.out.trans (HB9.out.mono HBQ.out.size)⟩
  · have hd : decide ((3000 : Int) < (s.size : Int)) = true := decide_eq_true (by omega)
    go_enter Tryz.func4, Tryz.ntmps4
    go_wp2_with (go_at_call 7; (with_reducible refine (alive_any _ HE.out).mono ?_); rintro e w5 ⟨rfl, hb⟩; have HB9 := Lib.hid hb; clear hb)
    all_goals
      go_ret
      exact ⟨rfl, HB9.out⟩
end Go.Proofs.YtlbnaddgdgbckaaGreatDoor
