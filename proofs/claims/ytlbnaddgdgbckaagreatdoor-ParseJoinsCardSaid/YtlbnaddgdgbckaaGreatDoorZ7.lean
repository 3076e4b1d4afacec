/- Texts in a row: Pm Pi. -/
import Derived.Test.YtlbnaddgdgbckaaGreatDoorZ5
import Derived.Test.YtlbnaddgdgbckaaGreatDoorZ6
/- No reader has more to read behind than ahead. -/
namespace Go.Proofs.YtlbnaddgdgbckaaGreatDoor
set_option linter.unusedSimpArgs false
set_option linter.unusedVariables false
def MR {α : Type} (n : Nat) (x : Res α) : Prop := ∀ a ts', x = .ok (a, ts') → ts'.length ≤ n
theorem MR.bnd {α β : Type} {n : Nat} {x : Res α} {f : α → Ts → Res β} (hx : MR n x) (hf : ∀ a ts, ts.length ≤ n → MR n (f a ts)) : MR n (bnd x f) := by
  intro b ts' h
  cases x with
  | error e => cases h
  | ok y => exact hf y.1 y.2 (hx y.1 y.2 rfl) b ts' h
theorem MR.ok {α : Type} {n : Nat} {a : α} {ts : Ts} (h : ts.length ≤ n) : MR n (.ok (a, ts) : Res α) := by
  intro b ts' e
  cases e
  exact h
theorem MR.die {α : Type} {n E e : Nat} {ts : Ts} : MR n (die E ts e : Res α) := by
  intro b ts' h
  cases h
theorem MR.of {α : Type} {one : Ts → Res α} (h : Mono one) {n : Nat} {ts : Ts} (hl : ts.length ≤ n) : MR n (one ts) := fun a ts' e => Nat.le_trans (h _ _ _ e) hl
theorem tail_le (ts : Ts) {n : Nat} (h : ts.length ≤ n) : ts.tail.length ≤ n := by rw [List.length_tail]; omega
theorem MR.ite {α : Type} {n : Nat} {c : Prop} [Decidable c] {x y : Res α} (hx : MR n x) (hy : MR n y) : MR n (if c then x else y) := by
  by_cases h : c
  · rw [if_pos h]; exact hx
  · rw [if_neg h]; exact hy
theorem takeP_m {E n : Nat} {k : Int} {ts : Ts} (h : ts.length ≤ n) : MR n (takeP E k ts) := by
  unfold takeP
  exact MR.ite (MR.ok (tail_le ts h)) MR.die
theorem keyP_m {E n : Nat} {k : Int} {x : ByteArray} {ts : Ts} (h : ts.length ≤ n) : MR n (keyP E k x ts) := by
  unfold keyP
  exact MR.ite (MR.ok (tail_le ts h)) MR.die
theorem sevF_m {α : Type} {E : Nat} {bt : ByteArray} {one : Ts → Res α} (hm : Mono one) : ∀ (f : Nat) (ts : Ts) (acc : List α) (n : Nat), ts.length ≤ n → MR n (sevF E bt one f ts acc)
  | 0, ts, acc, n, h => MR.die
  | f + 1, ts, acc, n, h => by
    unfold sevF
    exact MR.ite (MR.bnd (MR.of hm (tail_le ts h)) fun a ts1 h1 => sevF_m hm f ts1 _ n h1) (MR.ok h)
theorem sevP_m {α : Type} {E n : Nat} {bt : ByteArray} {one : Ts → Res α} (hm : Mono one) {ts : Ts} (h : ts.length ≤ n) : MR n (sevP E bt one ts) :=
  MR.bnd (MR.of hm h) fun a ts1 h1 => sevF_m hm _ ts1 _ n h1
theorem heldP_m {α : Type} {E n : Nat} {one : Ts → Res α} (hm : Mono one) {ts : Ts} (h : ts.length ≤ n) : MR n (heldP E one ts) :=
  MR.ite (MR.bnd (sevP_m hm (tail_le ts h)) fun l ts1 h1 => MR.bnd (keyP_m h1) fun _ ts2 h2 => MR.ok h2) (MR.ok h)
theorem openP_m {E n : Nat} {one : Ts → Res Tm} (hm : Mono one) {ts : Ts} (h : ts.length ≤ n) : MR n (openP E one ts) :=
  MR.bnd (keyP_m h) fun _ ts1 h1 => MR.ite (MR.ok h1) (sevP_m hm h1)
theorem shutP_m {E n : Nat} {k : Int} {l : List Tm} {ts : Ts} (h : ts.length ≤ n) : MR n (shutP E k l ts) := MR.bnd (keyP_m h) fun _ ts1 h1 => MR.ok h1
theorem conP_m {E n : Nat} {k : Int} {p : ByteArray} {one : Ts → Res Tm} (hm : Mono one) {ts : Ts} (h : ts.length ≤ n) : MR n (conP E k p one ts) :=
  MR.bnd (takeP_m h) fun s ts1 h1 => MR.bnd (heldP_m hm h1) fun l ts2 h2 => MR.ok h2
theorem tyConP_m {E n : Nat} {p : ByteArray} {one : Ts → Res Tm} (hm : Mono one) {ts : Ts} (h : ts.length ≤ n) : MR n (tyConP E p one ts) :=
  MR.bnd (takeP_m h) fun s ts1 h1 => MR.bnd (heldP_m hm h1) fun l ts2 h2 => MR.ok h2
theorem tyAtomP_m {E n : Nat} {one : Ts → Res Tm} (hm : Mono one) {ts : Ts} (h : ts.length ≤ n) : MR n (tyAtomP E one ts) :=
  MR.ite (MR.bnd (takeP_m h) fun s ts1 h1 => MR.ok h1) (MR.ite (MR.bnd (takeP_m h) fun p ts1 h1 => MR.bnd (keyP_m h1) fun _ ts2 h2 => tyConP_m hm h2)
    (MR.ite (tyConP_m hm h) (MR.bnd (openP_m hm h) fun l ts1 h1 => shutP_m h1)))
theorem typP_mono (E : Nat) : ∀ g, Mono (typP E g)
  | 0 => fun ts a ts' h => by cases h
  | g + 1 => fun ts a ts' h => by
    unfold typP at h
    exact MR.bnd (tyAtomP_m (typP_mono E g) (Nat.le_refl _)) (fun t ts1 h1 => MR.ite (MR.bnd (MR.of (typP_mono E g) (tail_le ts1 h1)) fun u ts2 h2 => MR.ok h2) (MR.ok h1)) a ts' h
theorem annP_m {E n : Nat} {one : Ts → Res Tm} (hm : Mono one) {ts : Ts} (h : ts.length ≤ n) : MR n (annP E one ts) :=
  MR.ite (MR.bnd (MR.of hm (tail_le ts h)) fun t ts1 h1 => MR.ok h1) (MR.ok h)
theorem qualP_m {E n : Nat} {ts : Ts} (h : ts.length ≤ n) : MR n (qualP E ts) :=
  MR.ite (MR.bnd (takeP_m h) fun p ts1 h1 => MR.bnd (keyP_m h1) fun _ ts2 h2 => MR.ok h2) (MR.ok h)
theorem patP_mono (E : Nat) : ∀ g, Mono (patP E g)
  | 0 => fun ts a ts' h => by cases h
  | g + 1 => fun ts a ts' h => by
    unfold patP at h
    have hl := Nat.le_refl ts.length
    exact MR.ite (MR.bnd (takeP_m hl) fun s ts1 h1 => MR.ok h1) (MR.ite (MR.bnd (takeP_m hl) fun s ts1 h1 => MR.ok h1) (MR.ite (MR.bnd (takeP_m hl) fun s ts1 h1 => MR.ok h1)
      (MR.ite (MR.bnd (qualP_m hl) fun p ts1 h1 => conP_m (patP_mono E g) h1) (MR.ite (MR.ok (tail_le ts hl)) (MR.bnd (openP_m (patP_mono E g) hl) fun l ts1 h1 => shutP_m h1))))) a ts' h
theorem appF_m {E : Nat} {atom : Ts → Res Tm} (hm : Mono atom) : ∀ (k : Nat) (t : Tm) (ts : Ts) (n : Nat), ts.length ≤ n → MR n (appF E atom k t ts)
  | 0, t, ts, n, h => MR.ite MR.die (MR.ok h)
  | k + 1, t, ts, n, h => MR.ite (MR.bnd (MR.of hm h) fun a ts1 h1 => appF_m hm k _ ts1 n h1) (MR.ok h)
theorem appP_m {E n : Nat} {atom : Ts → Res Tm} (hm : Mono atom) {ts : Ts} (h : ts.length ≤ n) : MR n (appP E atom ts) := MR.bnd (MR.of hm h) fun t ts1 h1 => appF_m hm 50 t ts1 n h1
theorem varP_m {E n : Nat} {p : ByteArray} {ts : Ts} (h : ts.length ≤ n) : MR n (varP E p ts) := MR.bnd (takeP_m h) fun s ts1 h1 => MR.ok h1
theorem atomP_mono {E : Nat} {one typ : Ts → Res Tm} (hm : Mono one) (ht : Mono typ) : Mono (atomP E one typ) := fun ts a ts' h => by
  have hl := Nat.le_refl ts.length
  unfold atomP at h
  exact MR.ite (MR.bnd (takeP_m hl) fun s ts1 h1 => MR.ok h1) (MR.ite (MR.bnd (takeP_m hl) fun s ts1 h1 => MR.ok h1)
    (MR.ite (MR.bnd (qualP_m hl) fun p ts1 h1 => MR.ite (conP_m hm h1) (varP_m h1)) (MR.ite (varP_m hl) (MR.bnd (openP_m hm hl) fun l ts1 h1 =>
      MR.ite (MR.bnd (annP_m ht h1) fun a ts2 h2 => shutP_m h2) (shutP_m h1))))) a ts' h
theorem funP_m {E n : Nat} {one : Ts → Res Tm} (hm : Mono one) {ts : Ts} (h : ts.length ≤ n) : MR n (funP E one ts) :=
  MR.bnd (takeP_m h) fun s ts1 h1 => MR.bnd (keyP_m h1) fun _ ts2 h2 => MR.bnd (MR.of hm h2) fun x ts3 h3 => MR.ok h3
theorem letR_m {E n : Nat} {one typ : Ts → Res Tm} (hm : Mono one) (ht : Mono typ) {N : Int} {ts : Ts} (h : ts.length ≤ n) : MR n (letR E one typ N ts) :=
  MR.bnd (takeP_m h) fun s ts1 h1 => MR.bnd (annP_m ht h1) fun a ts2 h2 => MR.bnd (keyP_m h2) fun _ ts3 h3 => MR.bnd (MR.of hm h3) fun x ts4 h4 =>
    MR.bnd (keyP_m h4) fun _ ts5 h5 => MR.bnd (MR.of hm h5) fun y ts6 h6 => MR.ok h6
theorem letP_m {E n : Nat} {one typ : Ts → Res Tm} (hm : Mono one) (ht : Mono typ) {ts : Ts} (h : ts.length ≤ n) : MR n (letP E one typ ts) :=
  MR.ite (letR_m hm ht (tail_le ts h)) (letR_m hm ht h)
theorem armP_mono {E : Nat} {pat one : Ts → Res Tm} (hp : Mono pat) (hm : Mono one) : Mono (armP E pat one) := fun ts a ts' h =>
  MR.bnd (MR.of hp (Nat.le_refl ts.length)) (fun p ts1 h1 => MR.bnd (keyP_m h1) fun _ ts2 h2 => MR.bnd (MR.of hm h2) fun x ts3 h3 => MR.ok h3) a ts' h
theorem matP_m {E n : Nat} {pat one : Ts → Res Tm} (hp : Mono pat) (hm : Mono one) {ts : Ts} (h : ts.length ≤ n) : MR n (matP E pat one ts) :=
  MR.bnd (MR.of hm h) fun x ts1 h1 => MR.bnd (keyP_m h1) fun _ ts2 h2 => MR.bnd (sevP_m (armP_mono hp hm) h2) fun l ts3 h3 => MR.bnd (keyP_m h3) fun _ ts4 h4 => MR.ok h4
theorem exprP_mono (E : Nat) : ∀ g, Mono (exprP E g)
  | 0 => fun ts a ts' h => by cases h
  | g + 1 => fun ts a ts' h => by
    unfold exprP at h
    have hl := Nat.le_refl ts.length
    exact MR.ite (funP_m (exprP_mono E g) (tail_le ts hl)) (MR.ite (letP_m (exprP_mono E g) (typP_mono E g) (tail_le ts hl)) (MR.ite (matP_m (patP_mono E g) (exprP_mono E g) (tail_le ts hl))
      (appP_m (atomP_mono (exprP_mono E g) (typP_mono E g)) hl))) a ts' h
end Go.Proofs.YtlbnaddgdgbckaaGreatDoor
/- A type. -/
namespace Go.Proofs.YtlbnaddgdgbckaaGreatDoor
open Go.RowKit
set_option linter.unusedSimpArgs false
set_option linter.unusedVariables false
theorem boxes3 (w : World) (a b c : Obj) : (((w.alloc a).alloc b).alloc c).heap[w.heap.size]? = some a ∧ (((w.alloc a).alloc b).alloc c).heap[w.heap.size + 1]? = some b ∧ (((w.alloc a).alloc b).alloc c).heap[w.heap.size + 2]? = some c ∧
    (((w.alloc a).alloc b).alloc c).heap.size = w.heap.size + 3 ∧ Below w.heap.size w (((w.alloc a).alloc b).alloc c) := by
  have h1 := hb_new (w.alloc a) b
  have h2 := hb_new ((w.alloc a).alloc b) c
  rw [World.size_alloc] at h1
  rw [World.size_alloc, World.size_alloc] at h2
  refine ⟨hb_alloc (hb_alloc (hb_new w a) b) c, hb_alloc h1 c, h2, by simp, ?_⟩
  exact (((Below.refl _ w).alloc (Nat.le_refl _) a).alloc (by simp) b).alloc (by simp; omega) c
abbrev bp (b : Nat) : Value := .pointer (some ⟨b, 0, none⟩)
set_option maxRecDepth 100000 in
theorem typ1_any (r E d g : Nat) (hd : d ≤ 40) (IH : ∀ ts W, Rd r E W ts → Calls Tryz.prog 25 #[rp r, .int .i64 ((d + 1 : Nat) : Int)] W (Got r E TmV W (typP E g ts))) (br bd : Nat) (w0 : World)
    (hbr : w0.heap[br]? = some (.cells #[rp r] 56 (0, 0))) (hbd : w0.heap[bd]? = some (.cells #[.int .i64 (d : Nat)] 3 (0, 0))) (h1 : br ≠ r) (h2 : bd ≠ r) : OneT r E (typP E g) 45 #[bp br, bp bd] w0 := by
  intro w ts hg hR
  have kr := hg.keep hbr h1
  have kd := hg.keep hbd h2
  have x0 := hb_at kr 0 rfl
  have x1 := hb_at kd 0 rfl
  have z0 := hb_lt kr
  have z1 := hb_lt kd
  have hrl := hR.lt
  have HR0 := Lib.hid hR
  have HG0 : RowKit.Hid (Rg r w w) := Lib.hid (Rg.refl r w)
  obtain ⟨S, hS⟩ : ∃ S, S = typP E g ts := ⟨_, rfl⟩
  have HS0 := Lib.hid hS
  rw [← hS]
  have HI := Lib.hid IH
  clear hR hS hg hbr hbd kr kd IH
  have hc : ((d + 1 : Nat) : Int) = (d : Int) + 1 := by omega
  rw [hc] at HI
  go_enter Tryz.func45, Tryz.ntmps45
  go_wp2_with (go_at_call 25; (with_reducible refine (HI.out _ _ (by first | exact HR0.out | exact HR0.out.alloc _ | exact (HR0.out.alloc _).alloc _ | exact ((HR0.out.alloc _).alloc _).alloc _ | exact HR0.out.upto (fun _ _ _ => rfl) | exact (HR0.out.alloc _).upto (fun _ _ _ => rfl))).mono ?_); rintro e w1 h1; rcases h1.step (HS0.out.trans (bnd_id _).symm) with ⟨v1, a1, ts1, rfl, hV, hR, hg, hS, hx⟩ | ⟨y, rfl, hg, hSE⟩; rotate_left; (have hGE : Rg r w w1 := (by first | exact HG0.out.trans hg | exact (HG0.out.alloc _).trans hg | exact ((HG0.out.alloc _).alloc _).trans hg | exact (((HG0.out.alloc _).alloc _).alloc _).trans hg | exact HG0.out.drew.trans hg | exact (HG0.out.alloc _).drew.trans hg)); rotate_left; (obtain ⟨k1, p1, n1, N1, q1, l1, c1, rfl⟩ := hV.shape; have HV1 := Lib.hid hV); (have HR1 := Lib.hid hR; have HG1 : RowKit.Hid (Rg r w w1) := Lib.hid (by first | exact HG0.out.trans hg | exact (HG0.out.alloc _).trans hg | exact ((HG0.out.alloc _).alloc _).trans hg | exact (((HG0.out.alloc _).alloc _).alloc _).trans hg | exact HG0.out.drew.trans hg | exact (HG0.out.alloc _).drew.trans hg); have HS1 := Lib.hid hS; have HX1 := Lib.hid hx; have HD1 := Lib.hid hg; clear hR hg hS hx hV); (have HBr1 := Lib.hid (HD1.out.keep (hb_new _ _) (by omega)); obtain ⟨x0, x1, x2, x3, x4, y0, y1, y2, y3, y4⟩ := box5 HBr1.out))
  all_goals first | exact ⟨rfl, hGE, rfl⟩ | exact ⟨rfl, hGE, by rw [hSE]⟩ | skip
  exact fin5 (w0 := w) rfl rfl rfl HBr1.out (Nat.le_refl _) HG1.out hrl HR1.out HS1.out (w.heap.size + 1) (by omega) (by omega) (by obtain ⟨d, h⟩ := HV1.out; exact ⟨d, h.move fun b hb _ => ⟨by unfold New at hb; rw [World.size_alloc] at hb; exact hb, rfl⟩⟩)
set_option maxRecDepth 100000 in
set_option maxHeartbeats 1000000 in
theorem typ_any (r E : Nat) : ∀ (g d : Nat), d + g = 41 → ∀ (ts : Ts) (w : World), Rd r E w ts → Calls Tryz.prog 25 #[rp r, .int .i64 (d : Nat)] w (Got r E TmV w (typP E g ts)) := by
  intro g
  induction g with
  | zero =>
    intro d hd ts w hR
    have hd41 : 40 < d := by omega
    have HR0 := Lib.hid hR
    have hrl := hR.lt
    have HB := Lib.hid (fun W hW => begin_no r E d hd41 ts W hW)
    have hS : typP E 0 ts = .error ((nx E ts).2, 9) := rfl
    rw [hS]
    clear hR hS hd hd41
    go_enter Tryz.func25, Tryz.ntmps25
    go_wp2_with (go_at_call 36; (with_reducible refine (HB.out _ (by first | exact HR0.out | exact HR0.out.alloc _ | exact (HR0.out.alloc _).alloc _ | exact ((HR0.out.alloc _).alloc _).alloc _ | exact HR0.out.upto (fun _ _ _ => rfl) | exact (HR0.out.alloc _).upto (fun _ _ _ => rfl))).mono ?_); rintro e w1 ⟨rfl, hg⟩)
    exact ⟨rfl, (((Rg.refl r w).alloc _).alloc _ |>.alloc _).trans hg, rfl⟩
  | succ g ih =>
    intro d hd ts w hR
    have hd40 : d ≤ 40 := by omega
    have HIH := Lib.hid (ih (d + 1) (by omega))
    have HIN : RowKit.Hid (∀ (ts : Ts) (w : World), Rd r E w ts → Calls Tryz.prog 25 #[rp r, .int .i64 ((d : Int) + 1)] w (Got r E TmV w (typP E g ts))) := Lib.hid (ih (d + 1) (by omega))
    have hw1 : IntKind.i64.wrap ((d : Int) + 1) = (d : Int) + 1 := IntWalk.i64_in _ (by omega)
    have HR0 := Lib.hid hR
    have hrl := hR.lt
    have HBG := Lib.hid (fun W hW => begin_ok r E d hd40 ts W hW)
    have HM := Lib.hid (typP_mono E g)
    have HCF : RowKit.Hid (∀ W, (callFunc 45 #[bp w.heap.size, bp (w.heap.size + 1)]).run Tryz.prog W = .ok (.enter 45 #[bp w.heap.size, bp (w.heap.size + 1)]) W) := Lib.hid (fun W => by kernel_rfl)
    obtain ⟨S, hS⟩ : ∃ S, S = typP E (g + 1) ts := ⟨_, rfl⟩
    have HS0 := Lib.hid hS
    rw [← hS]
    unfold typP at HS0
    clear hR hS ih
    go_enter Tryz.func25, Tryz.ntmps25
    go_upto_region 1 with (fail)
    obtain ⟨c0, c1, c2, hz3, hb3⟩ := boxes3 w (.cells #[rp r] 56) (.cells #[.int .i64 (d : Nat)] 3) (.cells #[.int .i64 0, .string ⟨#[]⟩, .string ⟨#[]⟩, .int .i64 0, .slice none 0 0] 39)
    generalize hW1 : ((w.alloc (.cells #[rp r] 56)).alloc (.cells #[.int .i64 (d : Nat)] 3)).alloc (.cells #[.int .i64 0, .string ⟨#[]⟩, .string ⟨#[]⟩, .int .i64 0, .slice none 0 0] 39) = W1 at *
    have HBr1 := Lib.hid c0
    have HBd1 := Lib.hid c1
    have HBx1 := Lib.hid c2
    have HR1 : RowKit.Hid (Rd r E W1 ts) := Lib.hid (HR0.out.below hb3)
    have HG1 : RowKit.Hid (Rg r w W1) := Lib.hid (Rg.of_below hb3)
    have HS1 := HS0
    have x0 := hb_at c0 0 rfl
    have x1 := hb_at c1 0 rfl
    have q0 := hb_lt c0
    have q1 := hb_lt c1
    have q2 := hb_lt c2
    clear hW1 c0 c1 c2 hb3
    go_upto_region 2 with (go_at_call 36; (with_reducible refine (HBG.out _ HR1.out).mono ?_); rintro e w2 ⟨rfl, rfl⟩)
    go_wp2_with (first
      | (go_at_call 44; (with_reducible refine (typeAtom_t r E (typP E g) 45 _ _ _ (by first | exact HR1.out | exact HR1.out.alloc _ | exact (HR1.out.alloc _).alloc _ | exact ((HR1.out.alloc _).alloc _).alloc _ | exact HR1.out.upto (fun _ _ _ => rfl) | exact (HR1.out.alloc _).upto (fun _ _ _ => rfl)) HM.out HCF.out (typ1_any r E d g hd40 HIH.out _ _ _ HBr1.out HBd1.out (by omega) (by omega))).mono ?_); rintro e w2 h2; rcases h2.step HS1.out with ⟨v2, a2, ts2, rfl, hV, hR, hg, hS, hx⟩ | ⟨y, rfl, hg, hSE⟩; rotate_left; (have hGE : Rg r w w2 := (by first | exact HG1.out.trans hg | exact (HG1.out.alloc _).trans hg | exact ((HG1.out.alloc _).alloc _).trans hg | exact (((HG1.out.alloc _).alloc _).alloc _).trans hg | exact HG1.out.drew.trans hg | exact (HG1.out.alloc _).drew.trans hg)); rotate_left; (obtain ⟨k2, p2, n2, N2, q2, l2, c2, rfl⟩ := hV.shape; have HV2 := Lib.hid hV); (have HR2 := Lib.hid hR; have HG2 : RowKit.Hid (Rg r w w2) := Lib.hid (by first | exact HG1.out.trans hg | exact (HG1.out.alloc _).trans hg | exact ((HG1.out.alloc _).alloc _).trans hg | exact (((HG1.out.alloc _).alloc _).alloc _).trans hg | exact HG1.out.drew.trans hg | exact (HG1.out.alloc _).drew.trans hg); have HS2 := Lib.hid hS; have HX2 := Lib.hid hx; have HD2 := Lib.hid hg; clear hR hg hS hx hV); (have HBr2 := Lib.hid (HD2.out.keep HBr1.out (by omega))); (have HBd2 := Lib.hid (HD2.out.keep HBd1.out (by omega))); (have HBx2 := Lib.hid (HD2.out.keep HBx1.out (by omega))); have u2a := hb_at HBr2.out 0 rfl; have u2b := hb_at HBd2.out 0 rfl; have u2c := hb_lt HBr2.out; have u2d := hb_lt HBd2.out; have u2e := hb_lt HBx2.out; obtain ⟨x20, x21, x22, x23, x24, y20, y21, y22, y23, y24⟩ := box5 HBx2.out)
      | (go_at_call 46; (with_reducible refine (skipSign_any r E sArrow ts2 _ (by first | exact HR2.out | exact HR2.out.alloc _ | exact (HR2.out.alloc _).alloc _ | exact ((HR2.out.alloc _).alloc _).alloc _ | exact HR2.out.upto (fun _ _ _ => rfl) | exact (HR2.out.alloc _).upto (fun _ _ _ => rfl))).mono ?_); rintro e w3 ⟨rfl, hg, hr⟩; have HD3 := Lib.hid hg; have HG3 : RowKit.Hid (Rg r w w3) := Lib.hid (by first | exact HG2.out.trans hg | exact (HG2.out.alloc _).trans hg | exact ((HG2.out.alloc _).alloc _).trans hg | exact (((HG2.out.alloc _).alloc _).alloc _).trans hg | exact HG2.out.drew.trans hg | exact (HG2.out.alloc _).drew.trans hg); have HBt3 := Lib.hid (HD3.out.keep (hb_new _ _) (by omega)); have hS2 := HS2.out; (have HBr3 := Lib.hid (HD3.out.keep (hb_alloc HBr2.out _) (by omega))); (have HBd3 := Lib.hid (HD3.out.keep (hb_alloc HBd2.out _) (by omega))); (have HBx3 := Lib.hid (HD3.out.keep (hb_alloc HBx2.out _) (by omega))); have u3a := hb_at HBr3.out 0 rfl; have u3b := hb_at HBd3.out 0 rfl; have u3c := hb_lt HBr3.out; have u3d := hb_lt HBd3.out; have u3e := hb_lt HBx3.out; obtain ⟨x30, x31, x32, x33, x34, y30, y31, y32, y33, y34⟩ := box5 HBx3.out; obtain ⟨s0, s1, s2, s3, s4, _⟩ := box5 HBt3.out; (cases hB : isB 8 sArrow ts2 <;> (rw [hB] at hS2 hr; first | rw [if_pos rfl] at hS2 hr | rw [if_neg (by decide)] at hS2 hr) <;> (have HS3 := Lib.hid hS2; have HR3 := Lib.hid hr; clear hS2 hr hB hg))))
    all_goals first | exact ⟨rfl, hGE, rfl⟩ | exact ⟨rfl, hGE, by rw [hSE]⟩ | skip
    · exact fin5 (w0 := w) rfl rfl rfl HBx3.out (by omega) HG3.out hrl HR3.out HS3.out (w.heap.size + 3) (by omega) (by omega) (by
        obtain ⟨D, h⟩ := HV2.out
        exact ⟨D, h.move fun b hb hl => by
          unfold New at hb
          exact ⟨by omega, by rw [HD3.out.same (by simp; omega) (by omega), Below.heap_alloc _ _ _ hl]⟩⟩)
    · go_region_with (go_at_call 25; (with_reducible refine (HIN.out _ _ (by first | exact HR3.out | exact HR3.out.alloc _ | exact (HR3.out.alloc _).alloc _ | exact ((HR3.out.alloc _).alloc _).alloc _ | exact HR3.out.upto (fun _ _ _ => rfl) | exact (HR3.out.alloc _).upto (fun _ _ _ => rfl))).mono ?_); rintro e w4 h4; rcases h4.step HS3.out with ⟨v4, a4, ts4, rfl, hV, hR, hg, hS, hx⟩ | ⟨y, rfl, hg, hSE⟩; rotate_left; (have hGE : Rg r w w4 := (by first | exact HG3.out.trans hg | exact (HG3.out.alloc _).trans hg | exact ((HG3.out.alloc _).alloc _).trans hg | exact (((HG3.out.alloc _).alloc _).alloc _).trans hg | exact HG3.out.drew.trans hg | exact (HG3.out.alloc _).drew.trans hg); subst hSE; exact ⟨rfl, hGE, rfl⟩); (obtain ⟨k4, p4, n4, N4, q4, l4, c4, rfl⟩ := hV.shape; have HV4 := Lib.hid hV); (have HR4 := Lib.hid hR; have HG4 : RowKit.Hid (Rg r w w4) := Lib.hid (by first | exact HG3.out.trans hg | exact (HG3.out.alloc _).trans hg | exact ((HG3.out.alloc _).alloc _).trans hg | exact (((HG3.out.alloc _).alloc _).alloc _).trans hg | exact HG3.out.drew.trans hg | exact (HG3.out.alloc _).drew.trans hg); have HS4 := Lib.hid hS; have HX4 := Lib.hid hx; have HD4 := Lib.hid hg; clear hR hg hS hx hV); (have HBr4 := Lib.hid (HD4.out.keep HBr3.out (by omega))); (have HBd4 := Lib.hid (HD4.out.keep HBd3.out (by omega))); (have HBx4 := Lib.hid (HD4.out.keep HBx3.out (by omega))); have u4a := hb_at HBr4.out 0 rfl; have u4b := hb_at HBd4.out 0 rfl; have u4c := hb_lt HBr4.out; have u4d := hb_lt HBd4.out; have u4e := hb_lt HBx4.out; obtain ⟨x40, x41, x42, x43, x44, y40, y41, y42, y43, y44⟩ := box5 HBx4.out; have HBt4 := Lib.hid (HD4.out.keep HBt3.out (by omega)); obtain ⟨t0, t1, t2, t3, t4, _⟩ := box5 HBt4.out; have qt4 := hb_lt HBt4.out)
      all_goals
        go_wp2
        have hz4 := HD4.out.size
        refine fin_t (w0 := w) (Wf := (set5w w4 (w.heap.size + 1 + 1) 3 ⟨#[]⟩ ⟨#[]⟩ 0 (.slice (some ⟨w4.heap.size, 0, none⟩) 2 2)).alloc (.cells #[.int .i64 k2, .string p2, .string n2, .int .i64 N2, .slice q2 l2 c2, .int .i64 k4, .string p4, .string n4, .int .i64 N4, .slice q4 l4 c4] 39)) rfl rfl rfl (hb_alloc (set5w_box HBx4.out _ _ _ _ _) _) ((HG4.out.set5w (by omega) _ _ _ _ _).alloc _) ((HR4.out.set5w (by omega) _ _ _ _ _).alloc _) HS4.out ?_
        refine kids_of (SlG.two (show w.heap.size ≤ w4.heap.size by omega) (set5a_new _ _ _ _ _ _ _ _) ?_ ?_) (by simp) (by decide) (by decide)
        · obtain ⟨D, h⟩ := HV2.out
          exact ⟨D, h.move fun b hb hl => by
            unfold New at hb
            have e3 : w3.heap[b]? = w2.heap[b]? := by rw [HD3.out.same (by simp; omega) (by omega), Below.heap_alloc _ _ _ hl]
            have z3 := HD3.out.size
            rw [World.size_alloc] at z3
            exact ⟨by omega, by rw [set5a_other (by omega) (by omega), HD4.out.same (by show b < w3.heap.size; omega) (by omega)]; exact e3⟩⟩
        · obtain ⟨D, h⟩ := HV4.out
          exact ⟨D, h.move fun b hb hl => by
            unfold New at hb
            have hb2 : w3.heap.size ≤ b := hb
            exact ⟨by omega, set5a_other (by omega) hl⟩⟩
end Go.Proofs.YtlbnaddgdgbckaaGreatDoor
