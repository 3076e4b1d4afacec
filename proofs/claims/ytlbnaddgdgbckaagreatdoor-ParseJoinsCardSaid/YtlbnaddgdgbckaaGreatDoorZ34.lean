/- Texts in a row: Qf Qg. -/
import Derived.Test.YtlbnaddgdgbckaaGreatDoorZ33
import Derived.Test.YtlbnaddgdgbckaaGreatDoorZ29
/- A module is read. -/
namespace Go.Proofs.YtlbnaddgdgbckaaGreatDoor
open Go.RowKit
set_option linter.unusedSimpArgs false
set_option linter.unusedVariables false
/-- Items, each with its end. -/
noncomputable def modF (E : Nat) : Nat → Mod → Ts → Res Mod
  | 0, _, ts => die E ts 10
  | f + 1, m, ts => if ts.length = 0 then .ok (m, ts) else bnd (itemP E m ts) fun m ts => bnd (keyP E 8 sSemi ts) fun _ ts => modF E f m ts
def mod0 : Mod := ⟨[], [], [], [], []⟩
noncomputable def modP (E : Nat) (ts : Ts) : Res Mod := modF E (ts.length + 1) mod0 ts
theorem conIP_m {E n : Nat} {ts : Ts} (h : ts.length ≤ n) : MR n (conIP E ts) := MR.of (conIP_mono E) h
theorem paramsP_m {E n : Nat} {ts : Ts} (h : ts.length ≤ n) : MR n (paramsP E ts) := heldP_m (takeP_mono E 3) h
theorem impP_m {E n : Nat} {ts : Ts} (h : ts.length ≤ n) : MR n (impP E ts) :=
  MR.bnd (takeP_m h) fun a ts h => MR.bnd (keyP_m h) fun _ ts h => MR.ite (MR.bnd (takeP_m h) fun p ts h => MR.bnd (keyP_m h) fun _ ts h => MR.bnd (takeP_m h) fun v ts h => MR.ok h) MR.die
theorem tydP_m {E n : Nat} {ts : Ts} (h : ts.length ≤ n) : MR n (tydP E ts) :=
  MR.bnd (takeP_m h) fun a ts h => MR.bnd (paramsP_m h) fun p ts h => MR.bnd (keyP_m h) fun _ ts h => MR.bnd (sevP_m (conIP_mono E) h) fun c ts h => MR.ok h
theorem aliP_m {E n : Nat} {ts : Ts} (h : ts.length ≤ n) : MR n (aliP E ts) :=
  MR.bnd (takeP_m h) fun a ts h => MR.bnd (paramsP_m h) fun p ts h => MR.bnd (keyP_m h) fun _ ts h => MR.bnd (MR.of (typP_mono E 40) h) fun c ts h => MR.ok h
theorem letIP_m {E n : Nat} {ts : Ts} (h : ts.length ≤ n) : MR n (letIP E ts) :=
  MR.bnd (takeP_m h) fun a ts h => MR.bnd (annP_m (typP_mono E 40) h) fun p ts h => MR.bnd (keyP_m h) fun _ ts h => MR.bnd (MR.of (exprP_mono E 40) h) fun c ts h => MR.ok h
theorem expP_m {E n : Nat} {ts : Ts} (h : ts.length ≤ n) : MR n (expP E ts) :=
  MR.ite (MR.bnd (takeP_m (tail_le ts h)) fun a ts h => MR.ok h) (MR.bnd (takeP_m h) fun a ts h => MR.bnd (annP_m (typP_mono E 40) h) fun p ts h => MR.ok h)
theorem itemP_m {E n : Nat} {m : Mod} {ts : Ts} (h : ts.length ≤ n) : MR n (itemP E m ts) :=
  MR.ite (MR.bnd (impP_m (tail_le ts h)) fun _ ts h => MR.ok h) (MR.ite (MR.bnd (tydP_m (tail_le ts h)) fun _ ts h => MR.ok h) (MR.ite (MR.bnd (aliP_m (tail_le ts h)) fun _ ts h => MR.ok h)
    (MR.ite (MR.bnd (letIP_m (tail_le ts h)) fun _ ts h => MR.ok h) (MR.ite (MR.bnd (expP_m (tail_le ts h)) fun _ ts h => MR.ok h) MR.die))))
/-- What holds of each answer. -/
def AR {α : Type} (p : α → Prop) (x : Res α) : Prop := ∀ a ts', x = .ok (a, ts') → p a
theorem AR.bnd {α β : Type} {p : β → Prop} {x : Res α} {f : α → Ts → Res β} (hf : ∀ a ts, AR p (f a ts)) : AR p (bnd x f) := by
  intro b ts' h
  cases x with
  | error e => cases h
  | ok y => exact hf y.1 y.2 b ts' h
theorem AR.ok {α : Type} {p : α → Prop} {a : α} {ts : Ts} (h : p a) : AR p (.ok (a, ts) : Res α) := by
  intro b ts' e
  cases e
  exact h
theorem AR.ite {α : Type} {p : α → Prop} {c : Prop} [Decidable c] {x y : Res α} (hx : AR p x) (hy : AR p y) : AR p (if c then x else y) := by
  by_cases h : c
  · rw [if_pos h]; exact hx
  · rw [if_neg h]; exact hy
theorem AR.die {α : Type} {p : α → Prop} {E e : Nat} {ts : Ts} : AR p (die E ts e : Res α) := by
  intro b ts' h
  cases h
theorem Few.one {n : Nat} {m : Mod} (h : Few n m) : Few (n + 1) m := by
  obtain ⟨h0, h1, h2, h3, h4⟩ := h
  exact ⟨by omega, by omega, by omega, by omega, by omega⟩
theorem Few.le {n k : Nat} {m : Mod} (h : Few n m) (hk : n ≤ k) : Few k m := by
  obtain ⟨h0, h1, h2, h3, h4⟩ := h
  exact ⟨by omega, by omega, by omega, by omega, by omega⟩
theorem itemP_few {E n : Nat} {m : Mod} {ts : Ts} (h : Few n m) : AR (Few (n + 1)) (itemP E m ts) := by
  obtain ⟨h0, h1, h2, h3, h4⟩ := h
  refine AR.ite (AR.bnd fun _ ts => AR.ok ?_) (AR.ite (AR.bnd fun _ ts => AR.ok ?_) (AR.ite (AR.bnd fun _ ts => AR.ok ?_) (AR.ite (AR.bnd fun _ ts => AR.ok ?_) (AR.ite (AR.bnd fun _ ts => AR.ok ?_) AR.die)))) <;>
    exact ⟨by simp; omega, by simp; omega, by simp; omega, by simp; omega, by simp; omega⟩
/-- A module as a value. -/
def ModV (w w' : World) (v : Value) (m : Mod) : Prop := ∃ q0 k0 q1 k1 q2 k2 q3 k3 q4 k4, v = .agg #[.slice q0 m.im.length k0, .slice q1 m.ty.length k1, .slice q2 m.al.length k2, .slice q3 m.le.length k3, .slice q4 m.ex.length k4] ∧
  SlG impK (New w) w' (.slice q0 m.im.length k0) m.im ∧ SlG tydK (New w) w' (.slice q1 m.ty.length k1) m.ty ∧ SlG aliK (New w) w' (.slice q2 m.al.length k2) m.al ∧ SlG letIK (New w) w' (.slice q3 m.le.length k3) m.le ∧ SlG expK (New w) w' (.slice q4 m.ex.length k4) m.ex ∧ Few 7000 m
theorem ModV.move {w w1 w2 : World} {v : Value} {m : Mod} (h : ModV w w1 v m) (hw : ∀ b, w.heap.size ≤ b → b < w1.heap.size → w2.heap[b]? = w1.heap[b]?) : ModV w w2 v m := by
  obtain ⟨q0, k0, q1, k1, q2, k2, q3, k3, q4, k4, h0, h1, h2, h3, h4, h5, h6⟩ := h
  have hm : ∀ b, New w b → b < w1.heap.size → New w b ∧ w2.heap[b]? = w1.heap[b]? := fun b hb hl => ⟨hb, hw b hb hl⟩
  exact ⟨q0, k0, q1, k1, q2, k2, q3, k3, q4, k4, h0, h1.move hm, h2.move hm, h3.move hm, h4.move hm, h5.move hm, h6⟩
theorem ModV.up {w w1 w2 : World} {v : Value} {m : Mod} (h : ModV w1 w2 v m) (hz : w.heap.size ≤ w1.heap.size) : ModV w w2 v m := by
  obtain ⟨q0, k0, q1, k1, q2, k2, q3, k3, q4, k4, h0, h1, h2, h3, h4, h5, h6⟩ := h
  have hm : ∀ b, New w1 b → b < w2.heap.size → New w b ∧ w2.heap[b]? = w2.heap[b]? := fun b hb hl => ⟨Nat.le_trans hz hb, rfl⟩
  exact ⟨q0, k0, q1, k1, q2, k2, q3, k3, q4, k4, h0, h1.move hm, h2.move hm, h3.move hm, h4.move hm, h5.move hm, h6⟩
theorem ModR.val {base : Nat} {w w' : World} {v0 v1 v2 v3 v4 : Value} {m : Mod} (h : ModR base w' v0 v1 v2 v3 v4 m) (hb : w.heap.size ≤ base) (hf : Few 7000 m) :
    ∃ q0 k0 q1 k1 q2 k2 q3 k3 q4 k4, v0 = .slice q0 m.im.length k0 ∧ v1 = .slice q1 m.ty.length k1 ∧ v2 = .slice q2 m.al.length k2 ∧ v3 = .slice q3 m.le.length k3 ∧ v4 = .slice q4 m.ex.length k4 ∧
      ModV w w' (.agg #[.slice q0 m.im.length k0, .slice q1 m.ty.length k1, .slice q2 m.al.length k2, .slice q3 m.le.length k3, .slice q4 m.ex.length k4]) m := by
  obtain ⟨S, h1, h2, r0, r1, r2, r3, r4⟩ := h
  obtain ⟨q0, k0, e0⟩ := r0.shape
  obtain ⟨q1, k1, e1⟩ := r1.shape
  obtain ⟨q2, k2, e2⟩ := r2.shape
  obtain ⟨q3, k3, e3⟩ := r3.shape
  obtain ⟨q4, k4, e4⟩ := r4.shape
  subst e0 e1 e2 e3 e4
  have hS : ∀ i b, S i b → w.heap.size ≤ b := fun i b hb2 => Nat.le_trans hb (h1 i b hb2).1
  exact ⟨q0, k0, q1, k1, q2, k2, q3, k3, q4, k4, rfl, rfl, rfl, rfl, rfl, q0, k0, q1, k1, q2, k2, q3, k3, q4, k4, rfl, (r0.toG (hS 0)).all fun _ _ _ => rfl, (r1.toG (hS 1)).all fun _ _ _ => rfl, (r2.toG (hS 2)).all fun _ _ _ => rfl, (r3.toG (hS 3)).all fun _ _ _ => rfl, (r4.toG (hS 4)).all fun _ _ _ => rfl, hf⟩
theorem ModAt.move {base mb : Nat} {w w' : World} {m : Mod} (h : ModAt base mb w m) {r : Nat} (hg : Rg r w w') (hr : r < base) (hrm : mb ≠ r) : ModAt base mb w' m := by
  obtain ⟨v0, v1, v2, v3, v4, hb, hm⟩ := h
  exact ⟨v0, v1, v2, v3, v4, hg.keep hb hrm, hm.move (fun b hb hl => hg.same hl (by omega)) hg.size⟩
theorem Frm.rg {base r mb : Nat} {w W w' : World} (h : Frm base r mb W w') (hW : Below w.heap.size w W) (hb : w.heap.size ≤ base) (hm : w.heap.size ≤ mb) : Rg r w w' := by
  obtain ⟨h1, h2, h3, h4, h5⟩ := h
  exact ⟨h1.trans hW.os, h2.trans hW.tape, h3.trans hW.output, Nat.le_trans hW.size h4, fun i hi hne => (h5 i (by omega) (fun e => hne (by rw [e])) (by omega)).trans (hW.block i hi)⟩
theorem res_mod {tmps : Array Value} {g : Nat} (h : tmps[2]?.getD undef = bp g) {w : World} {c0 c1 c2 c3 c4 : Value} {t : TypeId} {f : Nat × Nat} (hb : w.heap[g]? = some (.cells #[c0, c1, c2, c3, c4] t f)) :
    (results Tryz.f18 tmps).run Tryz.prog w = .ok (.agg #[c0, c1, c2, c3, c4]) w := by
  have x0 := hb_at hb 0 rfl
  have x1 := hb_at hb 1 rfl
  have x2 := hb_at hb 2 rfl
  have x3 := hb_at hb 3 rfl
  have x4 := hb_at hb 4 rfl
  simp [results, Tryz.results18, h, go_sem, Tryz.isAgg29, x0, x1, x2, x3, x4]
set_option maxRecDepth 100000 in
set_option maxHeartbeats 4000000 in
theorem module_any (r E : Nat) (ts : Ts) (w : World) (hR : Rd r E w ts) : Calls Tryz.prog 18 #[rp r] w (Got r E ModV w (modP E ts)) := by
  have HR0 := Lib.hid hR
  have hrl := hR.lt
  have hfew := hR.few
  obtain ⟨S, hS⟩ : ∃ S, S = modP E ts := ⟨_, rfl⟩
  have HS0 := Lib.hid hS
  rw [← hS]
  unfold modP at HS0
  clear hR hS
  obtain ⟨c0, c1, hz2, hb2⟩ := boxes2 w (.cells #[.slice none 0 0, .slice none 0 0, .slice none 0 0, .slice none 0 0, .slice none 0 0] 29) (.cells #[.slice none 0 0, .slice none 0 0, .slice none 0 0, .slice none 0 0, .slice none 0 0] 29)
  go_enter Tryz.func18, Tryz.ntmps18
  go_upto_region 2 with (fail)
  generalize hW1 : (w.alloc (.cells #[.slice none 0 0, .slice none 0 0, .slice none 0 0, .slice none 0 0, .slice none 0 0] 29)).alloc (.cells #[.slice none 0 0, .slice none 0 0, .slice none 0 0, .slice none 0 0, .slice none 0 0] 29) = W1 at *
  have HBv1 := Lib.hid c0
  have HBm1 := Lib.hid c1
  have HB1 := Lib.hid hb2
  have HR1 : RowKit.Hid (Rd r E W1 ts) := Lib.hid (HR0.out.below hb2)
  clear hW1 c0 c1 hb2
  go_loopw [] (fun wr => ∃ (f : Nat) (m : Mod) (ts' : Ts) (n : Nat), S = modF E f m ts' ∧ ts'.length < f ∧ Few n m ∧ n + ts'.length ≤ 6000 ∧ Frm (w.heap.size + 2) r (w.heap.size + 1) W1 wr ∧ Rd r E wr ts' ∧ ModAt (w.heap.size + 2) (w.heap.size + 1) wr m) (fun wr => left r wr)
  case atStart =>
    exact ⟨ts.length + 1, mod0, ts, 0, HS0.out, Nat.lt_succ_self _, ⟨Nat.le_refl _, Nat.le_refl _, Nat.le_refl _, Nat.le_refl _, Nat.le_refl _⟩, by omega, ⟨rfl, rfl, rfl, Nat.le_refl _, fun _ _ _ _ => rfl⟩, HR1.out, _, _, _, _, _, HBm1.out, ModR.nil _ _⟩
  case round =>
    obtain ⟨f, m, ts', n, hT, hlf, hfm, hnl, hF, hRd, hM⟩ := hrel
    obtain ⟨f, rfl⟩ : ∃ k, f = k + 1 := ⟨f - 1, by omega⟩
    have hleft := hRd.left
    have hG := hF.rg HB1.out (by omega) (by omega)
    have hBv : wr.heap[w.heap.size]? = some (.cells #[.slice none 0 0, .slice none 0 0, .slice none 0 0, .slice none 0 0, .slice none 0 0] 29 (0, 0)) := (hF.2.2.2.2 _ (by omega) (by omega) (by omega)).trans HBv1.out
    obtain ⟨_, tv, hr0, tq, tc, htv, _⟩ := id hRd
    subst htv
    have x0 := hb_at hr0 0 rfl
    have zr := hb_lt hr0
    have HT := Lib.hid hT
    have HF := Lib.hid hF
    have HRr := Lib.hid hRd
    have HM := Lib.hid hM
    have HG := Lib.hid hG
    have HFM := Lib.hid hfm
    have HBv := Lib.hid hBv
    have hzr : w.heap.size + 2 ≤ wr.heap.size := by have := hF.2.2.2.1; omega
    clear hT hF hRd hM hG hr0 hfm hBv
    by_cases hl : ts'.length = 0
    · have hd : decide ((0 : Int) < (ts'.length : Int)) = false := decide_eq_false (by omega)
      have hS : S = .ok (m, ts') := HT.out.trans (if_pos hl)
      have HS := Lib.hid hS
      obtain ⟨v0, v1, v2, v3, v4, hb, hm⟩ := HM.out
      obtain ⟨q0, k0, q1, k1, q2, k2, q3, k3, q4, k4, e0, e1, e2, e3, e4, hV⟩ := hm.val (w := W1) (by omega) (HFM.out.le (by omega))
      subst e0 e1 e2 e3 e4
      have HV := Lib.hid hV
      obtain ⟨b0, b1, b2, b3, b4, d0, d1, d2, d3, d4⟩ := box5 hb
      obtain ⟨y0, y1, y2, y3, y4, g0, g1, g2, g3, g4⟩ := box5 HBv.out
      have zb := hb_lt hb
      have zv := hb_lt HBv.out
      clear hS hV hm hb
      go_wp2
      have hG2 := setL_rg (Nat.le_refl _) [.slice q0 m.im.length k0, .slice q1 m.ty.length k1, .slice q2 m.al.length k2, .slice q3 m.le.length k3, .slice q4 m.ex.length k4] 0 _ HG.out
      have hR2 := setL_rd hrl [.slice q0 m.im.length k0, .slice q1 m.ty.length k1, .slice q2 m.al.length k2, .slice q3 m.le.length k3, .slice q4 m.ex.length k4] 0 _ HRr.out
      have hB2 := setL5 HBv.out (.slice q0 m.im.length k0) (.slice q1 m.ty.length k1) (.slice q2 m.al.length k2) (.slice q3 m.le.length k3) (.slice q4 m.ex.length k4)
      have hV2 : ModV w (setL wr w.heap.size 0 [.slice q0 m.im.length k0, .slice q1 m.ty.length k1, .slice q2 m.al.length k2, .slice q3 m.le.length k3, .slice q4 m.ex.length k4]) _ m := (HV.out.move fun b hb _ => setL_other (by omega) _ _ _).up (by omega)
      have hS := HS.out
      subst hS
      exact bodyPost_ret (v := .agg #[.slice q0 m.im.length k0, .slice q1 m.ty.length k1, .slice q2 m.al.length k2, .slice q3 m.le.length k3, .slice q4 m.ex.length k4]) (res_mod rfl hB2) rfl ⟨hG2, ⟨_, rfl, hV2⟩, hR2⟩
    · have hd : decide ((0 : Int) < (ts'.length : Int)) = true := decide_eq_true (by omega)
      have hT2 : S = bnd (itemP E m ts') fun m ts => bnd (keyP E 8 sSemi ts) fun _ ts => modF E f m ts := HT.out.trans (if_neg hl)
      have HT2 := Lib.hid hT2
      have HI := Lib.hid (item_any r E (w.heap.size + 1) (w.heap.size + 2) ts' m wr HRr.out (by omega) (by omega) hzr HM.out (HFM.out.le (by omega)))
      clear hT2 HT
      cases hI : itemP E m ts' with
      | error y =>
        rw [hI] at HI
        have hS : S = .error y := by have h := HT2.out; rw [hI] at h; exact h
        have HS := Lib.hid hS
        clear hS
        go_wp2_with (go_at_call 33; (with_reducible refine HI.out.mono ?_); rintro e w2 ⟨hf, rfl⟩; have HF2 := Lib.hid (HF.out.trans hf); clear hf)
        exact ⟨rfl, HF2.out.rg HB1.out (by omega) (by omega), by rw [HS.out]⟩
      | ok x =>
        obtain ⟨m2, ts2⟩ := x
        rw [hI] at HI
        have hS : S = bnd (keyP E 8 sSemi ts2) fun _ ts => modF E f m2 ts := by have h := HT2.out; rw [hI] at h; exact h
        have HS2 := Lib.hid hS
        have hlen : ts2.length ≤ ts'.length := itemP_m (Nat.le_refl _) _ _ hI
        have HF2m := Lib.hid (itemP_few HFM.out _ _ hI)
        clear hS hI HT2
        go_wp2_with (first
            | (go_at_call 33; (with_reducible refine HI.out.mono ?_); rintro e w2 ⟨hf, rfl, hr, hm⟩; have HF2 := Lib.hid (HF.out.trans hf); have HR2 := Lib.hid hr; have HM2 := Lib.hid hm; have HG2 : RowKit.Hid (Rg r w w2) := Lib.hid (HF2.out.rg HB1.out (by omega) (by omega)); (have hz2 : wr.heap.size ≤ w2.heap.size := hf.2.2.2.1); clear hf hr hm)
            | (go_at_call 34; (with_reducible refine (sign_any r E sSemi _ _ (by first | exact HR2.out | exact HR2.out.alloc _ | exact (HR2.out.alloc _).alloc _ | exact ((HR2.out.alloc _).alloc _).alloc _ | exact HR2.out.upto (fun _ _ _ => rfl) | exact (HR2.out.alloc _).upto (fun _ _ _ => rfl))).mono ?_); rintro e w3 h3; rcases h3.step HS2.out with ⟨v3, a3, ts3, rfl, hV, hR, hg, hS, hx⟩ | ⟨y, rfl, hg, hSE⟩; rotate_left; (have hGE : Rg r w w3 := (by first | exact HG2.out.trans hg | exact (HG2.out.alloc _).trans hg | exact ((HG2.out.alloc _).alloc _).trans hg | exact (((HG2.out.alloc _).alloc _).alloc _).trans hg | exact HG2.out.drew.trans hg | exact (HG2.out.alloc _).drew.trans hg)); rotate_left; (obtain rfl := hV); (have HR3 := Lib.hid hR; have HG3 : RowKit.Hid (Rg r w w3) := Lib.hid (by first | exact HG2.out.trans hg | exact (HG2.out.alloc _).trans hg | exact ((HG2.out.alloc _).alloc _).trans hg | exact (((HG2.out.alloc _).alloc _).alloc _).trans hg | exact HG2.out.drew.trans hg | exact (HG2.out.alloc _).drew.trans hg); have HS3 := Lib.hid hS; have HX3 := Lib.hid hx; have HD3 := Lib.hid hg; clear hR hg hS hx)))
        all_goals first | exact ⟨rfl, hGE, rfl⟩ | exact ⟨rfl, hGE, by rw [hSE]⟩ | skip
        have hk := HX3.out
        unfold keyP at hk
        cases hB : isB 8 sSemi ts2 with
        | false => rw [hB, if_neg (by decide)] at hk; cases hk
        | true =>
          have hpos := isB_pos (by decide) hB
          rw [hB, if_pos rfl] at hk
          obtain rfl : ts2.tail = ts3 := by cases hk; rfl
          have hl3 := HR3.out.left
          refine ⟨⟨f, m2, ts2.tail, n + 1, HS3.out, by omega, HF2m.out, by omega, HF2.out.trans (Frm.of_rg HD3.out (by omega)), HR3.out, HM2.out.move HD3.out (by omega) (by omega)⟩, ?_⟩
          omega
end Go.Proofs.YtlbnaddgdgbckaaGreatDoor
/- A source read whole: a module. -/
namespace Go.Proofs.YtlbnaddgdgbckaaGreatDoor
open Go.RowKit
set_option linter.unusedSimpArgs false
set_option linter.unusedVariables false
abbrev zM : Value := .agg #[.slice none 0 0, .slice none 0 0, .slice none 0 0, .slice none 0 0, .slice none 0 0]
def setM (W : World) (g : Nat) (a b c d e : Value) : World :=
  (((((W.setCell ⟨g, 0, none⟩ a).setCell ⟨g, 1, none⟩ b).setCell ⟨g, 2, none⟩ c).setCell ⟨g, 3, none⟩ d).setCell ⟨g, 4, none⟩ e)
theorem setM_other {W : World} {g : Nat} {a b c d e : Value} {k : Nat} (hne : k ≠ g) : (setM W g a b c d e).heap[k]? = W.heap[k]? := setL_other hne [a, b, c, d, e] 0 W
theorem setM_box {W : World} {g : Nat} {c0 c1 c2 c3 c4 : Value} {T : TypeId} {f : Nat × Nat} (h : W.heap[g]? = some (.cells #[c0, c1, c2, c3, c4] T f)) (a b c d e : Value) : (setM W g a b c d e).heap[g]? = some (.cells #[a, b, c, d, e] T f) := setL5 h a b c d e
theorem ModV.mv {r : Nat} {w w1 w2 : World} {v : Value} {m : Mod} (h : ModV w w1 v m) (hr : r < w.heap.size) (hg : Rg r w1 w2) : ModV w w2 v m := ModV.move h fun b hb hl => hg.same hl (by omega)
theorem ModV.shape {w w1 : World} {v : Value} {m : Mod} (h : ModV w w1 v m) : ∃ q0 l0 c0 q1 l1 c1 q2 l2 c2 q3 l3 c3 q4 l4 c4, v = .agg #[.slice q0 l0 c0, .slice q1 l1 c1, .slice q2 l2 c2, .slice q3 l3 c3, .slice q4 l4 c4] := by
  obtain ⟨q0, k0, q1, k1, q2, k2, q3, k3, q4, k4, h0, _⟩ := h
  exact ⟨q0, _, k0, q1, _, k1, q2, _, k2, q3, _, k3, q4, _, k4, h0⟩
set_option maxRecDepth 100000 in
theorem catchM_idle (p q r : Nat) (w : World) : CallsD Tryz.prog 31 #[bp p, bp q, bp r] .returning w fun e u' w' => e = .returned (.tuple #[]) ∧ u' = .returning ∧ w' = w := by
  refine callsD_of_wpS Tryz.func31 rfl fun c₀ cs hu => ?_
  apply wpS_seq
  apply wpS_region
  simp [wpOpsS, go_sem, recoverD, hu, Tryz.ntmps31, Exit.thenS]
  have e : (#[bp p, bp q, bp r] ++ ((Array.replicate 20 undef).setIfInBounds 4 Value.nilIface).setIfInBounds 0 Value.nilIface : Array Value) = #[bp p, bp q, bp r, .nilIface, undef, undef, undef, .nilIface, undef, undef, undef, undef, undef, undef, undef, undef, undef, undef, undef, undef, undef, undef, undef] := by kernel_rfl
  rw [e]
  refine wpS_of_wp ?_
  go_wp2
  exact ⟨rfl, .returning, by cases c₀; cases hu; rfl, .tuple #[], by simp [results, Tryz.results31, go_sem], rfl, rfl, rfl⟩
/-- The world behind the deferred call. -/
def catMW (w : World) (p q r x y : Nat) : World :=
  ((((setM w p (.slice none 0 0) (.slice none 0 0) (.slice none 0 0) (.slice none 0 0) (.slice none 0 0)).setCell ⟨q, 0, none⟩ (.int .i64 x)).setCell ⟨r, 0, none⟩ (.int .i64 y)).alloc (.cells #[.int .i64 x, .int .i64 y] 88)).alloc (.cells #[.slice none 0 0, .slice none 0 0, .slice none 0 0, .slice none 0 0, .slice none 0 0] 29)
def CatM (w : World) (p q r x y : Nat) (w' : World) : Prop :=
  w'.heap[p]? = some (.cells #[.slice none 0 0, .slice none 0 0, .slice none 0 0, .slice none 0 0, .slice none 0 0] 29 (0, 0)) ∧ w'.heap[q]? = some (.cells #[.int .i64 x] 3 (0, 0)) ∧ w'.heap[r]? = some (.cells #[.int .i64 y] 30 (0, 0)) ∧
      w'.os = w.os ∧ w'.tape = w.tape ∧ w'.output = w.output ∧ w.heap.size ≤ w'.heap.size ∧ ∀ k, k < w.heap.size → k ≠ p → k ≠ q → k ≠ r → w'.heap[k]? = w.heap[k]?
theorem CatM.drew {w V : World} {p q r x y : Nat} (h : CatM w p q r x y V) : CatM w p q r x y V.drew := h
theorem catM {p q r x y : Nat} {c0 c1 c2 c3 c4 d0 f0 : Value} {w : World} (hp : w.heap[p]? = some (.cells #[c0, c1, c2, c3, c4] 29 (0, 0))) (hq : w.heap[q]? = some (.cells #[d0] 3 (0, 0))) (hr : w.heap[r]? = some (.cells #[f0] 30 (0, 0))) (hpq : p ≠ q) (hpr : p ≠ r) (hqr : q ≠ r)
    (W : World) (hW : W = (catMW w p q r x y).drew) : CatM w p q r x y W := by
  rw [hW]
  clear hW
  apply CatM.drew
  have hP := setM_box hp (.slice none 0 0) (.slice none 0 0) (.slice none 0 0) (.slice none 0 0) (.slice none 0 0)
  have hQ : (setM w p (.slice none 0 0) (.slice none 0 0) (.slice none 0 0) (.slice none 0 0) (.slice none 0 0)).heap[q]? = some (.cells #[d0] 3 (0, 0)) := by rw [setM_other (fun e => hpq e.symm)]; exact hq
  have hR : (setM w p (.slice none 0 0) (.slice none 0 0) (.slice none 0 0) (.slice none 0 0) (.slice none 0 0)).heap[r]? = some (.cells #[f0] 30 (0, 0)) := by rw [setM_other (fun e => hpr e.symm)]; exact hr
  have hsz : ((((setM w p (.slice none 0 0) (.slice none 0 0) (.slice none 0 0) (.slice none 0 0) (.slice none 0 0)).setCell ⟨q, 0, none⟩ (.int .i64 (x : Nat))).setCell ⟨r, 0, none⟩ (.int .i64 (y : Nat)))).heap.size = w.heap.size := by simp [setM, World.setCell]
  unfold catMW
  have o1 : ∀ (V : World) (o : Obj), (V.alloc o).os = V.os ∧ (V.alloc o).tape = V.tape ∧ (V.alloc o).output = V.output := fun _ _ => ⟨rfl, rfl, rfl⟩
  have o2 : ∀ (V : World) (a : Addr) (v : Value), (V.setCell a v).os = V.os ∧ (V.setCell a v).tape = V.tape ∧ (V.setCell a v).output = V.output := fun _ _ _ => ⟨rfl, rfl, rfl⟩
  refine ⟨?_, ?_, ?_, by simp only [setM, o1, o2], by simp only [setM, o1, o2], by simp only [setM, o1, o2], by rw [World.size_alloc, World.size_alloc, hsz]; omega, fun k hk h1 h2 h3 => ?_⟩
  · exact hb_alloc (hb_alloc (hb_set_other (hb_set_other hP (a := ⟨q, 0, none⟩) _ hpq) (a := ⟨r, 0, none⟩) _ hpr) _) _
  · exact hb_alloc (hb_alloc (hb_set_other (hb_set_same hQ 0 _) (a := ⟨r, 0, none⟩) _ hqr) _) _
  · exact hb_alloc (hb_alloc (hb_set_same (hb_set_other hR (a := ⟨q, 0, none⟩) _ (fun e => hqr e.symm)) 0 _) _) _
  · rw [Below.heap_alloc _ _ _ (by rw [World.size_alloc, hsz]; omega), Below.heap_alloc _ _ _ (by rw [hsz]; exact hk), Below.heap_setCell _ _ _ _ h3, Below.heap_setCell _ _ _ _ h2]
    exact setM_other h1
set_option maxRecDepth 100000 in
set_option maxHeartbeats 2000000 in
theorem catchM_panicking (p q r : Nat) (x y : Nat) (older : List PanicEntry) (c0 c1 c2 c3 c4 d0 f0 : Value) (w : World) (hp : w.heap[p]? = some (.cells #[c0, c1, c2, c3, c4] 29 (0, 0))) (hq : w.heap[q]? = some (.cells #[d0] 3 (0, 0))) (hr : w.heap[r]? = some (.cells #[f0] 30 (0, 0))) (hpq : p ≠ q) (hpr : p ≠ r) (hqr : q ≠ r) :
    CallsD Tryz.prog 31 #[bp p, bp q, bp r] (.panicking ({ v := .iface 88 (.agg #[.int .i64 x, .int .i64 y]), recovered := false } :: older)) w fun e u' w' =>
      e = .returned (.tuple #[]) ∧ u' = .panicking ({ v := .iface 88 (.agg #[.int .i64 x, .int .i64 y]), recovered := true } :: older) ∧
      CatM w p q r x y w' := by
  obtain ⟨x0, x1, x2, x3, x4, y0, y1, y2, y3, y4⟩ := box5 hp
  have s0 := hb_at hq 0 rfl
  have s1 := hb_free hq 0
  have t0 := hb_at hr 0 rfl
  have t1 := hb_free hr 0
  have z1 := hb_lt hp
  have z2 := hb_lt hq
  have z3 := hb_lt hr
  refine callsD_of_wpS Tryz.func31 rfl fun c₀ cs hu => ?_
  apply wpS_seq
  apply wpS_region
  simp [wpOpsS, go_sem, recoverD, hu, Tryz.ntmps31, Exit.thenS]
  have e : (#[bp p, bp q, bp r] ++ ((Array.replicate 20 undef).setIfInBounds 4 (Value.iface 88 (.agg #[.int .i64 x, .int .i64 y]))).setIfInBounds 0 (Value.iface 88 (.agg #[.int .i64 x, .int .i64 y])) : Array Value) = #[bp p, bp q, bp r, (Value.iface 88 (.agg #[.int .i64 x, .int .i64 y])), undef, undef, undef, (Value.iface 88 (.agg #[.int .i64 x, .int .i64 y])), undef, undef, undef, undef, undef, undef, undef, undef, undef, undef, undef, undef, undef, undef, undef] := by kernel_rfl
  rw [e]
  clear e
  refine wpS_of_wp ?_
  have ha := assert_fault (.agg #[.int .i64 x, .int .i64 y])
  go_wp2
  go_region_with (fail)
  all_goals
    go_wp2
    exact ⟨rfl, _, rfl, .tuple #[], by simp [results, Tryz.results31, go_sem], rfl, rfl, catM hp hq hr hpq hpr hqr _ rfl⟩
def RdRM (s : ByteArray) (one : Nat → Ts → Res Mod) (w : World) (e : Ending) (w' : World) : Prop := Below w.heap.size w w' ∧ match readM s one with
  | .ok t => ∃ v, e = .returned (.tuple #[v, .int .i64 0, .int .i64 0]) ∧ ModV w w' v t
  | .error y => e = .returned (.tuple #[zM, .int .i64 (y.1 : Nat), .int .i64 (y.2 : Nat)])
def OneM (one : Nat → Ts → Res Mod) (n : Nat) : Prop := ∀ r E ts W, Rd r E W ts → Calls Tryz.prog n #[rp r] W (Got r E ModV W (one E ts))
set_option maxRecDepth 100000 in
theorem res_readM {tmps : Array Value} {p q e : Nat} (h4 : tmps[4]?.getD undef = bp p) (h5 : tmps[5]?.getD undef = bp q) (h6 : tmps[6]?.getD undef = bp e) {W : World} {c0 c1 c2 c3 c4 d f : Value} {t1 t2 t3 : TypeId} {f1 f2 f3 : Nat × Nat}
    (hp : W.heap[p]? = some (.cells #[c0, c1, c2, c3, c4] t1 f1)) (hq : W.heap[q]? = some (.cells #[d] t2 f2)) (he : W.heap[e]? = some (.cells #[f] t3 f3)) : (results Tryz.f17 tmps).run Tryz.prog W = .ok (.tuple #[.agg #[c0, c1, c2, c3, c4], d, f]) W := by
  have x0 := hb_at hp 0 rfl
  have x1 := hb_at hp 1 rfl
  have x2 := hb_at hp 2 rfl
  have x3 := hb_at hp 3 rfl
  have x4 := hb_at hp 4 rfl
  have y0 := hb_at hq 0 rfl
  have z0 := hb_at he 0 rfl
  simp [results, Tryz.results17, h4, h5, h6, go_sem, Tryz.isAgg29, Tryz.isAgg3, Tryz.isAgg30, x0, x1, x2, x3, x4, y0, z0]
/-- The end of a source that is none. -/
theorem finM_err {tmps : Array Value} {p q e : Nat} (h4 : tmps[4]?.getD undef = bp p) (h5 : tmps[5]?.getD undef = bp q) (h6 : tmps[6]?.getD undef = bp e) {s : ByteArray} {one : Nat → Ts → Res Mod} {w W : World} {x y : Nat} {t1 t2 t3 : TypeId} {f1 f2 f3 : Nat × Nat}
    (hp : W.heap[p]? = some (.cells #[.slice none 0 0, .slice none 0 0, .slice none 0 0, .slice none 0 0, .slice none 0 0] t1 f1)) (hq : W.heap[q]? = some (.cells #[.int .i64 (x : Nat)] t2 f2)) (he : W.heap[e]? = some (.cells #[.int .i64 (y : Nat)] t3 f3)) (hB : Below w.heap.size w W) (hM : readM s one = .error (x, y)) :
    Leaves Tryz.prog Tryz.f17 tmps (RdRM s one w) [] .returning W := by
  refine ⟨_, res_readM h4 h5 h6 hp hq he, hB, ?_⟩
  rw [hM]
/-- The end of a source that is a term. -/
theorem finM_term {tmps : Array Value} {p q e : Nat} (h4 : tmps[4]?.getD undef = bp p) (h5 : tmps[5]?.getD undef = bp q) (h6 : tmps[6]?.getD undef = bp e) {s : ByteArray} {one : Nat → Ts → Res Mod} {w W : World} {t : Mod} {k0 k1 k2 k3 k4 : Value} {t1 t2 t3 : TypeId} {f1 f2 f3 : Nat × Nat}
    (hp : W.heap[p]? = some (.cells #[k0, k1, k2, k3, k4] t1 f1)) (hq : W.heap[q]? = some (.cells #[.int .i64 0] t2 f2)) (he : W.heap[e]? = some (.cells #[.int .i64 0] t3 f3)) (hB : Below w.heap.size w W) (hM : readM s one = .ok t) (hV : ModV w W (.agg #[k0, k1, k2, k3, k4]) t) :
    Leaves Tryz.prog Tryz.f17 tmps (RdRM s one w) [] .returning W := by
  refine ⟨_, res_readM h4 h5 h6 hp hq he, hB, ?_⟩
  rw [hM]
  exact ⟨_, rfl, hV⟩
/-- No token lies in a box of noughts. -/
theorem tok_zeroM {W : World} {p o : Nat} {x : Tk × Nat} {t : TypeId} {f : Nat × Nat} (hp : W.heap[p]? = some (.cells #[.slice none 0 0, .slice none 0 0, .slice none 0 0, .slice none 0 0, .slice none 0 0] t f)) (h : TokAt W p o x) : False := by
  obtain ⟨h0, h1, h2, h3⟩ := h
  rw [hb_cell hp] at h0 h1 h2 h3
  match o, h0, h1, h2, h3 with
  | 0, h0, h1, h2, h3 => simp at h0
  | 1, h0, h1, h2, h3 => simp at h0
  | 2, h0, h1, h2, h3 => simp at h0
  | 3, h0, h1, h2, h3 => simp at h0
  | 4, h0, h1, h2, h3 => simp at h0
  | o + 5, h0, h1, h2, h3 => simp at h0
theorem Rd.setMp {r E p : Nat} {W : World} {ts : Ts} (h : Rd r E W ts) {t : TypeId} {f : Nat × Nat} (hp : W.heap[p]? = some (.cells #[.slice none 0 0, .slice none 0 0, .slice none 0 0, .slice none 0 0, .slice none 0 0] t f)) (hpr : p ≠ r) (k0 k1 k2 k3 k4 : Value) : Rd r E (Proofs.YtlbnaddgdgbckaaGreatDoor.setM W p k0 k1 k2 k3 k4) ts := by
  obtain ⟨hE, v, h1, q, c, h2, h3, h4, h5, h6⟩ := h
  refine ⟨hE, v, by rw [Proofs.YtlbnaddgdgbckaaGreatDoor.setM_other (fun e => hpr e.symm)]; exact h1, q, c, h2, h3, h4, h5, fun i x hx => ?_⟩
  obtain ⟨hz, b, o, e, hb, ht⟩ := h6 i x hx
  exact ⟨hz, b, o, e, hb, ht.move (Proofs.YtlbnaddgdgbckaaGreatDoor.setM_other fun e => by subst e; exact tok_zeroM hp ht)⟩
/-- Behind the deferred call nothing old has turned. -/
theorem CatM.below {w w5 w6 : World} {p q e x y : Nat} (h : CatM w5 p q e x y w6) (hb : Below w.heap.size w w5) (hp : w.heap.size ≤ p) (hq : w.heap.size ≤ q) (he : w.heap.size ≤ e) : Below w.heap.size w w6 := by
  have h3 : w6.os = w5.os ∧ w6.tape = w5.tape ∧ w6.output = w5.output ∧ w5.heap.size ≤ w6.heap.size ∧ ∀ k, k < w5.heap.size → k ≠ p → k ≠ q → k ≠ e → w6.heap[k]? = w5.heap[k]? := h.2.2.2
  have hs := hb.size
  refine hb.trans (Below.mk h3.1 h3.2.1 h3.2.2.1 h3.2.2.2.1 fun k hk => ?_)
  exact h3.2.2.2.2 k (by omega) (by omega) (by omega) (by omega)
/-- A source at whose reading a fault is thrown. -/
theorem finM_panic {tmps : Array Value} {p q e : Nat} (h4 : tmps[4]?.getD undef = bp p) (h5 : tmps[5]?.getD undef = bp q) (h6 : tmps[6]?.getD undef = bp e) {s : ByteArray} {one : Nat → Ts → Res Mod} {w W : World} {y : Nat × Nat} {c0 c1 c2 c3 c4 d0 f0 : Value}
    (hp : W.heap[p]? = some (.cells #[c0, c1, c2, c3, c4] 29 (0, 0))) (hq : W.heap[q]? = some (.cells #[d0] 3 (0, 0))) (he : W.heap[e]? = some (.cells #[f0] 30 (0, 0))) (hpq : p ≠ q) (hpe : p ≠ e) (hqe : q ≠ e) (hp1 : w.heap.size ≤ p) (hq1 : w.heap.size ≤ q) (he1 : w.heap.size ≤ e)
    (hB : Below w.heap.size w W) (hM : readM s one = .error y) :
    Leaves Tryz.prog Tryz.f17 tmps (RdRM s one w) [{ target := .fn (.func 31) #[bp p, bp q, bp e], args := #[] }] (.panicking (flt y)) W := by
  refine leaves_cons (f := 31) (args := #[bp p, bp q, bp e]) (by simp) (by simp [go_sem]) ?_
  unfold flt
  refine (catchM_panicking p q e y.1 y.2 [] _ _ _ _ _ _ _ W hp hq he hpq hpe hqe).mono ?_
  rintro e' u' w6 ⟨rfl, rfl, F⟩
  exact finM_err h4 h5 h6 F.1 F.2.1 F.2.2.1 (F.below hB hp1 hq1 he1) hM
set_option maxRecDepth 100000 in
set_option maxHeartbeats 4000000 in
theorem readMod_any (s : ByteArray) (hm : s.size ≤ 4194304) (one : Nat → Ts → Res Mod) (n : Nat) (HC : OneM one n) (hcf : ∀ (r : Nat) (W : World), (callFunc n #[rp r]).run Tryz.prog W = .ok (.enter n #[rp r]) W) (w : World) (hw : EscW w) :
    Calls Tryz.prog 17 #[.string s, .func (.func n) #[] #[]] w (RdRM s one w) := by
  have hpos : 0 < w.heap.size := hw.pos
  have HE := Lib.hid hw
  obtain ⟨l1, a1, r1, hL⟩ : ∃ l a r, lexM s = (l, a, r) := ⟨_, _, _, rfl⟩
  have HL := Lib.hid (fun (W : World) (hW : EscW W) => lex_res s hm W hW hL)
  have HLM := Lib.hid hL
  clear hL
  have HC := Lib.hid HC
  have hmf : ∀ (fn : Fn) (first cap : Array Value) (w : World), (Instr.makeFunc fn first cap).run Tryz.prog w = .ok (.func fn first cap) w := fun _ _ _ _ => rfl
  clear hw
  obtain ⟨c0, c1, c2, hz3, hb3⟩ := boxes3 w (.cells #[.slice none 0 0, .slice none 0 0, .slice none 0 0, .slice none 0 0, .slice none 0 0] 29) (.cells #[.int .i64 0] 3) (.cells #[.int .i64 0] 30)
  have HE1 := Lib.hid (HE.out.below hb3 hpos)
  go_enter_defers Tryz.func17, Tryz.ntmps17
  go_upto_region 1 with (fail)
  generalize hW1 : ((w.alloc (.cells #[.slice none 0 0, .slice none 0 0, .slice none 0 0, .slice none 0 0, .slice none 0 0] 29)).alloc (.cells #[.int .i64 0] 3)).alloc (.cells #[.int .i64 0] 30) = W1 at *
  have HBp1 := Lib.hid c0
  have HBq1 := Lib.hid c1
  have HBe1 := Lib.hid c2
  have HB1 := Lib.hid hb3
  clear hW1 c0 c1 c2 hb3
  go_upto_region 2 with (go_at_call 30; (with_reducible refine (HL.out _ HE1.out).mono ?_); rintro e w2 ⟨tv2, rfl, htk, hb2⟩; have HTK := Lib.hid htk; have HB2 := Lib.hid hb2; have p2 := hb_below HBp1.out hb2 (hb_lt HBp1.out); have q2 := hb_below HBq1.out hb2 (hb_lt HBq1.out); have e2 := hb_below HBe1.out hb2 (hb_lt HBe1.out); have HBp2 := Lib.hid p2; have HBq2 := Lib.hid q2; have HBe2 := Lib.hid e2; obtain ⟨x0, x1, x2, x3, x4, y0, y1, y2, y3, y4⟩ := box5 p2; have q2a := hb_at q2 0 rfl; have q2b := hb_free q2 0; have e2a := hb_at e2 0 rfl; have e2b := hb_free e2 0; have zp := hb_lt p2; have zq := hb_lt q2; have ze := hb_lt e2; clear htk hb2 p2 q2 e2)
  have p3 : ((w2.setCell ⟨w.heap.size + 1, 0, none⟩ (.int .i64 (a1 : Nat))).setCell ⟨w.heap.size + 1 + 1, 0, none⟩ (.int .i64 (r1 : Nat))).heap[w.heap.size]? = some (.cells #[.slice none 0 0, .slice none 0 0, .slice none 0 0, .slice none 0 0, .slice none 0 0] 29 (0, 0)) := hb_set_other (hb_set_other HBp2.out (a := ⟨w.heap.size + 1, 0, none⟩) _ (by show w.heap.size ≠ w.heap.size + 1; omega)) (a := ⟨w.heap.size + 1 + 1, 0, none⟩) _ (by show w.heap.size ≠ w.heap.size + 1 + 1; omega)
  have q3 : ((w2.setCell ⟨w.heap.size + 1, 0, none⟩ (.int .i64 (a1 : Nat))).setCell ⟨w.heap.size + 1 + 1, 0, none⟩ (.int .i64 (r1 : Nat))).heap[w.heap.size + 1]? = some (.cells #[.int .i64 (a1 : Nat)] 3 (0, 0)) := hb_set_other (hb_set_same HBq2.out 0 _) (a := ⟨w.heap.size + 1 + 1, 0, none⟩) _ (by show w.heap.size + 1 ≠ w.heap.size + 1 + 1; omega)
  have e3 : ((w2.setCell ⟨w.heap.size + 1, 0, none⟩ (.int .i64 (a1 : Nat))).setCell ⟨w.heap.size + 1 + 1, 0, none⟩ (.int .i64 (r1 : Nat))).heap[w.heap.size + 1 + 1]? = some (.cells #[.int .i64 (r1 : Nat)] 30 (0, 0)) := hb_set_same (hb_set_other HBe2.out (a := ⟨w.heap.size + 1, 0, none⟩) _ (by show w.heap.size + 1 + 1 ≠ w.heap.size + 1; omega)) 0 _
  have b3 : Below w.heap.size w ((w2.setCell ⟨w.heap.size + 1, 0, none⟩ (.int .i64 (a1 : Nat))).setCell ⟨w.heap.size + 1 + 1, 0, none⟩ (.int .i64 (r1 : Nat))) := ((HB1.out.trans (HB2.out.mono HB1.out.size)).setCell (by show w.heap.size ≤ w.heap.size + 1; omega) _).setCell (by show w.heap.size ≤ w.heap.size + 1 + 1; omega) _
  have k3 : TkRow W1.heap.size ((w2.setCell ⟨w.heap.size + 1, 0, none⟩ (.int .i64 (a1 : Nat))).setCell ⟨w.heap.size + 1 + 1, 0, none⟩ (.int .i64 (r1 : Nat))) tv2 l1 := own_kept HTK.out fun g x hg hx => by
    have := (World.ownsRow.lt HTK.out g hg).1
    exact hb_set_other (hb_set_other hx (a := ⟨w.heap.size + 1, 0, none⟩) _ (by show g ≠ w.heap.size + 1; omega)) (a := ⟨w.heap.size + 1 + 1, 0, none⟩) _ (by show g ≠ w.heap.size + 1 + 1; omega)
  have hW3 : ∃ w3, w3 = ((w2.setCell ⟨w.heap.size + 1, 0, none⟩ (.int .i64 (a1 : Nat))).setCell ⟨w.heap.size + 1 + 1, 0, none⟩ (.int .i64 (r1 : Nat))) := ⟨_, rfl⟩
  obtain ⟨w3, hW3⟩ := hW3
  rw [← hW3] at p3 q3 e3 b3 k3 ⊢
  clear hW3
  have HBp3 := Lib.hid p3
  have HBq3 := Lib.hid q3
  have HBe3 := Lib.hid e3
  have HB3 := Lib.hid b3
  have HK3 := Lib.hid k3
  obtain ⟨m0, m1, m2, m3, m4, n0, n1, n2, n3, n4⟩ := box5 p3
  have q3a := hb_at q3 0 rfl
  have q3b := hb_free q3 0
  have e3a := hb_at e3 0 rfl
  have e3b := hb_free e3 0
  have zp3 := hb_lt p3
  have zq3 := hb_lt q3
  have ze3 := hb_lt e3
  clear p3 q3 e3 b3 k3 HBp2 HBq2 HBe2 HB2 HTK
  by_cases her : r1 = 0
  · subst her
    have hlx : (lexM s).2.2 = 0 := by rw [HLM.out]
    have ha1 : a1 = 0 := by
      have h := (lexM_lexed hlx).2.2.2
      rw [HLM.out] at h
      exact h
    subst ha1
    obtain ⟨hs20, hl6, hsz⟩ := lexM_small hlx
    rw [HLM.out] at hl6 hsz
    have hM : readM s one = wholeP s.size (one s.size) l1 := by
      unfold readM
      rw [HLM.out]
      exact if_neg (fun h => h rfl)
    obtain ⟨ao, cap, htv⟩ := HK3.out.shape
    subst htv
    have hr4 : Rd w3.heap.size s.size (w3.alloc (.cells #[.slice ao l1.length cap, .int .i64 (s.size : Nat)] 91)) l1 := ⟨by omega, _, hb_new _ _, (HK3.out.tok (Nat.le_refl _) hl6 (fun x hx => Nat.le_trans (hsz x hx).2 (by decide))).upto fun b hb hl => Below.heap_alloc _ _ _ hl⟩
    have HR4 := Lib.hid hr4
    have HX4 := Lib.hid (HC.out w3.heap.size s.size l1 _ hr4)
    have HMR := Lib.hid hM
    clear hr4 hM hsz hlx HK3
    have hcf' := hcf w3.heap.size
    cases hX : one s.size l1 with
    | error y =>
      rw [hX] at HX4
      have hM : readM s one = .error y := by rw [HMR.out]; unfold wholeP; rw [hX]
      have HM2 := Lib.hid hM
      clear hM HMR
      go_wp2_with ((with_reducible refine HX4.out.mono ?_); rintro e w5 ⟨hg, hy⟩; subst hy; have HG5 := Lib.hid hg; clear hg)
      exact finM_panic rfl rfl rfl (HG5.out.keep (hb_alloc HBp3.out _) (by omega)) (HG5.out.keep (hb_alloc HBq3.out _) (by omega)) (HG5.out.keep (hb_alloc HBe3.out _) (by omega)) (by omega) (by omega) (by omega) (by omega) (by omega) (by omega) (below_rg HB3.out (by omega) HG5.out) HM2.out
    | ok y =>
      rw [hX] at HX4
      obtain ⟨t5, ts5⟩ := y
      have hM : readM s one = if ts5.length = 0 then .ok t5 else .error ((nx s.size ts5).2, 10) := by rw [HMR.out]; unfold wholeP; rw [hX]
      have HM2 := Lib.hid hM
      clear hM HMR
      go_upto_region 7 with ((with_reducible refine HX4.out.mono ?_); rintro e w5 ⟨hg, ⟨v5, rfl, hV⟩, hR5⟩; (obtain ⟨q50, l50, c50, q51, l51, c51, q52, l52, c52, q53, l53, c53, q54, l54, c54, rfl⟩ := hV.shape); have HV5 := Lib.hid hV; have HG5 := Lib.hid hg; have HR5 := Lib.hid hR5; have HBp5 := Lib.hid (hg.keep (hb_alloc HBp3.out _) (by omega)); have HBq5 := Lib.hid (hg.keep (hb_alloc HBq3.out _) (by omega)); have HBe5 := Lib.hid (hg.keep (hb_alloc HBe3.out _) (by omega)); have HB5 := Lib.hid (below_rg HB3.out (by omega) hg); clear hg hV hR5; obtain ⟨x0, x1, x2, x3, x4, y0, y1, y2, y3, y4⟩ := box5 HBp5.out)
      have p6 : (((((w5.setCell ⟨w.heap.size, 0, none⟩ (.slice q50 l50 c50)).setCell ⟨w.heap.size, 1, none⟩ (.slice q51 l51 c51)).setCell ⟨w.heap.size, 2, none⟩ (.slice q52 l52 c52)).setCell ⟨w.heap.size, 3, none⟩ (.slice q53 l53 c53)).setCell ⟨w.heap.size, 4, none⟩ (.slice q54 l54 c54)).heap[w.heap.size]? = some (.cells #[.slice q50 l50 c50, .slice q51 l51 c51, .slice q52 l52 c52, .slice q53 l53 c53, .slice q54 l54 c54] 29 (0, 0)) := setM_box HBp5.out _ _ _ _ _
      have q6 : (((((w5.setCell ⟨w.heap.size, 0, none⟩ (.slice q50 l50 c50)).setCell ⟨w.heap.size, 1, none⟩ (.slice q51 l51 c51)).setCell ⟨w.heap.size, 2, none⟩ (.slice q52 l52 c52)).setCell ⟨w.heap.size, 3, none⟩ (.slice q53 l53 c53)).setCell ⟨w.heap.size, 4, none⟩ (.slice q54 l54 c54)).heap[w.heap.size + 1]? = some (.cells #[.int .i64 (0 : Nat)] 3 (0, 0)) := (setM_other (a := .slice q50 l50 c50) (b := .slice q51 l51 c51) (c := .slice q52 l52 c52) (d := .slice q53 l53 c53) (e := .slice q54 l54 c54) (by omega)).trans HBq5.out
      have e6 : (((((w5.setCell ⟨w.heap.size, 0, none⟩ (.slice q50 l50 c50)).setCell ⟨w.heap.size, 1, none⟩ (.slice q51 l51 c51)).setCell ⟨w.heap.size, 2, none⟩ (.slice q52 l52 c52)).setCell ⟨w.heap.size, 3, none⟩ (.slice q53 l53 c53)).setCell ⟨w.heap.size, 4, none⟩ (.slice q54 l54 c54)).heap[w.heap.size + 1 + 1]? = some (.cells #[.int .i64 (0 : Nat)] 30 (0, 0)) := (setM_other (a := .slice q50 l50 c50) (b := .slice q51 l51 c51) (c := .slice q52 l52 c52) (d := .slice q53 l53 c53) (e := .slice q54 l54 c54) (by omega)).trans HBe5.out
      have r6 : Rd w3.heap.size s.size (((((w5.setCell ⟨w.heap.size, 0, none⟩ (.slice q50 l50 c50)).setCell ⟨w.heap.size, 1, none⟩ (.slice q51 l51 c51)).setCell ⟨w.heap.size, 2, none⟩ (.slice q52 l52 c52)).setCell ⟨w.heap.size, 3, none⟩ (.slice q53 l53 c53)).setCell ⟨w.heap.size, 4, none⟩ (.slice q54 l54 c54)) ts5 := HR5.out.setMp HBp5.out (by omega) (.slice q50 l50 c50) (.slice q51 l51 c51) (.slice q52 l52 c52) (.slice q53 l53 c53) (.slice q54 l54 c54)
      have b6 : Below w.heap.size w (((((w5.setCell ⟨w.heap.size, 0, none⟩ (.slice q50 l50 c50)).setCell ⟨w.heap.size, 1, none⟩ (.slice q51 l51 c51)).setCell ⟨w.heap.size, 2, none⟩ (.slice q52 l52 c52)).setCell ⟨w.heap.size, 3, none⟩ (.slice q53 l53 c53)).setCell ⟨w.heap.size, 4, none⟩ (.slice q54 l54 c54)) := ((((HB5.out.setCell (Nat.le_refl _) _).setCell (Nat.le_refl _) _).setCell (Nat.le_refl _) _).setCell (Nat.le_refl _) _).setCell (Nat.le_refl _) _
      have v6 : ModV (w3.alloc (.cells #[.slice ao l1.length cap, .int .i64 (s.size : Nat)] 91)) (((((w5.setCell ⟨w.heap.size, 0, none⟩ (.slice q50 l50 c50)).setCell ⟨w.heap.size, 1, none⟩ (.slice q51 l51 c51)).setCell ⟨w.heap.size, 2, none⟩ (.slice q52 l52 c52)).setCell ⟨w.heap.size, 3, none⟩ (.slice q53 l53 c53)).setCell ⟨w.heap.size, 4, none⟩ (.slice q54 l54 c54)) (.agg #[.slice q50 l50 c50, .slice q51 l51 c51, .slice q52 l52 c52, .slice q53 l53 c53, .slice q54 l54 c54]) t5 := HV5.out.mv (r := w.heap.size) (by rw [World.size_alloc]; omega) (((((Rg.refl w.heap.size w5).set 0 _).set 1 _).set 2 _).set 3 _ |>.set 4 _)
      obtain ⟨w6, hW6⟩ : ∃ w6, w6 = (((((w5.setCell ⟨w.heap.size, 0, none⟩ (.slice q50 l50 c50)).setCell ⟨w.heap.size, 1, none⟩ (.slice q51 l51 c51)).setCell ⟨w.heap.size, 2, none⟩ (.slice q52 l52 c52)).setCell ⟨w.heap.size, 3, none⟩ (.slice q53 l53 c53)).setCell ⟨w.heap.size, 4, none⟩ (.slice q54 l54 c54)) := ⟨_, rfl⟩
      rw [← hW6] at p6 q6 e6 r6 b6 v6 ⊢
      clear hW6 x0 x1 x2 x3 x4 y0 y1 y2 y3 y4 m0 m1 m2 m3 m4 n0 n1 n2 n3 n4 q3a q3b e3a e3b HG5 HBp5 HBq5 HBe5 HB5 HV5 HR5
      have HBp6 := Lib.hid p6
      have HBq6 := Lib.hid q6
      have HBe6 := Lib.hid e6
      have HR6 := Lib.hid r6
      have HB6 := Lib.hid b6
      have HV6 := Lib.hid v6
      obtain ⟨x0, x1, x2, x3, x4, y0, y1, y2, y3, y4⟩ := box5 p6
      have q6a := hb_at q6 0 rfl
      have q6b := hb_free q6 0
      have e6a := hb_at e6 0 rfl
      have e6b := hb_free e6 0
      have zp6 := hb_lt p6
      have zq6 := hb_lt q6
      have ze6 := hb_lt e6
      obtain ⟨_, tv6, hr6, qq6, cq6, htv6, _⟩ := r6
      subst htv6
      have r6a := hb_at hr6 0 rfl
      have zr6 := hb_lt hr6
      have hw4 : w.heap.size ≤ (w3.alloc (.cells #[.slice ao l1.length cap, .int .i64 (s.size : Nat)] 91)).heap.size := by rw [World.size_alloc]; omega
      have hw5 : w.heap.size + 1 + 1 < (w3.alloc (.cells #[.slice ao l1.length cap, .int .i64 (s.size : Nat)] 91)).heap.size := by rw [World.size_alloc]; omega
      clear p6 q6 e6 b6 v6 hr6
      by_cases hl : ts5.length = 0
      · have hd : decide ((0 : Int) < (ts5.length : Int)) = false := decide_eq_false (by omega)
        have hM : readM s one = .ok t5 := by rw [HM2.out]; exact if_pos hl
        have HM3 := Lib.hid hM
        have hPp : ∀ V : World, V = ((setM w6 w.heap.size (.slice q50 l50 c50) (.slice q51 l51 c51) (.slice q52 l52 c52) (.slice q53 l53 c53) (.slice q54 l54 c54)).setCell ⟨w.heap.size + 1, 0, none⟩ (.int .i64 0)).setCell ⟨w.heap.size + 1 + 1, 0, none⟩ (.int .i64 0) → V.heap[w.heap.size]? = some (.cells #[.slice q50 l50 c50, .slice q51 l51 c51, .slice q52 l52 c52, .slice q53 l53 c53, .slice q54 l54 c54] 29 (0, 0)) ∧ V.heap[w.heap.size + 1]? = some (.cells #[.int .i64 0] 3 (0, 0)) ∧ V.heap[w.heap.size + 1 + 1]? = some (.cells #[.int .i64 0] 30 (0, 0)) ∧ Below w.heap.size w V ∧ ModV w V (.agg #[.slice q50 l50 c50, .slice q51 l51 c51, .slice q52 l52 c52, .slice q53 l53 c53, .slice q54 l54 c54]) t5 := by
          intro V hV
          refine ⟨?_, ?_, ?_, ?_, ?_⟩
          · rw [hV]
            exact hb_set_other (hb_set_other (setM_box HBp6.out _ _ _ _ _) (a := ⟨w.heap.size + 1, 0, none⟩) _ (by show w.heap.size ≠ w.heap.size + 1; omega)) (a := ⟨w.heap.size + 1 + 1, 0, none⟩) _ (by show w.heap.size ≠ w.heap.size + 1 + 1; omega)
          · rw [hV]
            refine hb_set_other (hb_set_same (c := #[.int .i64 (0 : Nat)]) ?_ 0 _) (a := ⟨w.heap.size + 1 + 1, 0, none⟩) _ (by show w.heap.size + 1 ≠ w.heap.size + 1 + 1; omega)
            rw [setM_other (by omega)]
            exact HBq6.out
          · rw [hV]
            refine hb_set_same (c := #[.int .i64 (0 : Nat)]) (hb_set_other ?_ (a := ⟨w.heap.size + 1, 0, none⟩) _ (by show w.heap.size + 1 + 1 ≠ w.heap.size + 1; omega)) 0 _
            rw [setM_other (by omega)]
            exact HBe6.out
          · rw [hV]
            have h5 : Below w.heap.size w (setM w6 w.heap.size (.slice q50 l50 c50) (.slice q51 l51 c51) (.slice q52 l52 c52) (.slice q53 l53 c53) (.slice q54 l54 c54)) := ((((HB6.out.setCell (Nat.le_refl _) _).setCell (Nat.le_refl _) _).setCell (Nat.le_refl _) _).setCell (Nat.le_refl _) _).setCell (Nat.le_refl _) _
            exact (h5.setCell (by show w.heap.size ≤ w.heap.size + 1; omega) _).setCell (by show w.heap.size ≤ w.heap.size + 1 + 1; omega) _
          · have h5 : ModV (w3.alloc (.cells #[.slice ao l1.length cap, .int .i64 (s.size : Nat)] 91)) (setM w6 w.heap.size (.slice q50 l50 c50) (.slice q51 l51 c51) (.slice q52 l52 c52) (.slice q53 l53 c53) (.slice q54 l54 c54)) (.agg #[.slice q50 l50 c50, .slice q51 l51 c51, .slice q52 l52 c52, .slice q53 l53 c53, .slice q54 l54 c54]) t5 := HV6.out.mv (r := w.heap.size) (by omega) (((((Rg.refl w.heap.size w6).set 0 _).set 1 _).set 2 _).set 3 _ |>.set 4 _)
            have h6 := (h5.mv (r := w.heap.size + 1) (by omega) ((Rg.refl (w.heap.size + 1) _).set 0 (.int .i64 0))).mv (r := w.heap.size + 1 + 1) (by omega) ((Rg.refl (w.heap.size + 1 + 1) _).set 0 (.int .i64 0))
            rw [← hV] at h6
            exact h6.up hw4
        clear hM
        go_wp2
        all_goals
          have F := hPp _ rfl
          refine leaves_cons (f := 31) (args := #[bp w.heap.size, bp (w.heap.size + 1), bp (w.heap.size + 1 + 1)]) (by simp) (by simp [go_sem]) ?_
          refine (catchM_idle _ _ _ _).mono ?_
          rintro e' u' w8 ⟨rfl, rfl, rfl⟩
          exact finM_term rfl rfl rfl F.1 F.2.1 F.2.2.1 F.2.2.2.1 HM3.out F.2.2.2.2
      · have hd : decide ((0 : Int) < (ts5.length : Int)) = true := decide_eq_true (by omega)
        have hM : readM s one = .error ((nx s.size ts5).2, 10) := by rw [HM2.out]; exact if_neg hl
        have HM3 := Lib.hid hM
        have HF := Lib.hid (fun W hW => fault_at w3.heap.size s.size 10 ts5 W hW 10 rfl)
        clear hM
        go_upto_region 8 with (fail)
        go_wp2_with (go_at_call 32; (with_reducible refine (HF.out _ HR6.out).mono ?_); rintro e w7 ⟨rfl, hb7⟩; have HB7 := Lib.hid hb7; clear hb7)
        exact finM_panic rfl rfl rfl (hb_below HBp6.out HB7.out (by omega)) (hb_below HBq6.out HB7.out (by omega)) (hb_below HBe6.out HB7.out (by omega)) (by omega) (by omega) (by omega) (by omega) (by omega) (by omega) (HB6.out.trans (HB7.out.mono HB6.out.size)) HM3.out
  · have hd : ((r1 : Int) != 0) = true := by simp; omega
    have hM : readM s one = .error (a1, r1) := by
      unfold readM
      rw [HLM.out]
      exact if_pos her
    have HMR := Lib.hid hM
    clear hM
    have hPp : ∀ V : World, V = ((setM w3 w.heap.size (.slice none 0 0) (.slice none 0 0) (.slice none 0 0) (.slice none 0 0) (.slice none 0 0)).setCell ⟨w.heap.size + 1, 0, none⟩ (.int .i64 (a1 : Nat))).setCell ⟨w.heap.size + 1 + 1, 0, none⟩ (.int .i64 (r1 : Nat)) → V.drew.heap[w.heap.size]? = some (.cells #[.slice none 0 0, .slice none 0 0, .slice none 0 0, .slice none 0 0, .slice none 0 0] 29 (0, 0)) ∧ V.drew.heap[w.heap.size + 1]? = some (.cells #[.int .i64 (a1 : Nat)] 3 (0, 0)) ∧ V.drew.heap[w.heap.size + 1 + 1]? = some (.cells #[.int .i64 (r1 : Nat)] 30 (0, 0)) ∧ Below w.heap.size w V.drew := by
      intro V hV
      have d1 : V.drew.heap = V.heap := rfl
      rw [d1]
      refine ⟨?_, ?_, ?_, Below.drew ?_⟩ <;> rw [hV]
      · exact hb_set_other (hb_set_other (setM_box HBp3.out _ _ _ _ _) (a := ⟨w.heap.size + 1, 0, none⟩) _ (by show w.heap.size ≠ w.heap.size + 1; omega)) (a := ⟨w.heap.size + 1 + 1, 0, none⟩) _ (by show w.heap.size ≠ w.heap.size + 1 + 1; omega)
      · refine hb_set_other (hb_set_same (c := #[.int .i64 (a1 : Nat)]) ?_ 0 _) (a := ⟨w.heap.size + 1 + 1, 0, none⟩) _ (by show w.heap.size + 1 ≠ w.heap.size + 1 + 1; omega)
        rw [setM_other (by omega)]
        exact HBq3.out
      · refine hb_set_same (c := #[.int .i64 (r1 : Nat)]) (hb_set_other ?_ (a := ⟨w.heap.size + 1, 0, none⟩) _ (by show w.heap.size + 1 + 1 ≠ w.heap.size + 1; omega)) 0 _
        rw [setM_other (by omega)]
        exact HBe3.out
      · have h5 : Below w.heap.size w (setM w3 w.heap.size (.slice none 0 0) (.slice none 0 0) (.slice none 0 0) (.slice none 0 0) (.slice none 0 0)) := ((((HB3.out.setCell (Nat.le_refl _) _).setCell (Nat.le_refl _) _).setCell (Nat.le_refl _) _).setCell (Nat.le_refl _) _).setCell (Nat.le_refl _) _
        exact (h5.setCell (by show w.heap.size ≤ w.heap.size + 1; omega) _).setCell (by show w.heap.size ≤ w.heap.size + 1 + 1; omega) _
    go_upto_region 3 with (fail)
    go_region_with (fail)
    all_goals
      go_wp2
      have F := hPp _ rfl
      exact finM_err rfl rfl rfl F.1 F.2.1 F.2.2.1 F.2.2.2 HMR.out
end Go.Proofs.YtlbnaddgdgbckaaGreatDoor
