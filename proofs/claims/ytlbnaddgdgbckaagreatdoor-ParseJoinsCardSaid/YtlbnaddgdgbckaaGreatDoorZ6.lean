/- Texts in a row: Pg Ph. -/
import Derived.Test.YtlbnaddgdgbckaaGreatDoorZ5
/- What something holds: in parentheses; a constructor. -/
namespace Go.Proofs.YtlbnaddgdgbckaaGreatDoor
open Go.RowKit
set_option linter.unusedSimpArgs false
set_option linter.unusedVariables false
theorem IsX.more {X : Nat → Prop} {w : World} {d d' : Nat} (hd : d ≤ d') : ∀ {v : Value} {x : Tm}, IsX X w d v x → IsX X w d' v x := by
  induction d generalizing d' with
  | zero => intro v x h; cases h
  | succ d ih =>
    intro v x h
    obtain ⟨d', rfl⟩ : ∃ m, d' = m + 1 := ⟨d' - 1, by omega⟩
    obtain ⟨k, p, n, N, kids⟩ := x
    obtain ⟨q, c, h1, h2, h3, h4, h5⟩ := h
    refine ⟨q, c, h1, h2, h3, h4, fun i y hy => ?_⟩
    obtain ⟨b, o, k', p', n', N', s', e, hX, ha, ht⟩ := h5 i y hy
    exact ⟨b, o, k', p', n', N', s', e, hX, ha, ih (by omega) ht⟩
theorem bnd_id {α : Type} (x : Res α) : bnd x (fun a ts => .ok (a, ts)) = x := by cases x <;> rfl
theorem TmV.up {w w1 w2 : World} {v : Value} {t : Tm} (h : TmV w1 w2 v t) (hs : w.heap.size ≤ w1.heap.size) : TmV w w2 v t :=
  let ⟨d, h⟩ := h; ⟨d, h.move fun b hb _ => ⟨Nat.le_trans hs hb, rfl⟩⟩
theorem TmV.move {r : Nat} {w w1 w2 : World} {v : Value} {t : Tm} (h : TmV w w1 v t) (hr : r < w.heap.size) (hg : Rg r w1 w2) : TmV w w2 v t :=
  let ⟨d, h⟩ := h; ⟨d, h.move fun b hb hl => ⟨hb, hg.same hl (by unfold New at hb; omega)⟩⟩
theorem RowG.weak {α : Type} {K : Mem α} {base base' : Nat} {w : World} {sv : Value} {l : List α} (h : RowG K base w sv l) (hb : base' ≤ base) : RowG K base' w sv l := by
  obtain ⟨cl, hl, ⟨h1, h2⟩, hd⟩ := h
  refine ⟨cl, hl, ⟨h1, ?_⟩, fun i a ha => ?_⟩
  · rcases h2 with h2 | ⟨g, cap, cur, e1, e2, e3⟩
    · exact .inl h2
    · exact .inr ⟨g, cap, cur, e1, Nat.le_trans hb e2, e3⟩
  · obtain ⟨cs, e1, e2⟩ := hd i a ha
    exact ⟨cs, e1, K.move (fun b hX _ => ⟨⟨Nat.le_trans hb hX.1, hX.2⟩, rfl⟩) e2⟩
theorem LsV.up {w w1 w2 : World} {v : Value} {l : List Tm} (h : LsV w1 w2 v l) (hs : w.heap.size ≤ w1.heap.size) : LsV w w2 v l :=
  ⟨h.1.weak hs, h.2⟩
theorem LsV.sl {w w1 : World} {v : Value} {l : List Tm} (h : LsV w w1 v l) : SlG termK (New w) w1 v l := h.1.all fun _ _ _ => rfl
theorem LsV.move {r : Nat} {w w1 w2 : World} {v : Value} {l : List Tm} (h : LsV w w1 v l) (hr : r < w.heap.size) (hg : Rg r w1 w2) : LsV w w2 v l :=
  ⟨h.1.move fun b hb hl => hg.same hl (by omega), h.2⟩
theorem LsV.nil (w w1 : World) : LsV w w1 (.slice none 0 0) [] := ⟨RowG.nil _ _ _, by simp⟩
set_option maxRecDepth 100000 in
theorem held_t (r E : Nat) (one : Ts → Res Tm) (n : Nat) (cap : Array Value) (w : World) (ts : Ts) (hR : Rd r E w ts) (hm : Mono one) (hcf : ∀ W, (callFunc n cap).run Tryz.prog W = .ok (.enter n cap) W) (HC : OneT r E one n cap w) :
    Calls Tryz.prog 79 #[rp r, .func (.func n) #[] cap] w (Got r E LsV w (heldP E one ts)) := by
  have HC := Lib.hid HC
  have HR0 := Lib.hid hR
  have hrl := hR.lt
  have HG0 : RowKit.Hid (Rg r w w) := Lib.hid (Rg.refl r w)
  obtain ⟨S, hS⟩ : ∃ S, S = heldP E one ts := ⟨_, rfl⟩
  have HS0 := Lib.hid hS
  rw [← hS]
  unfold heldP at HS0
  clear hR hS
  have HK := Lib.hid (fun W hW => skipSign_any r E sOpen ts W hW)
  cases hB : isB 8 sOpen ts with
  | false =>
    have h := HS0.out
    rw [hB, if_neg (by decide)] at h
    rw [hB] at HK
    subst h
    clear HS0
    go_enter Tryz.func79, Tryz.ntmps79
    go_wp2_with (go_at_call 46; (with_reducible refine (HK.out _ (by first | exact HR0.out | exact HR0.out.alloc _ | exact (HR0.out.alloc _).alloc _ | exact ((HR0.out.alloc _).alloc _).alloc _ | exact HR0.out.upto (fun _ _ _ => rfl) | exact (HR0.out.alloc _).upto (fun _ _ _ => rfl))).mono ?_); rintro e w1 ⟨rfl, hg, hr⟩; have HG1 : RowKit.Hid (Rg r w w1) := Lib.hid (by first | exact HG0.out.trans hg | exact (HG0.out.alloc _).trans hg | exact ((HG0.out.alloc _).alloc _).trans hg | exact (((HG0.out.alloc _).alloc _).alloc _).trans hg | exact HG0.out.drew.trans hg | exact (HG0.out.alloc _).drew.trans hg); have HR1 : RowKit.Hid (Rd r E w1 ts) := Lib.hid hr; clear hg hr)
    go_ret
    exact ⟨HG1.out, ⟨_, rfl, LsV.nil _ _⟩, HR1.out⟩
  | true =>
    have h := HS0.out
    rw [hB, if_pos rfl] at h
    rw [hB] at HK
    have HS1 := Lib.hid h
    clear HS0 h hB
    go_enter Tryz.func79, Tryz.ntmps79
    go_wp2_with (first
      | (go_at_call 46; (with_reducible refine (HK.out _ (by first | exact HR0.out | exact HR0.out.alloc _ | exact (HR0.out.alloc _).alloc _ | exact ((HR0.out.alloc _).alloc _).alloc _ | exact HR0.out.upto (fun _ _ _ => rfl) | exact (HR0.out.alloc _).upto (fun _ _ _ => rfl))).mono ?_); rintro e w1 ⟨rfl, hg, hr⟩; have HG1 : RowKit.Hid (Rg r w w1) := Lib.hid (by first | exact HG0.out.trans hg | exact (HG0.out.alloc _).trans hg | exact ((HG0.out.alloc _).alloc _).trans hg | exact (((HG0.out.alloc _).alloc _).alloc _).trans hg | exact HG0.out.drew.trans hg | exact (HG0.out.alloc _).drew.trans hg); have HR1 : RowKit.Hid (Rd r E w1 ts.tail) := Lib.hid hr; clear hg hr)
      | (go_at_call 100; (with_reducible refine (several_t r E sComma one n cap _ _ (by first | exact HR1.out | exact HR1.out.alloc _ | exact (HR1.out.alloc _).alloc _ | exact ((HR1.out.alloc _).alloc _).alloc _ | exact HR1.out.upto (fun _ _ _ => rfl) | exact (HR1.out.alloc _).upto (fun _ _ _ => rfl)) hm hcf (HC.out.at HG1.out)).mono ?_); rintro e w2 h2; rcases h2.step HS1.out with ⟨v2, a2, ts2, rfl, hV, hR, hg, hS, hx⟩ | ⟨y, rfl, hg, hSE⟩; rotate_left; (have hGE : Rg r w w2 := (by first | exact HG1.out.trans hg | exact (HG1.out.alloc _).trans hg | exact ((HG1.out.alloc _).alloc _).trans hg | exact (((HG1.out.alloc _).alloc _).alloc _).trans hg | exact HG1.out.drew.trans hg | exact (HG1.out.alloc _).drew.trans hg)); rotate_left; (obtain ⟨q2, c2, hv⟩ := hV.1.shape; subst hv; have HV2 := Lib.hid hV; have HL2 := Lib.hid hV.2); (have HR2 := Lib.hid hR; have HG2 : RowKit.Hid (Rg r w w2) := Lib.hid (by first | exact HG1.out.trans hg | exact (HG1.out.alloc _).trans hg | exact ((HG1.out.alloc _).alloc _).trans hg | exact (((HG1.out.alloc _).alloc _).alloc _).trans hg | exact HG1.out.drew.trans hg | exact (HG1.out.alloc _).drew.trans hg); have HS2 := Lib.hid hS; have HX2 := Lib.hid hx; have HD2 := Lib.hid hg; clear hR hg hS hx hV))
      | (go_at_call 34; (with_reducible refine (sign_any r E sShut _ _ (by first | exact HR2.out | exact HR2.out.alloc _ | exact (HR2.out.alloc _).alloc _ | exact ((HR2.out.alloc _).alloc _).alloc _ | exact HR2.out.upto (fun _ _ _ => rfl) | exact (HR2.out.alloc _).upto (fun _ _ _ => rfl))).mono ?_); rintro e w3 h3; rcases h3.step HS2.out with ⟨v3, a3, ts3, rfl, hV, hR, hg, hS, hx⟩ | ⟨y, rfl, hg, hSE⟩; rotate_left; (have hGE : Rg r w w3 := (by first | exact HG2.out.trans hg | exact (HG2.out.alloc _).trans hg | exact ((HG2.out.alloc _).alloc _).trans hg | exact (((HG2.out.alloc _).alloc _).alloc _).trans hg | exact HG2.out.drew.trans hg | exact (HG2.out.alloc _).drew.trans hg)); rotate_left; (obtain rfl := hV); (have HR3 := Lib.hid hR; have HG3 : RowKit.Hid (Rg r w w3) := Lib.hid (by first | exact HG2.out.trans hg | exact (HG2.out.alloc _).trans hg | exact ((HG2.out.alloc _).alloc _).trans hg | exact (((HG2.out.alloc _).alloc _).alloc _).trans hg | exact HG2.out.drew.trans hg | exact (HG2.out.alloc _).drew.trans hg); have HS3 := Lib.hid hS; have HX3 := Lib.hid hx; have HD3 := Lib.hid hg; clear hR hg hS hx)))
    all_goals first | exact ⟨rfl, hGE, rfl⟩ | exact ⟨rfl, hGE, by rw [hSE]⟩ | skip
    go_ret
    have h := HS3.out
    exact ⟨HG3.out, by rw [h]; exact ⟨⟨_, rfl, (HV2.out.up HG1.out.size).move hrl HD3.out⟩, HR3.out⟩⟩
set_option maxRecDepth 100000 in
theorem opened_t (r E : Nat) (one : Ts → Res Tm) (n : Nat) (cap : Array Value) (w : World) (ts : Ts) (hR : Rd r E w ts) (hm : Mono one) (hcf : ∀ W, (callFunc n cap).run Tryz.prog W = .ok (.enter n cap) W) (HC : OneT r E one n cap w) :
    Calls Tryz.prog 76 #[rp r, .func (.func n) #[] cap] w (Got r E LsV w (openP E one ts)) := by
  have HC := Lib.hid HC
  have HR0 := Lib.hid hR
  have hrl := hR.lt
  have HG0 : RowKit.Hid (Rg r w w) := Lib.hid (Rg.refl r w)
  obtain ⟨S, hS⟩ : ∃ S, S = openP E one ts := ⟨_, rfl⟩
  have HS0 := Lib.hid hS
  rw [← hS]
  unfold openP at HS0
  clear hR hS
  go_enter Tryz.func76, Tryz.ntmps76
  go_wp2_with (first
    | (go_at_call 34; (with_reducible refine (sign_any r E sOpen _ _ (by first | exact HR0.out | exact HR0.out.alloc _ | exact (HR0.out.alloc _).alloc _ | exact ((HR0.out.alloc _).alloc _).alloc _ | exact HR0.out.upto (fun _ _ _ => rfl) | exact (HR0.out.alloc _).upto (fun _ _ _ => rfl))).mono ?_); rintro e w1 h1; rcases h1.step HS0.out with ⟨v1, a1, ts1, rfl, hV, hR, hg, hS, hx⟩ | ⟨y, rfl, hg, hSE⟩; rotate_left; (have hGE : Rg r w w1 := (by first | exact HG0.out.trans hg | exact (HG0.out.alloc _).trans hg | exact ((HG0.out.alloc _).alloc _).trans hg | exact (((HG0.out.alloc _).alloc _).alloc _).trans hg | exact HG0.out.drew.trans hg | exact (HG0.out.alloc _).drew.trans hg)); rotate_left; (obtain rfl := hV); (have HR1 := Lib.hid hR; have HG1 : RowKit.Hid (Rg r w w1) := Lib.hid (by first | exact HG0.out.trans hg | exact (HG0.out.alloc _).trans hg | exact ((HG0.out.alloc _).alloc _).trans hg | exact (((HG0.out.alloc _).alloc _).alloc _).trans hg | exact HG0.out.drew.trans hg | exact (HG0.out.alloc _).drew.trans hg); have HS1 := Lib.hid hS; have HX1 := Lib.hid hx; have HD1 := Lib.hid hg; clear hR hg hS hx))
    | (go_at_call 77; (with_reducible refine (is_any r E 8 sShut _ _ (by first | exact HR1.out | exact HR1.out.alloc _ | exact (HR1.out.alloc _).alloc _ | exact ((HR1.out.alloc _).alloc _).alloc _ | exact HR1.out.upto (fun _ _ _ => rfl) | exact (HR1.out.alloc _).upto (fun _ _ _ => rfl))).mono ?_); rintro e w2 ⟨rfl, hb⟩; have HG2 : RowKit.Hid (Rg r w w2) := Lib.hid (by first | exact HG1.out.trans (Rg.of_below hb) | exact (HG1.out.alloc _).trans (Rg.of_below hb) | exact ((HG1.out.alloc _).alloc _).trans (Rg.of_below hb)); have HR2 : RowKit.Hid (Rd r E w2 ts1) := Lib.hid (by first | exact HR1.out.below hb); have hS1 := HS1.out; cases hB : isB 8 sShut ts1 <;> (rw [hB] at hS1; first | rw [if_pos rfl] at hS1 | rw [if_neg (by decide)] at hS1) <;> (have HS2 := Lib.hid hS1; clear hS1 hB hb))
    | (go_at_call 100; (with_reducible refine (several_t r E sComma one n cap _ _ (by first | exact HR2.out | exact HR2.out.alloc _ | exact (HR2.out.alloc _).alloc _ | exact ((HR2.out.alloc _).alloc _).alloc _ | exact HR2.out.upto (fun _ _ _ => rfl) | exact (HR2.out.alloc _).upto (fun _ _ _ => rfl)) hm hcf (HC.out.at HG2.out)).mono ?_); rintro e w3 h3; rcases h3.step (HS2.out.trans (bnd_id _).symm) with ⟨v3, a3, ts3, rfl, hV, hR, hg, hS, hx⟩ | ⟨y, rfl, hg, hSE⟩; rotate_left; (have hGE : Rg r w w3 := (by first | exact HG2.out.trans hg | exact (HG2.out.alloc _).trans hg | exact ((HG2.out.alloc _).alloc _).trans hg | exact (((HG2.out.alloc _).alloc _).alloc _).trans hg | exact HG2.out.drew.trans hg | exact (HG2.out.alloc _).drew.trans hg)); rotate_left; (obtain ⟨q3, c3, hv⟩ := hV.1.shape; subst hv; have HV3 := Lib.hid hV; have HL3 := Lib.hid hV.2); (have HR3 := Lib.hid hR; have HG3 : RowKit.Hid (Rg r w w3) := Lib.hid (by first | exact HG2.out.trans hg | exact (HG2.out.alloc _).trans hg | exact ((HG2.out.alloc _).alloc _).trans hg | exact (((HG2.out.alloc _).alloc _).alloc _).trans hg | exact HG2.out.drew.trans hg | exact (HG2.out.alloc _).drew.trans hg); have HS3 := Lib.hid hS; have HX3 := Lib.hid hx; have HD3 := Lib.hid hg; clear hR hg hS hx hV)))
  all_goals first | exact ⟨rfl, hGE, rfl⟩ | exact ⟨rfl, hGE, by rw [hSE]⟩ | skip
  all_goals go_ret
  · exact ⟨HG3.out, by rw [HS3.out]; exact ⟨⟨_, rfl, HV3.out.up HG2.out.size⟩, HR3.out⟩⟩
  · exact ⟨HG2.out, by rw [HS2.out]; exact ⟨⟨_, rfl, LsV.nil _ _⟩, HR2.out⟩⟩
/-- The first of some terms. -/
theorem LsV.one {w w1 : World} {v : Value} {t : Tm} (h : LsV w w1 v [t]) : ∃ b o c k p n N s d, v = .slice (some ⟨b, o, none⟩) 1 c ∧ w.heap.size ≤ b ∧ b < w1.heap.size ∧ TAt w1 b o k p n N s ∧ IsX (New w) w1 d (tv k p n N s) t := by
  obtain ⟨q, c, hv, h2⟩ := h.sl
  subst hv
  obtain ⟨b, o, cs, rfl, hb, hc, k, p, n, N, s, d, rfl, hX⟩ := h2 0 t rfl
  have e : ∀ j, o + 0 * termK.size + j = o + j := fun j => by omega
  have ht : TAt w1 b o k p n N s := ⟨by have := hc 0 _ rfl; rwa [e] at this, by have := hc 1 _ rfl; rwa [e] at this, by have := hc 2 _ rfl; rwa [e] at this, by have := hc 3 _ rfl; rwa [e] at this, by have := hc 4 _ rfl; rwa [e] at this⟩
  exact ⟨b, o, c, k, p, n, N, s, d, rfl, hb, ht.lt, ht, hX⟩
theorem kids_of {X : Nat → Prop} {w : World} {s : Value} {l : List Tm} (h : SlG termK X w s l) (hl : l.length ≤ 20000) {k N : Int} {p n : ByteArray} (hp : p.size ≤ 4194304) (hn : n.size ≤ 4194304) : ∃ d, IsX X w d (tv k p n N s) (.mk k p n N l) := by
  obtain ⟨q, c, rfl, h⟩ := h
  have hd : ∃ D, ∀ (i : Nat) (a : Tm), l[i]? = some a → ∃ (b o : Nat) (k' : Int) (p' n' : ByteArray) (N' : Int) (s' : Value), q = some ⟨b, o, none⟩ ∧ X b ∧ TAt w b (o + i * 5) k' p' n' N' s' ∧ IsX X w D (tv k' p' n' N' s') a := by
    have : ∀ m, ∃ D, ∀ (i : Nat) (a : Tm), i < m → l[i]? = some a → ∃ (b o : Nat) (k' : Int) (p' n' : ByteArray) (N' : Int) (s' : Value), q = some ⟨b, o, none⟩ ∧ X b ∧ TAt w b (o + i * 5) k' p' n' N' s' ∧ IsX X w D (tv k' p' n' N' s') a := by
      intro m
      induction m with
      | zero => exact ⟨0, fun i a hi => by omega⟩
      | succ m ih =>
        obtain ⟨D, ih⟩ := ih
        cases hm : l[m]? with
        | none =>
          refine ⟨D, fun i a hi ha => ih i a ?_ ha⟩
          rcases Nat.lt_or_ge i m with h1 | h1
          · exact h1
          · obtain rfl : i = m := by omega
            rw [hm] at ha; cases ha
        | some x =>
          obtain ⟨b, o, cs, e, hX, hc, k', p', n', N', s', d, rfl, ht⟩ := h m x hm
          refine ⟨max D d, fun i a hi ha => ?_⟩
          rcases Nat.lt_or_ge i m with h1 | h1
          · obtain ⟨b, o, k', p', n', N', s', e, h1, h2, h3⟩ := ih i a h1 ha
            exact ⟨b, o, k', p', n', N', s', e, h1, h2, h3.more (Nat.le_max_left ..)⟩
          · obtain rfl : i = m := by omega
            rw [hm] at ha
            cases ha
            exact ⟨b, o, k', p', n', N', s', e, hX, ⟨hc 0 _ rfl, hc 1 _ rfl, hc 2 _ rfl, hc 3 _ rfl, hc 4 _ rfl⟩, ht.more (Nat.le_max_right ..)⟩
    obtain ⟨D, hD⟩ := this l.length
    exact ⟨D, fun i a ha => hD i a (List.getElem?_eq_some_iff.1 ha).1 ha⟩
  obtain ⟨D, hD⟩ := hd
  refine ⟨D + 1, q, c, rfl, by unfold maxLen; omega, by unfold maxLen; omega, by unfold maxLen; omega, fun i x hx => ?_⟩
  obtain ⟨b, o, k', p', n', N', s', e, h1, h2, h3⟩ := hD i x hx
  exact ⟨b, o, k', p', n', N', s', e, h1, h2, h3⟩
set_option maxRecDepth 100000 in
theorem closed_t (r E : Nat) (kind : Int) (l : List Tm) (v : Value) (w0 w : World) (hr0 : r < w0.heap.size) (hz0 : w0.heap.size ≤ w.heap.size) (hL : LsV w0 w v l) (ts : Ts) (hR : Rd r E w ts) :
    Calls Tryz.prog 78 #[rp r, .int .i64 kind, v] w (Got r E (fun _ w' v t => TmV w0 w' v t) w (shutP E kind l ts)) := by
  have HL := Lib.hid hL
  have HR0 := Lib.hid hR
  have hrl := hR.lt
  have HG0 : RowKit.Hid (Rg r w w) := Lib.hid (Rg.refl r w)
  obtain ⟨S, hS⟩ : ∃ S, S = shutP E kind l ts := ⟨_, rfl⟩
  have HS0 := Lib.hid hS
  rw [← hS]
  unfold shutP at HS0
  by_cases h1 : l.length = 1
  · obtain ⟨t, rfl⟩ : ∃ t, l = [t] := List.length_eq_one_iff.1 h1
    obtain ⟨b, o, c, tk, tp, tn, tN, tS, d, rfl, hb0, hbl, ht, hX⟩ := hL.one
    obtain ⟨_, _, _, _, tq, tl, tc, he⟩ := hX.shape
    obtain rfl : tS = .slice tq tl tc := by cases he; rfl
    clear he
    have HT := Lib.hid ht
    have HX := Lib.hid hX
    clear hL hR hS h1 ht hX
    go_enter Tryz.func78, Tryz.ntmps78
    go_wp2_with (go_at_call 34; (with_reducible refine (sign_any r E sShut _ _ (by first | exact HR0.out | exact HR0.out.alloc _ | exact (HR0.out.alloc _).alloc _ | exact ((HR0.out.alloc _).alloc _).alloc _ | exact HR0.out.upto (fun _ _ _ => rfl) | exact (HR0.out.alloc _).upto (fun _ _ _ => rfl))).mono ?_); rintro e w1 h1; rcases h1.step HS0.out with ⟨v1, a1, ts1, rfl, hV, hR, hg, hS, hx⟩ | ⟨y, rfl, hg, hSE⟩; rotate_left; (have hGE : Rg r w w1 := (by first | exact HG0.out.trans hg | exact (HG0.out.alloc _).trans hg | exact ((HG0.out.alloc _).alloc _).trans hg | exact (((HG0.out.alloc _).alloc _).alloc _).trans hg | exact HG0.out.drew.trans hg | exact (HG0.out.alloc _).drew.trans hg)); rotate_left; (obtain rfl := hV); (have HR1 := Lib.hid hR; have HG1 : RowKit.Hid (Rg r w w1) := Lib.hid (by first | exact HG0.out.trans hg | exact (HG0.out.alloc _).trans hg | exact ((HG0.out.alloc _).alloc _).trans hg | exact (((HG0.out.alloc _).alloc _).alloc _).trans hg | exact HG0.out.drew.trans hg | exact (HG0.out.alloc _).drew.trans hg); have HS1 := Lib.hid hS; have HX1 := Lib.hid hx; have HD1 := Lib.hid hg; clear hR hg hS hx); (have ht1 := (HT.out.move_alloc _).rg HD1.out (by omega); obtain ⟨t0, t1, t2, t3, t4⟩ := ht1; have HB1 := Lib.hid (HD1.out.keep (hb_new _ _) (by omega)); obtain ⟨x0, x1, x2, x3, x4, y0, y1, y2, y3, y4⟩ := box5 HB1.out))
    all_goals first | exact ⟨rfl, hGE, rfl⟩ | exact ⟨rfl, hGE, by rw [hSE]⟩ | skip
    have hT1 := (HT.out.move_alloc (.cells #[.int .i64 0, .string ⟨#[]⟩, .string ⟨#[]⟩, .int .i64 0, .slice none 0 0] 39)).rg HD1.out (by omega)
    refine bodyPost_ret (v := tv tk tp tn tN (.slice tq tl tc)) (res_term rfl rfl (set5 HB1.out _ _ _ _ _)) rfl ⟨?_, ?_⟩
    · exact ((((HG1.out.set_new (Nat.le_refl _) 0 _).set_new (Nat.le_refl _) 1 _).set_new (Nat.le_refl _) 2 _).set_new (Nat.le_refl _) 3 _).set_new (Nat.le_refl _) 4 _
    · rw [HS1.out]
      refine ⟨⟨_, rfl, d, HX.out.move fun b' hb' hl' => ⟨hb', ?_⟩⟩, ((((HR1.out.set_new hrl 0 _).set_new hrl 1 _).set_new hrl 2 _).set_new hrl 3 _).set_new hrl 4 _⟩
      unfold New at hb'
      have hne : b' ≠ w.heap.size := by omega
      rw [Below.heap_setCell _ _ _ _ hne, Below.heap_setCell _ _ _ _ hne, Below.heap_setCell _ _ _ _ hne, Below.heap_setCell _ _ _ _ hne, Below.heap_setCell _ _ _ _ hne, HD1.out.same (by simp; omega) (by omega), Below.heap_alloc _ _ _ hl']
  · have hsh : shutT kind l = .mk kind e0 e0 0 l := by
      unfold shutT
      match l, h1 with
      | [], _ => rfl
      | [_], h => exact absurd rfl h
      | _ :: _ :: _, _ => rfl
    have hd1 : ((l.length : Int) == 1) = false := by rw [beq_eq_false_iff_ne]; omega
    obtain ⟨lq, lc, rfl⟩ : ∃ q c, v = .slice q l.length c := hL.1.shape
    have HSH := Lib.hid hsh
    clear hL hR hS h1 hsh
    go_enter Tryz.func78, Tryz.ntmps78
    go_wp2_with (go_at_call 34; (with_reducible refine (sign_any r E sShut _ _ (by first | exact HR0.out | exact HR0.out.alloc _ | exact (HR0.out.alloc _).alloc _ | exact ((HR0.out.alloc _).alloc _).alloc _ | exact HR0.out.upto (fun _ _ _ => rfl) | exact (HR0.out.alloc _).upto (fun _ _ _ => rfl))).mono ?_); rintro e w1 h1; rcases h1.step HS0.out with ⟨v1, a1, ts1, rfl, hV, hR, hg, hS, hx⟩ | ⟨y, rfl, hg, hSE⟩; rotate_left; (have hGE : Rg r w w1 := (by first | exact HG0.out.trans hg | exact (HG0.out.alloc _).trans hg | exact ((HG0.out.alloc _).alloc _).trans hg | exact (((HG0.out.alloc _).alloc _).alloc _).trans hg | exact HG0.out.drew.trans hg | exact (HG0.out.alloc _).drew.trans hg)); rotate_left; (obtain rfl := hV); (have HR1 := Lib.hid hR; have HG1 : RowKit.Hid (Rg r w w1) := Lib.hid (by first | exact HG0.out.trans hg | exact (HG0.out.alloc _).trans hg | exact ((HG0.out.alloc _).alloc _).trans hg | exact (((HG0.out.alloc _).alloc _).alloc _).trans hg | exact HG0.out.drew.trans hg | exact (HG0.out.alloc _).drew.trans hg); have HS1 := Lib.hid hS; have HX1 := Lib.hid hx; have HD1 := Lib.hid hg; clear hR hg hS hx); (have HB1 := Lib.hid (HD1.out.keep (hb_new _ _) (by omega)); obtain ⟨x0, x1, x2, x3, x4, y0, y1, y2, y3, y4⟩ := box5 HB1.out))
    all_goals first | exact ⟨rfl, hGE, rfl⟩ | exact ⟨rfl, hGE, by rw [hSE]⟩ | skip
    refine bodyPost_ret (v := tv kind ⟨#[]⟩ ⟨#[]⟩ 0 (.slice lq l.length lc)) (res_term rfl rfl (set5 HB1.out _ _ _ _ _)) rfl ⟨?_, ?_⟩
    · exact ((((HG1.out.set_new (Nat.le_refl _) 0 _).set_new (Nat.le_refl _) 1 _).set_new (Nat.le_refl _) 2 _).set_new (Nat.le_refl _) 3 _).set_new (Nat.le_refl _) 4 _
    · rw [HS1.out]
      refine ⟨⟨_, rfl, ?_⟩, ((((HR1.out.set_new hrl 0 _).set_new hrl 1 _).set_new hrl 2 _).set_new hrl 3 _).set_new hrl 4 _⟩
      rw [HSH.out]
      refine kids_of (HL.out.sl.move fun b' hb' hl' => ⟨hb', ?_⟩) (by have := HL.out.2; omega) (by decide) (by decide)
      unfold New at hb'
      have hne : b' ≠ w.heap.size := by omega
      rw [Below.heap_setCell _ _ _ _ hne, Below.heap_setCell _ _ _ _ hne, Below.heap_setCell _ _ _ _ hne, Below.heap_setCell _ _ _ _ hne, Below.heap_setCell _ _ _ _ hne, HD1.out.same (by simp; omega) (by omega), Below.heap_alloc _ _ _ hl']
end Go.Proofs.YtlbnaddgdgbckaaGreatDoor
/- Types: the reader's calls. -/
namespace Go.Proofs.YtlbnaddgdgbckaaGreatDoor
open Go.RowKit
set_option linter.unusedSimpArgs false
set_option linter.unusedVariables false
/-- A text that is not too long. -/
def StV (_ _ : World) (v : Value) (s : ByteArray) : Prop := v = .string s ∧ s.size ≤ 4194304
theorem Rd.tx {r E : Nat} {w : World} {ts : Ts} (h : Rd r E w ts) : (Proofs.YtlbnaddgdgbckaaGreatDoor.tx ts).size ≤ 4194304 := by
  cases ts with
  | nil => decide
  | cons t ts =>
    obtain ⟨b, o, c, _, _, _, _, _, hz, _⟩ := h.cons
    exact hz
theorem take_st (r E : Nat) (k : Int) (ts : Ts) (hk : k ≠ 0) (w : World) (hR : Rd r E w ts) : Calls Tryz.prog 66 #[rp r, .int .i64 k] w (Got r E StV w (takeP E k ts)) := by
  refine (take_any r E k ts hk w hR).mono ?_
  rintro e w' h
  by_cases hK : kd ts = k
  · have e1 : takeP E k ts = .ok (Proofs.YtlbnaddgdgbckaaGreatDoor.tx ts, ts.tail) := if_pos hK
    rw [e1] at h ⊢
    obtain ⟨hg, ⟨v, rfl, rfl⟩, h2⟩ := h
    exact ⟨hg, ⟨_, rfl, rfl, hR.tx⟩, h2⟩
  · have e1 : takeP E k ts = .error ((nx E ts).2, 10) := if_neg hK
    rw [e1] at h ⊢
    exact h
theorem leafX (X : Nat → Prop) (w : World) (k N : Int) (p n : ByteArray) (hp : p.size ≤ 4194304) (hn : n.size ≤ 4194304) : IsX X w 1 (tv k p n N (.slice none 0 0)) (.mk k p n N []) :=
  ⟨none, 0, rfl, by unfold maxLen; omega, by unfold maxLen; omega, by simp, fun i x h => by simp at h⟩
/-- Five stores into the box of a result. -/
def set5w (W : World) (g : Nat) (k : Int) (p n : ByteArray) (N : Int) (s : Value) : World :=
  (((((W.setCell ⟨g, 0, none⟩ (.int .i64 k)).setCell ⟨g, 1, none⟩ (.string p)).setCell ⟨g, 2, none⟩ (.string n)).setCell ⟨g, 3, none⟩ (.int .i64 N)).setCell ⟨g, 4, none⟩ s)
theorem set5w_other {W : World} {g : Nat} {k N : Int} {p n : ByteArray} {s : Value} {b : Nat} (hne : b ≠ g) : (set5w W g k p n N s).heap[b]? = W.heap[b]? := by
  unfold set5w
  rw [Below.heap_setCell _ _ _ _ hne, Below.heap_setCell _ _ _ _ hne, Below.heap_setCell _ _ _ _ hne, Below.heap_setCell _ _ _ _ hne, Below.heap_setCell _ _ _ _ hne]
/-- The end of a call whose result is a box. -/
theorem fin5 {fn : Func} {i : Nat} (hres : fn.results = #[ResultVar.cell i 39]) {a : Act} (hd : a.defers = []) {r E g : Nat} {w0 w W : World} {ts : Ts} {k N : Int} {p n : ByteArray} {s : Value} {t : Tm} {S : Res Tm} {c0 c1 c2 c3 c4 : Value} {T : TypeId}
    (hp : a.tmps[i]?.getD undef = .pointer (some ⟨g, 0, none⟩)) (HB : W.heap[g]? = some (.cells #[c0, c1, c2, c3, c4] T (0, 0))) (hg : w.heap.size ≤ g) (hG : Rg r w W) (hr : r < w.heap.size) (hR : Rd r E W ts) (hS : S = .ok (t, ts))
    (nb : Nat) (hnb : g < nb) (h0 : w0.heap.size ≤ nb) (hV : ∃ d, IsX (fun b => nb ≤ b) W d (tv k p n N s) t) :
    bodyPost Tryz.prog fn (Got r E (fun _ w' v t => TmV w0 w' v t) w S) Exit.ret a (set5w W g k p n N s) := by
  refine bodyPost_ret (v := tv k p n N s) (res_term hres hp (set5 HB _ _ _ _ _)) hd ⟨?_, ?_⟩
  · exact ((((hG.set_new hg 0 _).set_new hg 1 _).set_new hg 2 _).set_new hg 3 _).set_new hg 4 _
  · rw [hS]
    obtain ⟨d, hX⟩ := hV
    refine ⟨⟨_, rfl, d, hX.move fun b hb hl => ⟨Nat.le_trans h0 hb, set5w_other (by omega)⟩⟩, ?_⟩
    have hrg : r < g := by omega
    exact ((((hR.set_new hrg 0 _).set_new hrg 1 _).set_new hrg 2 _).set_new hrg 3 _).set_new hrg 4 _
theorem fin_t {fn : Func} {i : Nat} (hres : fn.results = #[ResultVar.cell i 39]) {a : Act} (hd : a.defers = []) {r E g : Nat} {w0 w Wf : World} {ts : Ts} {k N : Int} {p n : ByteArray} {s : Value} {t : Tm} {S : Res Tm} {T : TypeId} {f : Nat × Nat}
    (hp : a.tmps[i]?.getD undef = .pointer (some ⟨g, 0, none⟩)) (HB : Wf.heap[g]? = some (.cells #[.int .i64 k, .string p, .string n, .int .i64 N, s] T f)) (hG : Rg r w Wf) (hR : Rd r E Wf ts) (hS : S = .ok (t, ts)) (hV : TmV w0 Wf (tv k p n N s) t) :
    bodyPost Tryz.prog fn (Got r E (fun _ w' v t => TmV w0 w' v t) w S) Exit.ret a Wf := by
  refine bodyPost_ret (v := tv k p n N s) (res_term hres hp HB) hd ⟨hG, ?_⟩
  rw [hS]
  exact ⟨⟨_, rfl, hV⟩, hR⟩
theorem set5w_size (W : World) (g : Nat) (k : Int) (p n : ByteArray) (N : Int) (s : Value) : (set5w W g k p n N s).heap.size = W.heap.size := by simp [set5w, World.setCell]
theorem Rg.set5w {r g : Nat} {w W : World} (h : Rg r w W) (hg : w.heap.size ≤ g) (k : Int) (p n : ByteArray) (N : Int) (s : Value) : Rg r w (set5w W g k p n N s) :=
  ((((h.set_new hg 0 _).set_new hg 1 _).set_new hg 2 _).set_new hg 3 _).set_new hg 4 _
theorem Rd.set5w {r E g : Nat} {W : World} {ts : Ts} (h : Rd r E W ts) (hg : r < g) (k : Int) (p n : ByteArray) (N : Int) (s : Value) : Rd r E (set5w W g k p n N s) ts :=
  ((((h.set_new hg 0 _).set_new hg 1 _).set_new hg 2 _).set_new hg 3 _).set_new hg 4 _
theorem set5w_box {W : World} {g : Nat} {c0 c1 c2 c3 c4 : Value} {T : TypeId} {f : Nat × Nat} (h : W.heap[g]? = some (.cells #[c0, c1, c2, c3, c4] T f)) (k : Int) (p n : ByteArray) (N : Int) (s : Value) : (set5w W g k p n N s).heap[g]? = some (.cells #[.int .i64 k, .string p, .string n, .int .i64 N, s] T f) := set5 h _ _ _ _ _
/-- The box of a result is written, and a new block is laid: what was there. -/
theorem set5a_other {W : World} {g : Nat} {k N : Int} {p n : ByteArray} {s : Value} {o : Obj} {b : Nat} (hne : b ≠ g) (hb : b < W.heap.size) : ((set5w W g k p n N s).alloc o).heap[b]? = W.heap[b]? := by
  rw [Below.heap_alloc _ _ _ (by rw [set5w_size]; exact hb), set5w_other hne]
theorem set5a_new (W : World) (g : Nat) (k N : Int) (p n : ByteArray) (s : Value) (o : Obj) : ((set5w W g k p n N s).alloc o).heap[W.heap.size]? = some o := by
  have h := hb_new (set5w W g k p n N s) o
  rw [set5w_size] at h
  exact h
/-- Two terms in a block. -/
theorem SlG.two {X : Nat → Prop} {w : World} {b c : Nat} {k1 N1 k2 N2 : Int} {p1 n1 p2 n2 : ByteArray} {s1 s2 : Value} {t1 t2 : Tm} {T : TypeId} {f : Nat × Nat} (hX : X b)
    (hb : w.heap[b]? = some (.cells #[.int .i64 k1, .string p1, .string n1, .int .i64 N1, s1, .int .i64 k2, .string p2, .string n2, .int .i64 N2, s2] T f))
    (h1 : ∃ d, IsX X w d (tv k1 p1 n1 N1 s1) t1) (h2 : ∃ d, IsX X w d (tv k2 p2 n2 N2 s2) t2) : SlG termK X w (.slice (some ⟨b, 0, none⟩) 2 c) [t1, t2] := by
  obtain ⟨d1, h1⟩ := h1
  obtain ⟨d2, h2⟩ := h2
  refine ⟨_, _, rfl, fun i a ha => ?_⟩
  match i, ha with
  | 0, ha =>
    obtain rfl : t1 = a := by simpa using ha
    refine ⟨b, 0, _, rfl, hX, fun j u hu => ?_, _, _, _, _, _, d1, rfl, h1⟩
    have hj : j < 5 := by have := (List.getElem?_eq_some_iff.1 hu).1; simpa using this
    have e : 0 + 0 * termK.size + j = j := by omega
    rw [e, hb_cell hb, ← hu]
    match j, hj with
    | 0, _ => rfl
    | 1, _ => rfl
    | 2, _ => rfl
    | 3, _ => rfl
    | 4, _ => rfl
  | 1, ha =>
    obtain rfl : t2 = a := by simpa using ha
    refine ⟨b, 0, _, rfl, hX, fun j u hu => ?_, _, _, _, _, _, d2, rfl, h2⟩
    have hj : j < 5 := by have := (List.getElem?_eq_some_iff.1 hu).1; simpa using this
    have e : 0 + 1 * termK.size + j = 5 + j := by show 0 + 1 * 5 + j = 5 + j; omega
    rw [e, hb_cell hb, ← hu]
    match j, hj with
    | 0, _ => rfl
    | 1, _ => rfl
    | 2, _ => rfl
    | 3, _ => rfl
    | 4, _ => rfl
  | i + 2, ha => simp at ha
set_option maxRecDepth 100000 in
theorem constructor_t (kind : Int) (p : ByteArray) (hp : p.size ≤ 4194304) (r E : Nat) (one : Ts → Res Tm) (n : Nat) (cap : Array Value) (w : World) (ts : Ts) (hR : Rd r E w ts) (hm : Mono one) (hcf : ∀ W, (callFunc n cap).run Tryz.prog W = .ok (.enter n cap) W) (HC : OneT r E one n cap w) :
    Calls Tryz.prog 75 #[rp r, .int .i64 kind, .string p, .func (.func n) #[] cap] w (Got r E TmV w (conP E kind p one ts)) := by
  have HC := Lib.hid HC
  have HR0 := Lib.hid hR
  have hrl := hR.lt
  have HG0 : RowKit.Hid (Rg r w w) := Lib.hid (Rg.refl r w)
  obtain ⟨S, hS⟩ : ∃ S, S = conP E kind p one ts := ⟨_, rfl⟩
  have HS0 := Lib.hid hS
  rw [← hS]
  unfold conP at HS0
  clear hR hS
  go_enter Tryz.func75, Tryz.ntmps75
  go_wp2_with (first
    | (go_at_call 66; (with_reducible refine (take_st r E 2 _ (by decide) _ (by first | exact HR0.out | exact HR0.out.alloc _ | exact (HR0.out.alloc _).alloc _ | exact ((HR0.out.alloc _).alloc _).alloc _ | exact HR0.out.upto (fun _ _ _ => rfl) | exact (HR0.out.alloc _).upto (fun _ _ _ => rfl))).mono ?_); rintro e w1 h1; rcases h1.step HS0.out with ⟨v1, a1, ts1, rfl, hV, hR, hg, hS, hx⟩ | ⟨y, rfl, hg, hSE⟩; rotate_left; (have hGE : Rg r w w1 := (by first | exact HG0.out.trans hg | exact (HG0.out.alloc _).trans hg | exact ((HG0.out.alloc _).alloc _).trans hg | exact (((HG0.out.alloc _).alloc _).alloc _).trans hg | exact HG0.out.drew.trans hg | exact (HG0.out.alloc _).drew.trans hg)); rotate_left; (obtain ⟨rfl, hst1⟩ := hV); (have HR1 := Lib.hid hR; have HG1 : RowKit.Hid (Rg r w w1) := Lib.hid (by first | exact HG0.out.trans hg | exact (HG0.out.alloc _).trans hg | exact ((HG0.out.alloc _).alloc _).trans hg | exact (((HG0.out.alloc _).alloc _).alloc _).trans hg | exact HG0.out.drew.trans hg | exact (HG0.out.alloc _).drew.trans hg); have HS1 := Lib.hid hS; have HX1 := Lib.hid hx; have HD1 := Lib.hid hg; clear hR hg hS hx); (have HBr1 := Lib.hid (HD1.out.keep (hb_new _ _) (by omega))); (have hz1 := HD1.out.size; rw [World.size_alloc] at hz1))
    | (go_at_call 79; (with_reducible refine (held_t r E one n cap _ _ (by first | exact HR1.out | exact HR1.out.alloc _ | exact (HR1.out.alloc _).alloc _ | exact ((HR1.out.alloc _).alloc _).alloc _ | exact HR1.out.upto (fun _ _ _ => rfl) | exact (HR1.out.alloc _).upto (fun _ _ _ => rfl)) hm hcf (HC.out.at (by first | exact HG1.out | exact HG1.out.alloc _ | exact (HG1.out.alloc _).alloc _))).mono ?_); rintro e w2 h2; rcases h2.step HS1.out with ⟨v2, a2, ts2, rfl, hV, hR, hg, hS, hx⟩ | ⟨y, rfl, hg, hSE⟩; rotate_left; (have hGE : Rg r w w2 := (by first | exact HG1.out.trans hg | exact (HG1.out.alloc _).trans hg | exact ((HG1.out.alloc _).alloc _).trans hg | exact (((HG1.out.alloc _).alloc _).alloc _).trans hg | exact HG1.out.drew.trans hg | exact (HG1.out.alloc _).drew.trans hg)); rotate_left; (obtain ⟨q2, c2, hv⟩ := hV.1.shape; subst hv; have HV2 := Lib.hid hV; have HL2 := Lib.hid hV.2); (have HR2 := Lib.hid hR; have HG2 : RowKit.Hid (Rg r w w2) := Lib.hid (by first | exact HG1.out.trans hg | exact (HG1.out.alloc _).trans hg | exact ((HG1.out.alloc _).alloc _).trans hg | exact (((HG1.out.alloc _).alloc _).alloc _).trans hg | exact HG1.out.drew.trans hg | exact (HG1.out.alloc _).drew.trans hg); have HS2 := Lib.hid hS; have HX2 := Lib.hid hx; have HD2 := Lib.hid hg; clear hR hg hS hx hV); (have HBr2 := Lib.hid (HD2.out.keep HBr1.out (by omega)); obtain ⟨x0, x1, x2, x3, x4, y0, y1, y2, y3, y4⟩ := box5 HBr2.out)))
  all_goals first | exact ⟨rfl, hGE, rfl⟩ | exact ⟨rfl, hGE, by rw [hSE]⟩ | skip
  exact fin5 (w0 := w) rfl rfl rfl HBr2.out (Nat.le_refl _) HG2.out hrl HR2.out HS2.out w1.heap.size hz1 (by omega) (kids_of HV2.out.sl (by have := HV2.out.2; omega) hp hst1)
set_option maxRecDepth 100000 in
set_option maxHeartbeats 1000000 in
theorem typeAtom_t (r E : Nat) (one : Ts → Res Tm) (n : Nat) (cap : Array Value) (w : World) (ts : Ts) (hR : Rd r E w ts) (hm : Mono one) (hcf : ∀ W, (callFunc n cap).run Tryz.prog W = .ok (.enter n cap) W) (HC : OneT r E one n cap w) :
    Calls Tryz.prog 44 #[rp r, .func (.func n) #[] cap] w (Got r E TmV w (tyAtomP E one ts)) := by
  have HC := Lib.hid HC
  have HR0 := Lib.hid hR
  have hrl := hR.lt
  have HG0 : RowKit.Hid (Rg r w w) := Lib.hid (Rg.refl r w)
  obtain ⟨S, hS⟩ : ∃ S, S = tyAtomP E one ts := ⟨_, rfl⟩
  have HS0 := Lib.hid hS
  rw [← hS]
  unfold tyAtomP at HS0
  clear hR hS
  have HN0 := Lib.hid (fun W hW => next_any r E ts W hW)
  have hnx : (nx E ts).1 = (nx 0 ts).1 := by cases ts <;> rfl
  unfold tokV at HN0
  unfold kd at HS0
  rw [← hnx] at HS0
  clear hnx
  generalize nx E ts = T at *
  obtain ⟨⟨nk, nz, nn⟩, na⟩ := T
  have HN : RowKit.Hid (∀ W, Rd r E W ts → Calls Tryz.prog 59 #[rp r] W fun e w' => e = .returned (.agg #[.int .i64 nk, .string nz, .int .i64 nn, .int .i64 (na : Nat)]) ∧ Below W.heap.size W w') := HN0
  clear HN0
  have hf0 := fld0 nk nn na nz
  by_cases h3 : nk = 3
  · have h := HS0.out
    rw [if_pos h3] at h
    have HSa := Lib.hid h
    subst h3
    clear HS0 h
    have HS0 := HSa
    go_enter Tryz.func44, Tryz.ntmps44
    go_wp2_with (first
      | (go_at_call 59; (with_reducible refine (HN.out _ (by first | exact HR0.out | exact HR0.out.alloc _ | exact (HR0.out.alloc _).alloc _ | exact ((HR0.out.alloc _).alloc _).alloc _ | exact HR0.out.upto (fun _ _ _ => rfl) | exact (HR0.out.alloc _).upto (fun _ _ _ => rfl))).mono ?_); rintro e w1 ⟨rfl, hb⟩; have HG1 : RowKit.Hid (Rg r w w1) := Lib.hid (by first | exact HG0.out.trans (Rg.of_below hb) | exact (HG0.out.alloc _).trans (Rg.of_below hb) | exact ((HG0.out.alloc _).alloc _).trans (Rg.of_below hb)); have HR1 : RowKit.Hid (Rd r E w1 ts) := Lib.hid (by first | exact HR0.out.below hb | exact (HR0.out.alloc _).below hb | exact ((HR0.out.alloc _).alloc _).below hb); have HD1 := Lib.hid (Rg.of_below (r := r) hb); have HS1 := HS0; (have HBr1 := Lib.hid (HD1.out.keep (hb_new _ _) (by omega))); (have hz1 := HD1.out.size; rw [World.size_alloc] at hz1); clear hb)
      | (go_at_call 66; (with_reducible refine (take_st r E 3 _ (by decide) _ (by first | exact HR1.out | exact HR1.out.alloc _ | exact (HR1.out.alloc _).alloc _ | exact ((HR1.out.alloc _).alloc _).alloc _ | exact HR1.out.upto (fun _ _ _ => rfl) | exact (HR1.out.alloc _).upto (fun _ _ _ => rfl))).mono ?_); rintro e w2 h2; rcases h2.step HS1.out with ⟨v2, a2, ts2, rfl, hV, hR, hg, hS, hx⟩ | ⟨y, rfl, hg, hSE⟩; rotate_left; (have hGE : Rg r w w2 := (by first | exact HG1.out.trans hg | exact (HG1.out.alloc _).trans hg | exact ((HG1.out.alloc _).alloc _).trans hg | exact (((HG1.out.alloc _).alloc _).alloc _).trans hg | exact HG1.out.drew.trans hg | exact (HG1.out.alloc _).drew.trans hg)); rotate_left; (obtain ⟨rfl, hst2⟩ := hV); (have HR2 := Lib.hid hR; have HG2 : RowKit.Hid (Rg r w w2) := Lib.hid (by first | exact HG1.out.trans hg | exact (HG1.out.alloc _).trans hg | exact ((HG1.out.alloc _).alloc _).trans hg | exact (((HG1.out.alloc _).alloc _).alloc _).trans hg | exact HG1.out.drew.trans hg | exact (HG1.out.alloc _).drew.trans hg); have HS2 := Lib.hid hS; have HX2 := Lib.hid hx; have HD2 := Lib.hid hg; clear hR hg hS hx); (have HBr2 := Lib.hid (HD2.out.keep HBr1.out (by omega)); obtain ⟨x0, x1, x2, x3, x4, y0, y1, y2, y3, y4⟩ := box5 HBr2.out)))
    all_goals first | exact ⟨rfl, hGE, rfl⟩ | exact ⟨rfl, hGE, by rw [hSE]⟩ | skip
    have hz2 := HD2.out.size
    exact fin5 (w0 := w) rfl rfl rfl HBr2.out (Nat.le_refl _) HG2.out hrl HR2.out HS2.out w2.heap.size (by omega) (by omega) ⟨_, leafX _ _ _ _ _ _ (by decide) hst2⟩
  by_cases h2 : nk = 2
  · have h := HS0.out
    rw [if_neg h3, if_pos h2] at h
    have HSa := Lib.hid h
    subst h2
    clear HS0 h h3
    have HS0 := HSa
    go_enter Tryz.func44, Tryz.ntmps44
    go_wp2_with (first
      | (go_at_call 59; (with_reducible refine (HN.out _ (by first | exact HR0.out | exact HR0.out.alloc _ | exact (HR0.out.alloc _).alloc _ | exact ((HR0.out.alloc _).alloc _).alloc _ | exact HR0.out.upto (fun _ _ _ => rfl) | exact (HR0.out.alloc _).upto (fun _ _ _ => rfl))).mono ?_); rintro e w1 ⟨rfl, hb⟩; have HG1 : RowKit.Hid (Rg r w w1) := Lib.hid (by first | exact HG0.out.trans (Rg.of_below hb) | exact (HG0.out.alloc _).trans (Rg.of_below hb) | exact ((HG0.out.alloc _).alloc _).trans (Rg.of_below hb)); have HR1 : RowKit.Hid (Rd r E w1 ts) := Lib.hid (by first | exact HR0.out.below hb | exact (HR0.out.alloc _).below hb | exact ((HR0.out.alloc _).alloc _).below hb); have HD1 := Lib.hid (Rg.of_below (r := r) hb); have HS1 := HS0; (have HBr1 := Lib.hid (HD1.out.keep (hb_new _ _) (by omega))); (have hz1 := HD1.out.size; rw [World.size_alloc] at hz1); clear hb)
      | (go_at_call 66; (with_reducible refine (take_st r E 2 _ (by decide) _ (by first | exact HR1.out | exact HR1.out.alloc _ | exact (HR1.out.alloc _).alloc _ | exact ((HR1.out.alloc _).alloc _).alloc _ | exact HR1.out.upto (fun _ _ _ => rfl) | exact (HR1.out.alloc _).upto (fun _ _ _ => rfl))).mono ?_); rintro e w2 h2; rcases h2.step HS1.out with ⟨v2, a2, ts2, rfl, hV, hR, hg, hS, hx⟩ | ⟨y, rfl, hg, hSE⟩; rotate_left; (have hGE : Rg r w w2 := (by first | exact HG1.out.trans hg | exact (HG1.out.alloc _).trans hg | exact ((HG1.out.alloc _).alloc _).trans hg | exact (((HG1.out.alloc _).alloc _).alloc _).trans hg | exact HG1.out.drew.trans hg | exact (HG1.out.alloc _).drew.trans hg)); rotate_left; (obtain ⟨rfl, hst2⟩ := hV); (have HR2 := Lib.hid hR; have HG2 : RowKit.Hid (Rg r w w2) := Lib.hid (by first | exact HG1.out.trans hg | exact (HG1.out.alloc _).trans hg | exact ((HG1.out.alloc _).alloc _).trans hg | exact (((HG1.out.alloc _).alloc _).alloc _).trans hg | exact HG1.out.drew.trans hg | exact (HG1.out.alloc _).drew.trans hg); have HS2 := Lib.hid hS; have HX2 := Lib.hid hx; have HD2 := Lib.hid hg; clear hR hg hS hx); (have HBr2 := Lib.hid (HD2.out.keep HBr1.out (by omega))))
      | (go_at_call 34; (with_reducible refine (sign_any r E sDot _ _ (by first | exact HR2.out | exact HR2.out.alloc _ | exact (HR2.out.alloc _).alloc _ | exact ((HR2.out.alloc _).alloc _).alloc _ | exact HR2.out.upto (fun _ _ _ => rfl) | exact (HR2.out.alloc _).upto (fun _ _ _ => rfl))).mono ?_); rintro e w3 h3; rcases h3.step HS2.out with ⟨v3, a3, ts3, rfl, hV, hR, hg, hS, hx⟩ | ⟨y, rfl, hg, hSE⟩; rotate_left; (have hGE : Rg r w w3 := (by first | exact HG2.out.trans hg | exact (HG2.out.alloc _).trans hg | exact ((HG2.out.alloc _).alloc _).trans hg | exact (((HG2.out.alloc _).alloc _).alloc _).trans hg | exact HG2.out.drew.trans hg | exact (HG2.out.alloc _).drew.trans hg)); rotate_left; (obtain rfl := hV); (have HR3 := Lib.hid hR; have HG3 : RowKit.Hid (Rg r w w3) := Lib.hid (by first | exact HG2.out.trans hg | exact (HG2.out.alloc _).trans hg | exact ((HG2.out.alloc _).alloc _).trans hg | exact (((HG2.out.alloc _).alloc _).alloc _).trans hg | exact HG2.out.drew.trans hg | exact (HG2.out.alloc _).drew.trans hg); have HS3 := Lib.hid hS; have HX3 := Lib.hid hx; have HD3 := Lib.hid hg; clear hR hg hS hx); (have HBr3 := Lib.hid (HD3.out.keep HBr2.out (by omega))); (have HS3b := HS3; unfold tyConP at HS3b; clear HS3; have HS3 := HS3b))
      | (go_at_call 66; (with_reducible refine (take_st r E 1 _ (by decide) _ (by first | exact HR3.out | exact HR3.out.alloc _ | exact (HR3.out.alloc _).alloc _ | exact ((HR3.out.alloc _).alloc _).alloc _ | exact HR3.out.upto (fun _ _ _ => rfl) | exact (HR3.out.alloc _).upto (fun _ _ _ => rfl))).mono ?_); rintro e w4 h4; rcases h4.step HS3.out with ⟨v4, a4, ts4, rfl, hV, hR, hg, hS, hx⟩ | ⟨y, rfl, hg, hSE⟩; rotate_left; (have hGE : Rg r w w4 := (by first | exact HG3.out.trans hg | exact (HG3.out.alloc _).trans hg | exact ((HG3.out.alloc _).alloc _).trans hg | exact (((HG3.out.alloc _).alloc _).alloc _).trans hg | exact HG3.out.drew.trans hg | exact (HG3.out.alloc _).drew.trans hg)); rotate_left; (obtain ⟨rfl, hst4⟩ := hV); (have HR4 := Lib.hid hR; have HG4 : RowKit.Hid (Rg r w w4) := Lib.hid (by first | exact HG3.out.trans hg | exact (HG3.out.alloc _).trans hg | exact ((HG3.out.alloc _).alloc _).trans hg | exact (((HG3.out.alloc _).alloc _).alloc _).trans hg | exact HG3.out.drew.trans hg | exact (HG3.out.alloc _).drew.trans hg); have HS4 := Lib.hid hS; have HX4 := Lib.hid hx; have HD4 := Lib.hid hg; clear hR hg hS hx); (have HBr4 := Lib.hid (HD4.out.keep HBr3.out (by omega))); (have hz4 := HG4.out.size; have hz4b := HD2.out.size; have hz4c := HD3.out.size; have hz4d := HD4.out.size))
      | (go_at_call 79; (with_reducible refine (held_t r E one n cap _ _ (by first | exact HR4.out | exact HR4.out.alloc _ | exact (HR4.out.alloc _).alloc _ | exact ((HR4.out.alloc _).alloc _).alloc _ | exact HR4.out.upto (fun _ _ _ => rfl) | exact (HR4.out.alloc _).upto (fun _ _ _ => rfl)) hm hcf (HC.out.at (by first | exact HG4.out | exact HG4.out.alloc _ | exact (HG4.out.alloc _).alloc _))).mono ?_); rintro e w5 h5; rcases h5.step HS4.out with ⟨v5, a5, ts5, rfl, hV, hR, hg, hS, hx⟩ | ⟨y, rfl, hg, hSE⟩; rotate_left; (have hGE : Rg r w w5 := (by first | exact HG4.out.trans hg | exact (HG4.out.alloc _).trans hg | exact ((HG4.out.alloc _).alloc _).trans hg | exact (((HG4.out.alloc _).alloc _).alloc _).trans hg | exact HG4.out.drew.trans hg | exact (HG4.out.alloc _).drew.trans hg)); rotate_left; (obtain ⟨q5, c5, hv⟩ := hV.1.shape; subst hv; have HV5 := Lib.hid hV; have HL5 := Lib.hid hV.2); (have HR5 := Lib.hid hR; have HG5 : RowKit.Hid (Rg r w w5) := Lib.hid (by first | exact HG4.out.trans hg | exact (HG4.out.alloc _).trans hg | exact ((HG4.out.alloc _).alloc _).trans hg | exact (((HG4.out.alloc _).alloc _).alloc _).trans hg | exact HG4.out.drew.trans hg | exact (HG4.out.alloc _).drew.trans hg); have HS5 := Lib.hid hS; have HX5 := Lib.hid hx; have HD5 := Lib.hid hg; clear hR hg hS hx hV); (have HBr5 := Lib.hid (HD5.out.keep HBr4.out (by omega)); obtain ⟨x0, x1, x2, x3, x4, y0, y1, y2, y3, y4⟩ := box5 HBr5.out)))
    all_goals first | exact ⟨rfl, hGE, rfl⟩ | exact ⟨rfl, hGE, by rw [hSE]⟩ | skip
    exact fin5 (w0 := w) rfl rfl rfl HBr5.out (Nat.le_refl _) HG5.out hrl HR5.out HS5.out w4.heap.size (by omega) (by omega) (kids_of HV5.out.sl (by have := HV5.out.2; omega) hst2 hst4)
  by_cases h1 : nk = 1
  · have h := HS0.out
    rw [if_neg h3, if_neg h2, if_pos h1] at h
    unfold tyConP at h
    have HSa := Lib.hid h
    subst h1
    clear HS0 h h3 h2
    have HS0 := HSa
    go_enter Tryz.func44, Tryz.ntmps44
    go_wp2_with (first
      | (go_at_call 59; (with_reducible refine (HN.out _ (by first | exact HR0.out | exact HR0.out.alloc _ | exact (HR0.out.alloc _).alloc _ | exact ((HR0.out.alloc _).alloc _).alloc _ | exact HR0.out.upto (fun _ _ _ => rfl) | exact (HR0.out.alloc _).upto (fun _ _ _ => rfl))).mono ?_); rintro e w1 ⟨rfl, hb⟩; have HG1 : RowKit.Hid (Rg r w w1) := Lib.hid (by first | exact HG0.out.trans (Rg.of_below hb) | exact (HG0.out.alloc _).trans (Rg.of_below hb) | exact ((HG0.out.alloc _).alloc _).trans (Rg.of_below hb)); have HR1 : RowKit.Hid (Rd r E w1 ts) := Lib.hid (by first | exact HR0.out.below hb | exact (HR0.out.alloc _).below hb | exact ((HR0.out.alloc _).alloc _).below hb); have HD1 := Lib.hid (Rg.of_below (r := r) hb); have HS1 := HS0; (have HBr1 := Lib.hid (HD1.out.keep (hb_new _ _) (by omega))); (have hz1 := HD1.out.size; rw [World.size_alloc] at hz1); clear hb)
      | (go_at_call 66; (with_reducible refine (take_st r E 1 _ (by decide) _ (by first | exact HR1.out | exact HR1.out.alloc _ | exact (HR1.out.alloc _).alloc _ | exact ((HR1.out.alloc _).alloc _).alloc _ | exact HR1.out.upto (fun _ _ _ => rfl) | exact (HR1.out.alloc _).upto (fun _ _ _ => rfl))).mono ?_); rintro e w2 h2; rcases h2.step HS1.out with ⟨v2, a2, ts2, rfl, hV, hR, hg, hS, hx⟩ | ⟨y, rfl, hg, hSE⟩; rotate_left; (have hGE : Rg r w w2 := (by first | exact HG1.out.trans hg | exact (HG1.out.alloc _).trans hg | exact ((HG1.out.alloc _).alloc _).trans hg | exact (((HG1.out.alloc _).alloc _).alloc _).trans hg | exact HG1.out.drew.trans hg | exact (HG1.out.alloc _).drew.trans hg)); rotate_left; (obtain ⟨rfl, hst2⟩ := hV); (have HR2 := Lib.hid hR; have HG2 : RowKit.Hid (Rg r w w2) := Lib.hid (by first | exact HG1.out.trans hg | exact (HG1.out.alloc _).trans hg | exact ((HG1.out.alloc _).alloc _).trans hg | exact (((HG1.out.alloc _).alloc _).alloc _).trans hg | exact HG1.out.drew.trans hg | exact (HG1.out.alloc _).drew.trans hg); have HS2 := Lib.hid hS; have HX2 := Lib.hid hx; have HD2 := Lib.hid hg; clear hR hg hS hx); (have HBr2 := Lib.hid (HD2.out.keep HBr1.out (by omega))); (have hz2 := HD2.out.size))
      | (go_at_call 79; (with_reducible refine (held_t r E one n cap _ _ (by first | exact HR2.out | exact HR2.out.alloc _ | exact (HR2.out.alloc _).alloc _ | exact ((HR2.out.alloc _).alloc _).alloc _ | exact HR2.out.upto (fun _ _ _ => rfl) | exact (HR2.out.alloc _).upto (fun _ _ _ => rfl)) hm hcf (HC.out.at (by first | exact HG2.out | exact HG2.out.alloc _ | exact (HG2.out.alloc _).alloc _))).mono ?_); rintro e w3 h3; rcases h3.step HS2.out with ⟨v3, a3, ts3, rfl, hV, hR, hg, hS, hx⟩ | ⟨y, rfl, hg, hSE⟩; rotate_left; (have hGE : Rg r w w3 := (by first | exact HG2.out.trans hg | exact (HG2.out.alloc _).trans hg | exact ((HG2.out.alloc _).alloc _).trans hg | exact (((HG2.out.alloc _).alloc _).alloc _).trans hg | exact HG2.out.drew.trans hg | exact (HG2.out.alloc _).drew.trans hg)); rotate_left; (obtain ⟨q3, c3, hv⟩ := hV.1.shape; subst hv; have HV3 := Lib.hid hV; have HL3 := Lib.hid hV.2); (have HR3 := Lib.hid hR; have HG3 : RowKit.Hid (Rg r w w3) := Lib.hid (by first | exact HG2.out.trans hg | exact (HG2.out.alloc _).trans hg | exact ((HG2.out.alloc _).alloc _).trans hg | exact (((HG2.out.alloc _).alloc _).alloc _).trans hg | exact HG2.out.drew.trans hg | exact (HG2.out.alloc _).drew.trans hg); have HS3 := Lib.hid hS; have HX3 := Lib.hid hx; have HD3 := Lib.hid hg; clear hR hg hS hx hV); (have HBr3 := Lib.hid (HD3.out.keep HBr2.out (by omega)); obtain ⟨x0, x1, x2, x3, x4, y0, y1, y2, y3, y4⟩ := box5 HBr3.out)))
    all_goals first | exact ⟨rfl, hGE, rfl⟩ | exact ⟨rfl, hGE, by rw [hSE]⟩ | skip
    exact fin5 (w0 := w) rfl rfl rfl HBr3.out (Nat.le_refl _) HG3.out hrl HR3.out HS3.out w2.heap.size (by omega) (by omega) (kids_of HV3.out.sl (by have := HV3.out.2; omega) (by decide) hst2)
  have h := HS0.out
  rw [if_neg h3, if_neg h2, if_neg h1] at h
  have HSa := Lib.hid h
  have d3 : (nk == 3) = false := by simpa using h3
  have d2 : (nk == 2) = false := by simpa using h2
  have d1 : (nk == 1) = false := by simpa using h1
  clear HS0 h h3 h2 h1
  have HS0 := HSa
  go_enter Tryz.func44, Tryz.ntmps44
  go_wp2_with (first
    | (go_at_call 59; (with_reducible refine (HN.out _ (by first | exact HR0.out | exact HR0.out.alloc _ | exact (HR0.out.alloc _).alloc _ | exact ((HR0.out.alloc _).alloc _).alloc _ | exact HR0.out.upto (fun _ _ _ => rfl) | exact (HR0.out.alloc _).upto (fun _ _ _ => rfl))).mono ?_); rintro e w1 ⟨rfl, hb⟩; have HG1 : RowKit.Hid (Rg r w w1) := Lib.hid (by first | exact HG0.out.trans (Rg.of_below hb) | exact (HG0.out.alloc _).trans (Rg.of_below hb) | exact ((HG0.out.alloc _).alloc _).trans (Rg.of_below hb)); have HR1 : RowKit.Hid (Rd r E w1 ts) := Lib.hid (by first | exact HR0.out.below hb | exact (HR0.out.alloc _).below hb | exact ((HR0.out.alloc _).alloc _).below hb); have HD1 := Lib.hid (Rg.of_below (r := r) hb); have HS1 := HS0; (have HBr1 := Lib.hid (HD1.out.keep (hb_new _ _) (by omega))); (have hz1 := HD1.out.size; rw [World.size_alloc] at hz1); clear hb)
    | (go_at_call 76; (with_reducible refine (opened_t r E one n cap _ _ (by first | exact HR1.out | exact HR1.out.alloc _ | exact (HR1.out.alloc _).alloc _ | exact ((HR1.out.alloc _).alloc _).alloc _ | exact HR1.out.upto (fun _ _ _ => rfl) | exact (HR1.out.alloc _).upto (fun _ _ _ => rfl)) hm hcf (HC.out.at (by first | exact HG1.out | exact HG1.out.alloc _ | exact (HG1.out.alloc _).alloc _))).mono ?_); rintro e w2 h2; rcases h2.step HS1.out with ⟨v2, a2, ts2, rfl, hV, hR, hg, hS, hx⟩ | ⟨y, rfl, hg, hSE⟩; rotate_left; (have hGE : Rg r w w2 := (by first | exact HG1.out.trans hg | exact (HG1.out.alloc _).trans hg | exact ((HG1.out.alloc _).alloc _).trans hg | exact (((HG1.out.alloc _).alloc _).alloc _).trans hg | exact HG1.out.drew.trans hg | exact (HG1.out.alloc _).drew.trans hg)); rotate_left; (obtain ⟨q2, c2, hv⟩ := hV.1.shape; subst hv; have HV2 := Lib.hid hV; have HL2 := Lib.hid hV.2); (have HR2 := Lib.hid hR; have HG2 : RowKit.Hid (Rg r w w2) := Lib.hid (by first | exact HG1.out.trans hg | exact (HG1.out.alloc _).trans hg | exact ((HG1.out.alloc _).alloc _).trans hg | exact (((HG1.out.alloc _).alloc _).alloc _).trans hg | exact HG1.out.drew.trans hg | exact (HG1.out.alloc _).drew.trans hg); have HS2 := Lib.hid hS; have HX2 := Lib.hid hx; have HD2 := Lib.hid hg; clear hR hg hS hx hV); (have HBr2 := Lib.hid (HD2.out.keep HBr1.out (by omega))); (have hz2 := HD2.out.size))
    | (go_at_call 78; (with_reducible refine (closed_t r E 4 _ _ w1 _ (by omega) (by omega) HV2.out _ (by first | exact HR2.out | exact HR2.out.alloc _ | exact (HR2.out.alloc _).alloc _ | exact ((HR2.out.alloc _).alloc _).alloc _ | exact HR2.out.upto (fun _ _ _ => rfl) | exact (HR2.out.alloc _).upto (fun _ _ _ => rfl))).mono ?_); rintro e w3 h3; rcases h3.step (HS2.out.trans (bnd_id _).symm) with ⟨v3, a3, ts3, rfl, hV, hR, hg, hS, hx⟩ | ⟨y, rfl, hg, hSE⟩; rotate_left; (have hGE : Rg r w w3 := (by first | exact HG2.out.trans hg | exact (HG2.out.alloc _).trans hg | exact ((HG2.out.alloc _).alloc _).trans hg | exact (((HG2.out.alloc _).alloc _).alloc _).trans hg | exact HG2.out.drew.trans hg | exact (HG2.out.alloc _).drew.trans hg)); rotate_left; (obtain ⟨k3, p3, n3, N3, q3, l3, c3, rfl⟩ := hV.shape; have HV3 := Lib.hid hV); (have HR3 := Lib.hid hR; have HG3 : RowKit.Hid (Rg r w w3) := Lib.hid (by first | exact HG2.out.trans hg | exact (HG2.out.alloc _).trans hg | exact ((HG2.out.alloc _).alloc _).trans hg | exact (((HG2.out.alloc _).alloc _).alloc _).trans hg | exact HG2.out.drew.trans hg | exact (HG2.out.alloc _).drew.trans hg); have HS3 := Lib.hid hS; have HX3 := Lib.hid hx; have HD3 := Lib.hid hg; clear hR hg hS hx hV); (have HBr3 := Lib.hid (HD3.out.keep HBr2.out (by omega)); obtain ⟨x0, x1, x2, x3, x4, y0, y1, y2, y3, y4⟩ := box5 HBr3.out)))
  all_goals first | exact ⟨rfl, hGE, rfl⟩ | exact ⟨rfl, hGE, by rw [hSE]⟩ | skip
  exact fin5 (w0 := w) rfl rfl rfl HBr3.out (Nat.le_refl _) HG3.out hrl HR3.out HS3.out w1.heap.size (by omega) (by omega) HV3.out
end Go.Proofs.YtlbnaddgdgbckaaGreatDoor
