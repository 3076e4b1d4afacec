/- Texts in a row: Lb Lc Ld. -/
import Derived.Test.YtncebhddcokkoaaDoorZU25
/- A name's type: the one that it has, or a new one. -/
namespace Go.Proofs.YtncebhddcokkoaaDoor
open Go.RowKit
set_option linter.unusedSimpArgs false
set_option linter.unusedVariables false
/-- A store that terms come into. -/
structure IS (c : Cfg) (bx M : Nat) (X : Nat → Prop) (l : List Inf) (ns : List ByteArray) (ρ : ByteArray → Option Nat) (w : World) : Prop where
  st : StA X c (Abs.flat l) w
  box : w.heap[bx]? = some (.cells #[.pointer (some ⟨c.B, 0, none⟩)] 68 (0, 0))
  map : PMap w M ns.length fun n => (ρ n).map Int.ofNat
  tab : Abs.Tab l ns ρ
  wf : Abs.Wf l
  kd : ∀ (i : Nat) (x : Inf), l[i]? = some x → x.k ≠ 5
  b0 : c.b0 ≤ M
  bB : bx ≠ c.B
  sm : (∀ x ∈ l, x.p.size ≤ maxLen ∧ x.n.size ≤ maxLen ∧ x.kids.length ≤ 50000) ∧ ∀ n ∈ ns, n.size ≤ maxLen
/-- It may go on. -/
structure Cf (c : Cfg) : Prop where
  full : c.full = false
  bud : (100000 : Int) ≤ c.bud
  wks : 0 ≤ c.wks
theorem IS.sz {c : Cfg} {bx M : Nat} {X : Nat → Prop} {l : List Inf} {ns : List ByteArray} {ρ : ByteArray → Option Nat} {w : World} (h : IS c bx M X l ns ρ w) : c.b0 ≤ w.heap.size ∧ c.B < w.heap.size ∧ M < w.heap.size ∧ bx < w.heap.size := by
  have h1 := h.st.st.lt
  have h2 := h.map.lt
  have h3 := hb_lt h.box
  omega
theorem IS.below {c : Cfg} {bx M : Nat} {X : Nat → Prop} {l : List Inf} {ns : List ByteArray} {ρ : ByteArray → Option Nat} {w w' : World} (h : IS c bx M X l ns ρ w) (hb : Below w.heap.size w w') : IS c bx M X l ns ρ w' :=
  ⟨h.st.below hb, hb_below h.box hb (hb_lt h.box), h.map.below hb, h.tab, h.wf, h.kd, h.b0, h.bB, h.sm⟩
theorem Abs.Tab.ge {l : List Inf} {ns : List ByteArray} {ρ : ByteArray → Option Nat} (h : Abs.Tab l ns ρ) : ∀ (j : Nat) (n : ByteArray) (i : Nat), ns[j]? = some n → ρ n = some i → j ≤ i
  | 0, _, _, _, _ => Nat.zero_le _
  | j + 1, n, i, hj, hi => by
    have hlt := (List.getElem?_eq_some_iff.1 hj).1
    have hm : ns[j]? = some (ns[j]'(by omega)) := List.getElem?_eq_getElem _
    obtain ⟨i', hi'⟩ := (h.dom _).1 (List.mem_of_getElem? hm)
    have h1 := Abs.Tab.ge h j _ i' hm hi'
    have h2 := h.ord j (j + 1) _ n i' i hm hj hi' hi (Nat.lt_succ_self j)
    omega
theorem Abs.Tab.len {l : List Inf} {ns : List ByteArray} {ρ : ByteArray → Option Nat} (h : Abs.Tab l ns ρ) : ns.length ≤ l.length := by
  cases e : ns.length with
  | zero => omega
  | succ k =>
    have hm : ns[k]? = some (ns[k]'(by omega)) := List.getElem?_eq_getElem _
    obtain ⟨i, hi⟩ := (h.dom _).1 (List.mem_of_getElem? hm)
    have := h.ge k _ i hm hi
    have := h.lt hi
    omega
theorem IS.kpM {c : Cfg} {bx M : Nat} {X : Nat → Prop} {l : List Inf} {ns : List ByteArray} {ρ : ByteArray → Option Nat} {w w' : World} (h : IS c bx M X l ns ρ w) (k : Kp c w w') : PMap w' M ns.length (fun n => (ρ n).map Int.ofNat) ∧ w'.heap[bx]? = some (.cells #[.pointer (some ⟨c.B, 0, none⟩)] 68 (0, 0)) := by
  obtain ⟨es, cl, hm⟩ := h.map.heap
  obtain ⟨v, L, rk, p1, _, _⟩ := h.st.st
  have hne : M ≠ c.B := by
    intro e
    have := p1.blk
    rw [← e, hm] at this
    cases this
  refine ⟨h.map.same ?_, k.block _ _ h.box h.bB (fun cs fr e => by injection e with _ e _; exact absurd e (by decide))⟩
  rw [hm]
  exact k.block _ _ hm hne (fun cs fr e => by cases e)
/-- More than before. -/
structure Grew (l l' : List Inf) (ρ ρ' : ByteArray → Option Nat) : Prop where
  l : ∃ m, l' = l ++ m
  ρ : ∀ n i, ρ n = some i → ρ' n = some i
theorem Grew.refl (l : List Inf) (ρ : ByteArray → Option Nat) : Grew l l ρ ρ := ⟨⟨[], by simp⟩, fun _ _ h => h⟩
theorem Grew.trans {l l1 l2 : List Inf} {ρ ρ1 ρ2 : ByteArray → Option Nat} (h : Grew l l1 ρ ρ1) (k : Grew l1 l2 ρ1 ρ2) : Grew l l2 ρ ρ2 := by
  obtain ⟨m, rfl⟩ := h.l
  obtain ⟨m', rfl⟩ := k.l
  exact ⟨⟨m ++ m', by simp⟩, fun n i hn => k.ρ n i (h.ρ n i hn)⟩
theorem Grew.repr {l l' : List Inf} {ρ ρ' : ByteArray → Option Nat} (h : Grew l l' ρ ρ') {i : Nat} {t : Tm} (hr : Abs.Repr (Abs.flat l) ρ i t) : Abs.Repr (Abs.flat l') ρ' i t := by
  obtain ⟨m, rfl⟩ := h.l
  exact hr.mono h.ρ
theorem Grew.len {l l' : List Inf} {ρ ρ' : ByteArray → Option Nat} (h : Grew l l' ρ ρ') : l.length ≤ l'.length := by
  obtain ⟨m, rfl⟩ := h.l
  simp
/-- What comes of a term that comes into a store. -/
def ImpQ (c : Cfg) (bx M : Nat) (X : Nat → Prop) (l : List Inf) (ns' : List ByteArray) (ρ : ByteArray → Option Nat) (w : World) (N : Nat) (t : Tm) (e : Ending) (w' : World) : Prop :=
  ∃ (i : Nat) (l' : List Inf) (ρ' : ByteArray → Option Nat), e = .returned (.int .i64 (i : Nat)) ∧ IS c bx M X l' ns' ρ' w' ∧ KpM c M w w' ∧ Grew l l' ρ ρ' ∧ Abs.wt l' + 1 ≤ Abs.wt l + 2 * N ∧ l'.length ≤ l.length + N ∧ i < l'.length ∧ Abs.Repr (Abs.flat l') ρ' i t
theorem one_int (w : World) (i : Int) : Ints (w.alloc (.cells #[.int .i64 i] 3)) (some ⟨w.heap.size, 0, none⟩) [i] := by
  intro j y hy
  match j, hy with
  | 0, hy => obtain rfl := Option.some.inj hy; exact ⟨_, _, rfl, hb_at (hb_new _ _) 0 rfl⟩
  | j + 1, hy => simp at hy
/-- One number: is it a type's? -/
theorem has_one {c : Cfg} {A : Abs} {w : World} (h : St c A w) (hf : c.full = false) {i : Nat} (hi : i < A.l.length) :
    Calls Tryd.prog 50 #[.pointer (some ⟨c.B, 0, none⟩), .slice (some ⟨w.heap.size, 0, none⟩) 1 1] (w.alloc (.cells #[.int .i64 (i : Nat)] 3)) fun e w' => e = .returned (.bool true) ∧ Below w.heap.size w w' := by
  have hb := below_alloc w (.cells #[.int .i64 (i : Nat)] 3)
  obtain ⟨v, L, rk, p1, p2, p3⟩ := h.below hb
  have h1 := has_any c v L _ (some ⟨w.heap.size, 0, none⟩) [(i : Int)] 1 p1 (one_int w i) (by simp)
  have hl := p2.len
  refine h1.mono ?_
  rintro e w' ⟨⟨r, rfl, hr⟩, hb2⟩
  refine ⟨?_, hb.trans (hb2.mono hb.size)⟩
  rw [hr.2 ⟨hf, fun j hj => by
    obtain rfl := List.mem_singleton.1 hj
    exact ⟨Int.natCast_nonneg i, by omega⟩⟩]
theorem has_none {c : Cfg} {A : Abs} {w : World} (h : St c A w) (hf : c.full = false) :
    Calls Tryd.prog 50 #[.pointer (some ⟨c.B, 0, none⟩), .slice none 0 0] w fun e w' => e = .returned (.bool true) ∧ Below w.heap.size w w' := by
  obtain ⟨v, L, rk, p1, p2, p3⟩ := h
  have h1 := has_any c v L w none [] 0 p1 (fun j y hy => by simp at hy) (by simp)
  refine h1.mono ?_
  rintro e w' ⟨⟨r, rfl, hr⟩, hb2⟩
  refine ⟨?_, hb2⟩
  rw [hr.2 ⟨hf, fun j hj => by cases hj⟩]
set_option maxRecDepth 100000 in
set_option maxHeartbeats 1000000 in
theorem variable_any {c : Cfg} {bx M : Nat} {X : Nat → Prop} {l : List Inf} {ns : List ByteArray} {ρ : ByteArray → Option Nat} {w : World} (h : IS c bx M X l ns ρ w) (hc : Cf c) (n : ByteArray) (hn : n.size ≤ maxLen) (hl : l.length + 1 ≤ 50000) :
    Calls Tryd.prog 85 #[.pointer (some ⟨c.B, 0, none⟩), .string n, .map (some M), .func (.func 66) #[] #[.pointer (some ⟨bx, 0, none⟩)]] w (ImpQ c bx M X l (put1 ns 1 n) ρ w 1 (vN n)) := by
  cases hρ : ρ n with
  | some i =>
    have hi1 : ((ρ n).map Int.ofNat).getD 0 = (i : Int) := by rw [hρ]; rfl
    have hi2 : ((ρ n).map Int.ofNat).isSome = true := by rw [hρ]; rfl
    have hin : inN n ns = true := inN_iffL.2 ((h.tab.dom n).2 ⟨i, hρ⟩)
    have hp1 : put1 ns 1 n = ns := by unfold put1; rw [hin]; simp
    rw [hp1]
    have H := Lib.hid h
    have HM := Lib.hid h.map
    have HR := Lib.hid hρ
    clear h hρ hin hp1
    go_enter Tryd.func85, Tryd.ntmps85
    go_wp2_with (with_reducible refine wpList_pm_look rfl _ _ rfl rfl HM.out _ rfl hn _ _ hi1 hi2 ?_)
    go_ret
    have HT := H.out.tab.lt HR.out
    exact ⟨i, l, ρ, rfl, H.out, KpM.refl _ _ _, Grew.refl _ _, by omega, by omega, HT, .var HR.out⟩
  | none =>
    have hi1 : ((ρ n).map Int.ofNat).getD 0 = 0 := by rw [hρ]; rfl
    have hi2 : ((ρ n).map Int.ofNat).isSome = false := by rw [hρ]; rfl
    have hns : n ∉ ns := fun hm => by obtain ⟨i, hi⟩ := (h.tab.dom n).1 hm; rw [hρ] at hi; cases hi
    have hin : inN n ns = false := by
      cases e : inN n ns with
      | false => rfl
      | true => exact absurd (inN_iffL.1 e) hns
    have hp1 : put1 ns 1 n = ns ++ [n] := by unfold put1; rw [hin]; simp
    rw [hp1]
    have hnl : ns.length < maxLen := by have := h.tab.len; unfold maxLen; omega
    have hwf : (Lit.int .i64 (l.length : Nat)).wf = true := WalkArith.wf_i64 (by omega)
    have H := Lib.hid h
    have HM := Lib.hid h.map
    have HR := Lib.hid hρ
    have HFR := Lib.hid (fresh_any h.st h.box (by omega) hc.full hc.bud hc.wks)
    have HH := Lib.hid fun (W : World) (hW : StA X c (Abs.flat (l ++ [Abs.varI])) W) => has_one hW.st hc.full (i := l.length) (by show _ < (l ++ [Abs.varI]).length; simp)
    clear h hρ hin hp1
    go_enter Tryd.func85, Tryd.ntmps85
    go_wp2_with (first
      | (with_reducible refine wpList_pm_look rfl _ _ rfl rfl HM.out _ rfl hn _ _ hi1 hi2 ?_)
      | (go_at_call 66; (with_reducible refine HFR.out.mono ?_); rintro e w1 ⟨rfl, h1, k1⟩; have H1 := Lib.hid h1; have K1 := Lib.hid k1; clear h1 k1)
      | (go_at_call 50; (with_reducible refine (HH.out _ H1.out).mono ?_); rintro e w2 ⟨rfl, hb2⟩; have HB2 := Lib.hid hb2; have HM2 := Lib.hid ((H.out.kpM K1.out).1.below hb2); clear hb2)
      | (with_reducible refine wpList_pm_put rfl _ _ _ rfl rfl HM2.out hnl _ rfl hn _ hwf rfl ?_; intro w3 hm3 ht3; have HM3 := Lib.hid hm3; have HT3 := Lib.hid ht3; clear hm3 ht3))
    all_goals
      go_ret
      have hsz := H.out.sz
      have hk12 : Kp c w w2 := K1.out.trans (Kp.of_below (by have := K1.out.size; omega) HB2.out)
      have hkm : KpM c M w2 w3 := KpM.of_turned HT3.out H.out.b0 (by have := hk12.size; omega)
      refine ⟨l.length, l ++ [Abs.varI], _, rfl, ⟨(H1.out.below HB2.out).cells (turned_cells HT3.out), turned_cells HT3.out _ _ _ _ (hb_below (H.out.kpM K1.out).2 HB2.out (hb_lt (H.out.kpM K1.out).2)), ?_, H.out.tab.new HR.out, H.out.wf.app (fun y hy => by cases hy) (fun _ => rfl), fun i x hx => ?_, H.out.b0, H.out.bB, ⟨fun x hx => ?_, fun m hm => ?_⟩⟩, hk12.m.trans hkm, ⟨⟨_, rfl⟩, fun m i hm => ?_⟩, ?_, by simp, by simp, .var ?_⟩
      · have e : (fun m => (if m = n then some l.length else ρ m).map Int.ofNat) = fun t => if t = n then some (l.length : Int) else (ρ t).map Int.ofNat := by
          funext t
          by_cases e : t = n
          · rw [if_pos e, if_pos e]; rfl
          · rw [if_neg e, if_neg e]
        rw [e, List.length_append]
        exact HM3.out
      · rcases Abs.app_at hx with ⟨_, hx⟩ | ⟨_, rfl⟩
        · exact H.out.kd i x hx
        · show (1 : Int) ≠ 5; decide
      · rcases List.mem_append.1 hx with hx | hx
        · exact H.out.sm.1 x hx
        · cases List.mem_singleton.1 hx; exact ⟨Nat.zero_le _, Nat.zero_le _, Nat.zero_le _⟩
      · rcases List.mem_append.1 hm with hm | hm
        · exact H.out.sm.2 m hm
        · cases List.mem_singleton.1 hm; exact hn
      · have : m ≠ n := by rintro rfl; rw [HR.out] at hm; cases hm
        show (if m = n then some l.length else ρ m) = some i
        rw [if_neg this, hm]
      · rw [Abs.wt_app]
        have : Abs.wt [Abs.varI] = 1 := rfl
        omega
      · show (if n = n then some l.length else ρ n) = some l.length
        rw [if_pos rfl]
end Go.Proofs.YtncebhddcokkoaaDoor
/- May a term come into a store? A type may. -/
namespace Go.Proofs.YtncebhddcokkoaaDoor
open Go.RowKit
set_option linter.unusedSimpArgs false
set_option linter.unusedVariables false
def YesB (w : World) (e : Ending) (w' : World) : Prop := e = .returned (.bool true) ∧ Below w.heap.size w w'
def MayP (c : Cfg) (bx M : Nat) (X : Nat → Prop) (l : List Inf) (ns : List ByteArray) (ρ : ByteArray → Option Nat) (d : Nat) : Prop :=
  ∀ (v : Value) (t : Tm) (w : World), IS c bx M X l ns ρ w → IsT w d v t → Typ t → Calls Tryd.prog 83 #[.pointer (some ⟨c.B, 0, none⟩), v, .map (some M), .bool true] w (YesB w)
/-- mayImport's boxes. -/
structure Mb (c : Cfg) (M b4 b6 b7 : Nat) (w : World) : Prop where
  h4 : w.heap[b4]? = some (.cells #[.pointer (some ⟨c.B, 0, none⟩)] 51 (0, 0))
  h6 : w.heap[b6]? = some (.cells #[.map (some M)] 83 (0, 0))
  h7 : w.heap[b7]? = some (.cells #[.bool true] 4 (0, 0))
theorem Mb.below {c : Cfg} {M b4 b6 b7 : Nat} {w w' : World} (h : Mb c M b4 b6 b7 w) (hb : Below w.heap.size w w') : Mb c M b4 b6 b7 w' :=
  ⟨hb_below h.h4 hb (hb_lt h.h4), hb_below h.h6 hb (hb_lt h.h6), hb_below h.h7 hb (hb_lt h.h7)⟩
theorem may95 {c : Cfg} {bx M : Nat} {X : Nat → Prop} {l : List Inf} {ns : List ByteArray} {ρ : ByteArray → Option Nat} {d : Nat} (HP : MayP c bx M X l ns ρ d) {v : Value} {t : Tm} {w : World} {b4 b6 b7 : Nat} (h : IS c bx M X l ns ρ w) (ht : IsT w d v t) (hy : Typ t) (hb : Mb c M b4 b6 b7 w) :
    Calls Tryd.prog 95 #[v, .pointer (some ⟨b4, 0, none⟩), .pointer (some ⟨b6, 0, none⟩), .pointer (some ⟨b7, 0, none⟩)] w fun e w' => e = .returned (.bool false) ∧ Below w.heap.size w w' := by
  obtain ⟨m, k, p, n, N, s, kids, rfl, rfl, rfl, hp, hn, hk⟩ := ht.open
  have hba := below_alloc w (.cells #[.int .i64 k, .string p, .string n, .int .i64 N, s] 36)
  have hx := hb_new w (.cells #[.int .i64 k, .string p, .string n, .int .i64 N, s] 36)
  have hm := hb.below hba
  have c4 := hb_at hm.h4 0 rfl
  have c6 := hb_at hm.h6 0 rfl
  have c7 := hb_at hm.h7 0 rfl
  have x0 := hb_at hx 0 rfl
  have x1 := hb_at hx 1 rfl
  have x2 := hb_at hx 2 rfl
  have x3 := hb_at hx 3 rfl
  have x4 := hb_at hx 4 rfl
  have HC := Lib.hid (HP _ _ _ (h.below hba) (ht.below hba) hy)
  have HB := Lib.hid hba
  obtain ⟨q, cc, rfl, _, _⟩ := hk
  clear h ht hb hm hx hba
  go_enter Tryd.func95, Tryd.ntmps95
  go_wp2_with (go_at_call 83; (with_reducible refine HC.out.mono ?_); rintro e w1 ⟨rfl, hb1⟩; have HB1 := Lib.hid hb1; clear hb1)
  all_goals
    go_ret
    exact ⟨rfl, HB.out.trans (HB1.out.mono HB.out.size)⟩
set_option maxRecDepth 100000 in
theorem may98 {c : Cfg} {bx M : Nat} {X : Nat → Prop} {l : List Inf} {ns : List ByteArray} {ρ : ByteArray → Option Nat} {d : Nat} (HP : MayP c bx M X l ns ρ d) {s : Value} {kids : List Tm} {w : World} {b4 b6 b7 : Nat} (h : IS c bx M X l ns ρ w) (ht : KidsT w d s kids) (hy : ∀ x ∈ kids, Typ x) (hb : Mb c M b4 b6 b7 w) :
    Calls Tryd.prog 98 #[s, .func (.func 95) #[] #[.pointer (some ⟨b4, 0, none⟩), .pointer (some ⟨b6, 0, none⟩), .pointer (some ⟨b7, 0, none⟩)]] w fun e w' => e = .returned (.int .i64 (-1)) ∧ Below w.heap.size w w' := by
  have HA := Lib.hid fun (W : World) (hW : Below w.heap.size w W) (v : Value) (t : Tm) (hi : IsT W d v t) (hyt : Typ t) => may95 HP (h.below hW) hi hyt (hb.below hW)
  have HT := Lib.hid ht
  have HY := Lib.hid hy
  obtain ⟨q, cc, rfl, hmx, _⟩ := ht
  have hmx2 : kids.length ≤ 9223372036854775807 := by unfold maxLen at hmx; omega
  clear h hb hy hmx
  go_enter Tryd.func98, Tryd.ntmps98
  go_wp2
  go_loopw [8] (fun t wr => ∃ k : Nat, t = .int .i64 k ∧ k ≤ kids.length ∧ Below w.heap.size w wr) (fun t _ => kids.length - (intOf t).toNat)
  case atStart => exact ⟨0, rfl, Nat.zero_le _, Below.refl _ _⟩
  case round =>
    obtain ⟨k, rfl, hk, hb⟩ := hrel
    by_cases hlt : k < kids.length
    · have hki : (k : Int) < (kids.length : Int) := by omega
      have hy := List.getElem?_eq_getElem hlt
      generalize kids[k] = y at hy
      have hks := HT.out.below hb
      obtain ⟨q', cc', e, _, hr⟩ := hks
      injection e with e1 e2 e3
      subst e1 e3
      obtain ⟨g, o, k', p', n', N', s', rfl, ⟨t0, t1, t2, t3, t4⟩, hit⟩ := hr k y hy
      obtain ⟨q', l', c', rfl⟩ := hit.spell
      have HA2 := Lib.hid (HA.out wr hb _ _ hit (HY.out y (List.mem_of_getElem? hy)))
      have HB := Lib.hid hb
      clear hb hy hr hit e2
      go_wp2_with (go_at_call 95; (with_reducible refine HA2.out.mono ?_); rintro e w1 ⟨rfl, hb1⟩; have HB1 := Lib.hid hb1; clear hb1)
      exact ⟨⟨k + 1, by go_num, by omega, HB.out.trans (HB1.out.mono HB.out.size)⟩, by simp [intOf]; omega⟩
    · have hki : ¬ (k : Int) < (kids.length : Int) := by omega
      have HB := Lib.hid hb
      clear hb
      go_wp2
      go_ret
      exact ⟨rfl, HB.out⟩
theorem may94 {c : Cfg} {bx M : Nat} {X : Nat → Prop} {l : List Inf} {ns : List ByteArray} {ρ : ByteArray → Option Nat} {d : Nat} (HP : MayP c bx M X l ns ρ d) {s : Value} {kids : List Tm} {w : World} {b4 b6 b7 : Nat} (h : IS c bx M X l ns ρ w) (ht : KidsT w d s kids) (hy : ∀ x ∈ kids, Typ x) (hb : Mb c M b4 b6 b7 w) :
    Calls Tryd.prog 94 #[s, .func (.func 95) #[] #[.pointer (some ⟨b4, 0, none⟩), .pointer (some ⟨b6, 0, none⟩), .pointer (some ⟨b7, 0, none⟩)]] w fun e w' => e = .returned (.bool false) ∧ Below w.heap.size w w' := by
  have HI := Lib.hid (may98 HP h ht hy hb)
  obtain ⟨q, cc, rfl, _, _⟩ := ht
  clear h hb
  go_enter Tryd.func94, Tryd.ntmps94
  go_wp2_with (go_at_call 98; (with_reducible refine HI.out.mono ?_); rintro e w1 ⟨rfl, hb1⟩; have HB := Lib.hid hb1; clear hb1)
  all_goals
    go_ret
    exact ⟨rfl, HB.out⟩
set_option maxRecDepth 100000 in
set_option maxHeartbeats 1000000 in
theorem may_any {c : Cfg} {bx M : Nat} {X : Nat → Prop} {l : List Inf} {ns : List ByteArray} {ρ : ByteArray → Option Nat} (hc : Cf c) : ∀ d, MayP c bx M X l ns ρ d := by
  intro d
  induction d with
  | zero => intro v t w h ht; cases ht
  | succ d ih =>
    intro v t w h ht hy
    obtain ⟨m, k, p, n, N, s, kids, e, rfl, rfl, hp, hn, hk⟩ := ht.open
    obtain rfl : d = m := by omega
    obtain ⟨q, cc, rfl, hml, hkr⟩ := hk
    have HOT := Lib.hid fun (W : World) => other_any W k
    -- the boxes
    have hb1 := ((((below_alloc w (.cells #[.pointer (some ⟨c.B, 0, none⟩)] 51)).alloc (below_alloc w _).size (.cells #[.int .i64 k, .string p, .string n, .int .i64 N, .slice q kids.length cc] 36)).alloc (by simp; omega) (.cells #[.map (some M)] 83)).alloc (by simp; omega) (.cells #[.bool true] 4))
    have hsz := h.sz
    have hm0 : Mb c M w.heap.size (w.heap.size + 1 + 1) (w.heap.size + 1 + 1 + 1) ((((w.alloc (.cells #[.pointer (some ⟨c.B, 0, none⟩)] 51)).alloc (.cells #[.int .i64 k, .string p, .string n, .int .i64 N, .slice q kids.length cc] 36)).alloc (.cells #[.map (some M)] 83)).alloc (.cells #[.bool true] 4)) :=
      ⟨hb_alloc (hb_alloc (hb_alloc (hb_new _ _) _) _) _, by simpa using hb_alloc (hb_new ((w.alloc (.cells #[.pointer (some ⟨c.B, 0, none⟩)] 51)).alloc (.cells #[.int .i64 k, .string p, .string n, .int .i64 N, .slice q kids.length cc] 36)) (.cells #[.map (some M)] 83)) (.cells #[.bool true] 4), by simpa using hb_new (((w.alloc (.cells #[.pointer (some ⟨c.B, 0, none⟩)] 51)).alloc (.cells #[.int .i64 k, .string p, .string n, .int .i64 N, .slice q kids.length cc] 36)).alloc (.cells #[.map (some M)] 83)) (.cells #[.bool true] 4)⟩
    have hx0 : ((((w.alloc (.cells #[.pointer (some ⟨c.B, 0, none⟩)] 51)).alloc (.cells #[.int .i64 k, .string p, .string n, .int .i64 N, .slice q kids.length cc] 36)).alloc (.cells #[.map (some M)] 83)).alloc (.cells #[.bool true] 4)).heap[w.heap.size + 1]? = some (.cells #[.int .i64 k, .string p, .string n, .int .i64 N, .slice q kids.length cc] 36 (0, 0)) := by
      simpa using hb_alloc (hb_alloc (hb_new (w.alloc (.cells #[.pointer (some ⟨c.B, 0, none⟩)] 51)) (.cells #[.int .i64 k, .string p, .string n, .int .i64 N, .slice q kids.length cc] 36)) (.cells #[.map (some M)] 83)) (.cells #[.bool true] 4)
    rcases hy.inv rfl with ⟨rfl, rfl, rfl, rfl⟩ | ⟨hk3, rfl, hyk⟩
    · cases hρ : ρ n with
      | some i =>
        have hi1 : ((ρ n).map Int.ofNat).getD 0 = (i : Int) := by rw [hρ]; rfl
        have hi2 : ((ρ n).map Int.ofNat).isSome = true := by rw [hρ]; rfl
        have HH := Lib.hid fun (W : World) (hW : Below w.heap.size w W) => has_one (h.below hW).st.st hc.full (h.tab.lt hρ)
        have HMP := Lib.hid fun (W : World) (hW : Below w.heap.size w W) => h.map.below hW
        have HB1 := Lib.hid hb1
        clear h ht hy hkr hb1
        go_enter Tryd.func83, Tryd.ntmps83
        go_upto_region 1 with (fail)
        generalize (((w.alloc (.cells #[.pointer (some ⟨c.B, 0, none⟩)] 51)).alloc (.cells #[.int .i64 1, .string ⟨#[]⟩, .string n, .int .i64 0, .slice q [].length cc] 36)).alloc (.cells #[.map (some M)] 83)).alloc (.cells #[.bool true] 4) = W1 at *
        obtain ⟨h4, h6, h7⟩ := hm0
        have c4 := hb_at h4 0 rfl
        have c6 := hb_at h6 0 rfl
        have c7 := hb_at h7 0 rfl
        have x0 := hb_at hx0 0 rfl
        have x2 := hb_at hx0 2 rfl
        have x4 := hb_at hx0 4 rfl
        clear h4 h6 h7 hx0
        go_wp2_with (first
          | (with_reducible refine wpList_pm_look rfl _ _ rfl rfl (HMP.out _ HB1.out) _ rfl hn _ _ hi1 hi2 ?_)
          | (go_at_call 50; (with_reducible refine (HH.out _ HB1.out).mono ?_); rintro e w2 ⟨rfl, hb2⟩; have HB2 := Lib.hid hb2; clear hb2))
        all_goals
          go_ret
          exact ⟨rfl, HB1.out.trans (HB2.out.mono HB1.out.size)⟩
      | none =>
        have hi1 : ((ρ n).map Int.ofNat).getD 0 = 0 := by rw [hρ]; rfl
        have hi2 : ((ρ n).map Int.ofNat).isSome = false := by rw [hρ]; rfl
        have HH := Lib.hid fun (W : World) (hW : Below w.heap.size w W) => has_none (h.below hW).st.st hc.full
        have HMP := Lib.hid fun (W : World) (hW : Below w.heap.size w W) => h.map.below hW
        have HB1 := Lib.hid hb1
        clear h ht hy hkr hb1
        go_enter Tryd.func83, Tryd.ntmps83
        go_upto_region 1 with (fail)
        generalize (((w.alloc (.cells #[.pointer (some ⟨c.B, 0, none⟩)] 51)).alloc (.cells #[.int .i64 1, .string ⟨#[]⟩, .string n, .int .i64 0, .slice q [].length cc] 36)).alloc (.cells #[.map (some M)] 83)).alloc (.cells #[.bool true] 4) = W1 at *
        obtain ⟨h4, h6, h7⟩ := hm0
        have c4 := hb_at h4 0 rfl
        have c6 := hb_at h6 0 rfl
        have c7 := hb_at h7 0 rfl
        have x0 := hb_at hx0 0 rfl
        have x2 := hb_at hx0 2 rfl
        have x4 := hb_at hx0 4 rfl
        clear h4 h6 h7 hx0
        go_wp2_with (first
          | (with_reducible refine wpList_pm_look rfl _ _ rfl rfl (HMP.out _ HB1.out) _ rfl hn _ _ hi1 hi2 ?_)
          | (go_at_call 50; (with_reducible refine (HH.out _ HB1.out).mono ?_); rintro e w2 ⟨rfl, hb2⟩; have HB2 := Lib.hid hb2; clear hb2))
        all_goals
          go_ret
          exact ⟨rfl, HB1.out.trans (HB2.out.mono HB1.out.size)⟩
    · have e1 : (k == 1) = false := by simp; omega
      have hd : decide (k = 2 ∨ k = 3 ∨ k = 4) = true := by simpa using hk3
      have HD := Lib.hid hd
      clear hd
      have HH := Lib.hid fun (W : World) (hW : Below w.heap.size w W) => has_none (h.below hW).st.st hc.full
      have HC := Lib.hid fun (W : World) (hW : Below w.heap.size w W) (b4 b6 b7 : Nat) (hm : Mb c M b4 b6 b7 W) => may94 ih (h.below hW) (KidsT.below (s := .slice q kids.length cc) ⟨q, cc, rfl, hml, hkr⟩ hW) hyk hm
      have HB1 := Lib.hid hb1
      clear h ht hy hkr hb1
      go_enter Tryd.func83, Tryd.ntmps83
      go_upto_region 4 with (fail)
      generalize (((w.alloc (.cells #[.pointer (some ⟨c.B, 0, none⟩)] 51)).alloc (.cells #[.int .i64 k, .string p, .string n, .int .i64 0, .slice q kids.length cc] 36)).alloc (.cells #[.map (some M)] 83)).alloc (.cells #[.bool true] 4) = W1 at *
      have HM0 := Lib.hid hm0
      obtain ⟨h4, h6, h7⟩ := hm0
      have c4 := hb_at h4 0 rfl
      have x0 := hb_at hx0 0 rfl
      have X0 := Lib.hid hx0
      have hx1 := hb_lt hx0
      clear h4 h6 h7 hx0
      go_wp2_with (first
        | (go_at_call 49; (with_reducible refine (HOT.out _).mono ?_); rintro e w1 ⟨rfl, rfl⟩; rw [HD.out])
        | (go_at_call 50; (with_reducible refine (HH.out _ HB1.out).mono ?_); rintro e w2 ⟨rfl, hb2⟩; have HB2 := Lib.hid (HB1.out.trans (hb2.mono HB1.out.size)); have x4 := hb_at (hb_below X0.out hb2 hx1) 4 rfl; have HM2 := Lib.hid (HM0.out.below hb2); clear hb2)
        | (go_at_call 94; (with_reducible refine (HC.out _ HB2.out _ _ _ HM2.out).mono ?_); rintro e w3 ⟨rfl, hb3⟩; have HB3 := Lib.hid (HB2.out.trans (hb3.mono HB2.out.size)); clear hb3))
      all_goals
        go_ret
        exact ⟨rfl, HB3.out⟩
end Go.Proofs.YtncebhddcokkoaaDoor
/- A term comes into a store. -/
namespace Go.Proofs.YtncebhddcokkoaaDoor
open Go.RowKit
set_option linter.unusedSimpArgs false
set_option linter.unusedVariables false
/-- Import's boxes. -/
structure Ib (c : Cfg) (bx M b4 b6 b7 b9 : Nat) (w : World) : Prop where
  h4 : w.heap[b4]? = some (.cells #[.pointer (some ⟨c.B, 0, none⟩)] 51 (0, 0))
  h6 : w.heap[b6]? = some (.cells #[.map (some M)] 83 (0, 0))
  h7 : w.heap[b7]? = some (.cells #[.func (.func 66) #[] #[.pointer (some ⟨bx, 0, none⟩)]] 102 (0, 0))
  h9 : w.heap[b9]? = some (.cells #[.func (.func 84) #[] #[.pointer (some ⟨b4, 0, none⟩), .pointer (some ⟨b6, 0, none⟩), .pointer (some ⟨b7, 0, none⟩), .pointer (some ⟨b9, 0, none⟩)]] 39 (0, 0))
  n4 : c.B < b4 ∧ M < b4
  n6 : c.B < b6 ∧ M < b6
  n7 : c.B < b7 ∧ M < b7
  n9 : c.B < b9 ∧ M < b9
set_option maxRecDepth 100000 in
theorem Ib.kept {c : Cfg} {bx M b4 b6 b7 b9 : Nat} {w w' : World} (h : Ib c bx M b4 b6 b7 b9 w) (k : KpM c M w w') : Ib c bx M b4 b6 b7 b9 w' := by
  have h1 := h.n4; have h2 := h.n6; have h3 := h.n7; have h4 := h.n9
  exact ⟨k.kept h.h4 (by omega) (by omega) (by decide), k.kept h.h6 (by omega) (by omega) (by decide), k.kept h.h7 (by omega) (by omega) (by decide), k.kept h.h9 (by omega) (by omega) (by decide), h1, h2, h3, h4⟩
set_option maxRecDepth 100000 in
theorem make88 (m : Nat) (hm : m ≤ 50000) (W : World) : (Instr.makeSlice 88 (.int .i64 (m : Int)) (.int .i64 (m : Int))).run Tryd.prog W = .ok (.slice (some ⟨W.heap.size, 0, none⟩) m m) (W.alloc (.cells (madeCells #[.int .i64 0] m) 3)) := by
  have h0 : (Tryd.prog.info? 3).map (fun i => (i.zero, i.size, i.bytes)) = some (some (.int .i64 0), 1, 8) := by kernel_rfl
  obtain ⟨i0, hi, e⟩ := Option.map_eq_some_iff.1 h0
  injection e with hz0 e
  injection e with hz1 hz2
  have h := run_makeSlice (P := Tryd.prog) (w := W) 88 3 i0 (.int .i64 0) (by kernel_rfl) hi hz0 .i64 .i64 m m (by omega) (by omega) (by rw [hz1]; simp; omega) (by rw [hz2]; omega) (by omega)
  rw [hz1, Int.toNat_natCast, Nat.mul_one] at h
  have e : (Value.int .i64 0).cells = #[.int .i64 0] := rfl
  rw [e] at h
  exact h
/-- So many terms are among the first ones. -/
def szS (d k : Nat) (kids : List Tm) : Nat := (kids.take k).foldl (fun n t => n + tszN d t) 0
theorem szS_next {d k : Nat} {kids : List Tm} (h : k < kids.length) : szS d (k + 1) kids = szS d k kids + tszN d kids[k] := by
  unfold szS
  rw [List.take_succ_eq_append_getElem h, List.foldl_append]
  rfl
theorem szS_le {d k : Nat} {kids : List Tm} : szS d k kids ≤ szS d kids.length kids := by
  unfold szS
  have e : kids.take kids.length = kids.take k ++ kids.drop k := by rw [List.take_length, List.take_append_drop]
  rw [e, List.foldl_append, foldl_add (tszN d) (kids.drop k)]
  omega
theorem szS_all {d : Nat} {k : Int} {p n : ByteArray} {N : Int} {kids : List Tm} : tszN (d + 1) (.mk k p n N kids) = 1 + szS d kids.length kids := by
  unfold szS
  rw [List.take_length]
  show kids.foldl _ 1 = _
  rw [foldl_add (tszN d) kids 1]
theorem szS_ge {d : Nat} {kids : List Tm} (h : ∀ x ∈ kids, Dp d x) : ∀ k, k ≤ kids.length → k ≤ szS d k kids
  | 0, _ => Nat.zero_le _
  | k + 1, hk => by
    have h1 := szS_ge h k (by omega)
    have h2 := tsz_pos (h _ (List.getElem_mem (by omega : k < kids.length)))
    rw [szS_next (by omega)]
    omega
theorem KpM.set_new {c : Cfg} {M n : Nat} {w w1 : World} (h : KpM c M w w1) (hn : w.heap.size ≤ n) (hb : c.b0 ≤ w.heap.size) (i : Nat) (u : Value) : KpM c M w (w1.setCell ⟨n, i, none⟩ u) :=
  ⟨h.below.setCell (by show c.b0 ≤ n; omega) _, by rw [show (w1.setCell ⟨n, i, none⟩ u).heap.size = w1.heap.size by simp [World.setCell]]; exact h.size, fun g x h1 h2 h3 h4 => hb_set_other (h.block g x h1 h2 h3 h4) u (fun e => by have e : g = n := e; have := hb_lt h1; omega)⟩
theorem IS.put {c : Cfg} {bx M : Nat} {X : Nat → Prop} {l : List Inf} {ns : List ByteArray} {ρ : ByteArray → Option Nat} {w : World} (h : IS c bx M X l ns ρ w) {n : Nat} (hn : X n) {cs : Array Value} {fr : Nat × Nat} (hc : w.heap[n]? = some (.cells cs 3 fr)) (hB : n ≠ c.B) (hx : n ≠ bx) (i : Nat) (u : Value) : IS c bx M X l ns ρ (w.setCell ⟨n, i, none⟩ u) := by
  refine ⟨h.st.put hn hc hB i u, hb_set_other h.box u (fun e => hx e.symm), h.map.same (Below.heap_setCell w _ u M (fun e => ?_)), h.tab, h.wf, h.kd, h.b0, h.bB, h.sm⟩
  have e : M = n := e
  subst e
  obtain ⟨es, cl, hm⟩ := h.map.heap
  rw [hm] at hc
  cases hc
theorem ints_row {w : World} {kb : Nat} {cs : Array Value} {fr : Nat × Nat} {ids : List Nat} (h : w.heap[kb]? = some (.cells cs 3 fr)) (hr : ∀ (i x : Nat), ids[i]? = some x → cs[i]? = some (.int .i64 (x : Nat))) : Ints w (some ⟨kb, 0, none⟩) (ids.map Int.ofNat) := by
  intro j y hy
  rw [List.getElem?_map] at hy
  cases hx : ids[j]? with
  | none => rw [hx] at hy; cases hy
  | some x =>
    rw [hx] at hy
    obtain rfl : Int.ofNat x = y := by simpa using hy
    exact ⟨kb, 0, rfl, by rw [hb_cell h, Nat.zero_add]; exact hr j x hx⟩
/-- A walk's state. -/
structure IW (c : Cfg) (bx M : Nat) (X : Nat → Prop) (l : List Inf) (ns : List ByteArray) (ρ : ByteArray → Option Nat) (w1 : World) (kb d : Nat) (kids : List Tm) (j : Nat) (l' : List Inf) (ρ' : ByteArray → Option Nat) (ids : List Nat) (wr : World) : Prop where
  is : IS c bx M X l' (varsTo d j kids ns) ρ' wr
  kp : KpM c M w1 wr
  gr : Grew l l' ρ ρ'
  wt : Abs.wt l' + j ≤ Abs.wt l + 2 * szS d j kids
  ln : l'.length ≤ l.length + szS d j kids
  len : ids.length = j
  rep : ∀ (i x : Nat) (t : Tm), ids[i]? = some x → kids[i]? = some t → Abs.Repr (Abs.flat l') ρ' x t
  lt : ∀ x ∈ ids, x < l'.length
  row : ∃ cs, wr.heap[kb]? = some (.cells cs 3 (0, 0)) ∧ cs.size = kids.length ∧ ∀ (i x : Nat), ids[i]? = some x → cs[i]? = some (.int .i64 (x : Nat))
def ImpF (c : Cfg) (bx M b4 b6 b7 b9 : Nat) (w0 : World) (d : Nat) : Prop :=
  ∀ (X : Nat → Prop) (v : Value) (t : Tm) (l : List Inf) (ns : List ByteArray) (ρ : ByteArray → Option Nat) (w : World), (∀ g, X g → g < w.heap.size) → IS c bx M X l ns ρ w → Ib c bx M b4 b6 b7 b9 w → Below w0.heap.size w0 w → IsT w0 d v t → Typ t → l.length + tszN d t ≤ 50000 →
    Calls Tryd.prog 84 #[v, .pointer (some ⟨b4, 0, none⟩), .pointer (some ⟨b6, 0, none⟩), .pointer (some ⟨b7, 0, none⟩), .pointer (some ⟨b9, 0, none⟩)] w (ImpQ c bx M X l (varsT d ns t) ρ w (tszN d t) t)
set_option maxRecDepth 100000 in
set_option maxHeartbeats 2000000 in
theorem imp_any {c : Cfg} {bx M b4 b6 b7 b9 : Nat} {w0 : World} (hc : Cf c) (hb0 : c.b0 = w0.heap.size) : ∀ d, ImpF c bx M b4 b6 b7 b9 w0 d := by
  intro d
  induction d with
  | zero => intro X v t l ns ρ w hX h hb hw ht; cases ht
  | succ d ih =>
    intro X v t l ns ρ w hX h hb hw ht hy hroom
    obtain ⟨m, k, p, n, N, s, kids, e, rfl, rfl, hp, hn, hk⟩ := ht.open
    obtain rfl : d = m := by omega
    have hkT := Lib.hid hk
    obtain ⟨q, cc, rfl, hml, hkr⟩ := hk
    have hba := below_alloc w (.cells #[.int .i64 k, .string p, .string n, .int .i64 N, .slice q kids.length cc] 36)
    have hx := hb_new w (.cells #[.int .i64 k, .string p, .string n, .int .i64 N, .slice q kids.length cc] 36)
    have hsz := h.sz
    have hkm := KpM.of_below (c := c) (M := M) hsz.1 hba
    have hb1 := hb.kept hkm
    have HIS := Lib.hid (h.below hba)
    have HKM := Lib.hid hkm
    have HW := Lib.hid (hw.trans (hba.mono hw.size))
    have c4 := hb_at hb1.h4 0 rfl
    have c6 := hb_at hb1.h6 0 rfl
    have c7 := hb_at hb1.h7 0 rfl
    have c9 := hb_at hb1.h9 0 rfl
    have x0 := hb_at hx 0 rfl
    have x1 := hb_at hx 1 rfl
    have x2 := hb_at hx 2 rfl
    have x4 := hb_at hx 4 rfl
    have HIB := Lib.hid hb1
    have HX := Lib.hid hx
    rcases hy.inv rfl with ⟨rfl, rfl, rfl, rfl⟩ | ⟨hk3, rfl, hyk⟩
    · have hts : tszN (d + 1) (.mk 1 ⟨#[]⟩ n 0 []) = 1 := rfl
      rw [hts] at hroom ⊢
      have hvs : varsT (d + 1) ns (.mk 1 ⟨#[]⟩ n 0 []) = put1 ns 1 n := rfl
      rw [hvs]
      have HV := Lib.hid (variable_any HIS.out hc n hn hroom)
      clear h hb hw ht hy hkr hba hx hkm hb1
      go_enter Tryd.func84, Tryd.ntmps84
      go_upto_region 1 with (fail)
      generalize w.alloc (.cells #[.int .i64 1, .string ⟨#[]⟩, .string n, .int .i64 0, .slice q [].length cc] 36) = W1 at *
      go_wp2_with (go_at_call 85; (with_reducible refine HV.out.mono ?_); rintro e w1 ⟨i, l', ρ', rfl, g1, g2, g3⟩; have G1 := Lib.hid g1; have G2 := Lib.hid g2; have G3 := Lib.hid g3; clear g1 g2 g3)
      all_goals
        go_ret
        exact ⟨i, l', ρ', rfl, G1.out, HKM.out.trans G2.out, G3.out⟩
    · have e1 : (k == 1) = false := by simp; omega
      have hvs : varsT (d + 1) ns (.mk k p n 0 kids) = varsTo d kids.length kids ns := by
        have : put1 ns k n = ns := by unfold put1; rw [if_neg (by omega)]
        show kids.foldl (varsT d) (put1 ns k n) = _
        rw [this]
        unfold varsTo
        rw [List.take_length]
      rw [hvs, szS_all]
      rw [szS_all] at hroom
      have hdp : ∀ x ∈ kids, Dp d x := (IsT.dp ht : Dp (d + 1) (.mk k p n 0 kids))
      have hkl : kids.length ≤ 50000 := by have := szS_ge hdp kids.length (Nat.le_refl _); omega
      have HDP := Lib.hid hdp
      have HYK := Lib.hid hyk
      have hml2 : kids.length ≤ 9223372036854775807 := by omega
      clear h hb hw ht hy hkr hba hx hkm hb1 hdp hyk hml
      go_enter Tryd.func84, Tryd.ntmps84
      go_upto_region 1 with (fail)
      generalize w.alloc (.cells #[.int .i64 k, .string p, .string n, .int .i64 0, .slice q kids.length cc] 36) = W1 at *
      have hmk := make88 kids.length hkl W1
      go_upto_region 4 with (fail)
      have hb2 := below_alloc W1 (.cells (madeCells #[.int .i64 0] kids.length) 3)
      have hkb := hb_new W1 (.cells (madeCells #[.int .i64 0] kids.length) 3)
      have hIS2 : IS c bx M (fun g => X g ∨ g = W1.heap.size) l ns ρ (W1.alloc (.cells (madeCells #[.int .i64 0] kids.length) 3)) :=
        ⟨HIS.out.st.add hb2 (Nat.le_refl _), hb_below HIS.out.box hb2 (hb_lt HIS.out.box), HIS.out.map.below hb2, HIS.out.tab, HIS.out.wf, HIS.out.kd, HIS.out.b0, HIS.out.bB, HIS.out.sm⟩
      have hsz1 := HIS.out.sz
      have hst : IW c bx M (fun g => X g ∨ g = W1.heap.size) l ns ρ W1 W1.heap.size d kids 0 l ρ [] (W1.alloc (.cells (madeCells #[.int .i64 0] kids.length) 3)) :=
        ⟨hIS2, KpM.of_below hsz1.1 hb2, Grew.refl _ _, by simp [szS], by simp [szS], rfl, fun i x t h => by simp at h, fun x hx => (by cases hx), ⟨_, hkb, size_madeCells _ _, fun i x h => by simp at h⟩⟩
      have HST := Lib.hid hst
      have x04 := hb_at (hb_below HX.out hb2 (hb_lt HX.out)) 4 rfl
      have HX2 := Lib.hid HX.out
      clear hst hIS2 hkb hmk
      generalize hW2 : W1.alloc (.cells (madeCells #[.int .i64 0] kids.length) 3) = W2 at *
      clear hW2
      clear c4 c6 c7 c9 x0 x1 x2 x4
      have x4 := x04
      clear x04
      go_wp2
      go_loopw [26] (fun i wr => ∃ j l' ρ' ids, i = .int .i64 (j : Nat) ∧ j ≤ kids.length ∧ IW c bx M (fun g => X g ∨ g = W1.heap.size) l ns ρ W1 W1.heap.size d kids j l' ρ' ids wr) (fun i _ => kids.length - (intOf i).toNat)
      case atStart => exact ⟨0, l, ρ, [], rfl, Nat.zero_le _, HST.out⟩
      case round =>
        obtain ⟨j, l', ρ', ids, rfl, hjl, hI⟩ := hrel
        have HI := Lib.hid hI
        have hbr := HIB.out.kept hI.kp
        have c4 := hb_at hbr.h4 0 rfl
        have c9 := hb_at hbr.h9 0 rfl
        have HBR := Lib.hid hbr
        have hxr := hI.kp.kept HX2.out (by have := hsz; omega) (by have := hsz; omega) (by decide)
        have x0 := hb_at hxr 0 rfl
        have x1 := hb_at hxr 1 rfl
        have x2 := hb_at hxr 2 rfl
        have x4 := hb_at hxr 4 rfl
        clear hI hbr hxr
        by_cases hlt : j < kids.length
        · have hki : (j : Int) < (kids.length : Int) := by omega
          have hI := HI.out
          have hwr := HW.out.trans (hb0 ▸ hI.kp.below)
          obtain ⟨q', cc', e5, _, hr⟩ := hkT.out
          injection e5 with e6 _ e7
          subst e6 e7
          have hyl : kids[j]? = some (kids[j]) := List.getElem?_eq_getElem hlt
          have hsn := szS_next (d := d) hlt
          have hvn := varsTo_next (d := d) (ns := ns) hlt
          have hsl := szS_le (d := d) (k := j + 1) (kids := kids)
          have hyt := HYK.out _ (List.mem_of_getElem? hyl)
          generalize kids[j] = y at hyl hsn hvn hyt
          obtain ⟨g, o, k', p', n', N', s', rfl, ht5, hit⟩ := hr j y hyl
          obtain ⟨t0, t1, t2, t3, t4⟩ := ht5.below hwr ht5.lt
          obtain ⟨q', l5, c', rfl⟩ := hit.spell
          have hszr := hI.is.sz
          have hkbl : W1.heap.size < wr.heap.size := by obtain ⟨cs, h1, _⟩ := hI.row; exact hb_lt h1
          have hln := hI.ln
          have HC := Lib.hid (ih (fun g => X g ∨ g = W1.heap.size) (tv k' p' n' N' (.slice q' l5 c')) y l' (varsTo d j kids ns) ρ' (wr.alloc (.cells #[.int .i64 k', .string p', .string n', .int .i64 N', .slice q' l5 c'] 36)) (fun g hg => by
              have hsz2 : (wr.alloc (.cells #[.int .i64 k', .string p', .string n', .int .i64 N', .slice q' l5 c'] 36)).heap.size = wr.heap.size + 1 := by simp
              rcases hg with hg | rfl
              · have h1 := hX g hg; have h2 := HKM.out.size; omega
              · omega)
            (hI.is.below (below_alloc _ _)) (HBR.out.kept (KpM.of_below hszr.1 (below_alloc _ _))) (hwr.trans ((below_alloc _ _).mono hwr.size)) hit hyt (by omega))
          obtain ⟨cs, hrow, hrs, hrr⟩ := hI.row
          have HROW := Lib.hid hrow
          have HRS := Lib.hid hrs
          have HRR := Lib.hid hrr
          have HLEN := Lib.hid hI.len
          have HSN := Lib.hid hsn
          have HVN := Lib.hid hvn
          have HYL := Lib.hid hyl
          clear hI hr hit ht5 hyl hsn hvn hyt hrow hrs hrr hwr
          have hl9 := block_lt_of_cell c9
          go_wp2_with (go_at_call 84; (with_reducible refine HC.out.mono ?_); rintro e w4 ⟨i, l2, ρ2, rfl, g1, g2, g3⟩; have G1 := Lib.hid g1; have G2 := Lib.hid g2; have G3 := Lib.hid g3; have K2 := Lib.hid ((KpM.of_below (c := c) (M := M) hszr.1 (below_alloc wr (.cells #[.int .i64 k', .string p', .string n', .int .i64 N', .slice q' l5 c'] 36))).trans g2); have r4 := K2.out.kept HROW.out (by omega) (by omega) (by decide); have f4 := hb_free r4 j; have q4 := hb_at r4 j (Array.getElem?_eq_getElem (by rw [HRS.out]; exact hlt)); have R4 := Lib.hid r4; clear g1 g2 g3 r4)
          obtain ⟨g3, g4, g5, g6, g7⟩ := G3.out
          have hI := HI.out
          have hkb : W1.heap.size ≠ c.B := by omega
          refine ⟨⟨j + 1, l2, ρ2, ids ++ [i], by go_num, by omega, ⟨?_, ?_, hI.gr.trans g3, ?_, ?_, by rw [List.length_append, HLEN.out]; rfl, fun a x t ha ht => ?_, fun x hx => ?_, ?_⟩⟩, by simp [intOf]; omega⟩
          · rw [HVN.out]
            exact G1.out.put (.inr rfl) R4.out hkb (by omega) j _
          · exact (hI.kp.trans K2.out).set_new (Nat.le_refl _) hsz1.1 j _
          · have := hI.wt; rw [HSN.out]; omega
          · have := hI.ln; rw [HSN.out]; omega
          · by_cases haj : a < ids.length
            · rw [List.getElem?_append_left haj] at ha
              exact g3.repr (hI.rep a x t ha ht)
            · rw [List.getElem?_append_right (by omega)] at ha
              have h1 := (List.getElem?_eq_some_iff.1 ha).1
              simp at h1
              have e : a - ids.length = 0 := by omega
              rw [e] at ha
              obtain rfl : i = x := Option.some.inj ha
              have e2 : a = j := by have := HLEN.out; omega
              rw [e2, HYL.out] at ht
              obtain rfl := Option.some.inj ht
              exact g7
          · rcases List.mem_append.1 hx with hx | hx
            · have := hI.lt x hx; have := g3.len; omega
            · cases List.mem_singleton.1 hx; exact g6
          · refine ⟨_, hb_set_same R4.out j _, by rw [Array.size_setIfInBounds]; exact HRS.out, fun a x ha => ?_⟩
            rw [Array.getElem?_setIfInBounds]
            by_cases haj : a < ids.length
            · rw [List.getElem?_append_left haj] at ha
              rw [if_neg (by have := HLEN.out; omega)]
              exact HRR.out a x ha
            · rw [List.getElem?_append_right (by omega)] at ha
              have h1 := (List.getElem?_eq_some_iff.1 ha).1
              simp at h1
              have e : a - ids.length = 0 := by omega
              rw [e] at ha
              obtain rfl : i = x := Option.some.inj ha
              have e2 : j = a := by have := HLEN.out; omega
              rw [if_pos e2, if_pos (by rw [HRS.out]; omega)]
        · have hki : ¬ (j : Int) < (kids.length : Int) := by omega
          obtain rfl : j = kids.length := by omega
          have hI := HI.out
          obtain ⟨cs, hrow, hrs, hrr⟩ := hI.row
          obtain ⟨v, L, rk, p1, p2, p3, p4⟩ := hI.is.st
          have hLl : l'.length = L.length := p2.len
          have hln := hI.ln
          have hml3 := hI.len
          have hmk := make_any c v L wr k p n (some ⟨W1.heap.size, 0, none⟩) ids kids.length p1 hk3 (ints_row hrow hrr) (fun y hy => by have := hI.lt y hy; omega) (by omega) (by omega) hc.full (by have := hc.bud; omega)
          rw [hml3] at hmk
          have HMK := Lib.hid hmk
          have P2 := Lib.hid p2
          have P3 := Lib.hid p3
          have P4 := Lib.hid p4
          clear hmk p1 p2 p3 p4 hI hrow hrs hrr hml3
          go_wp2_with (go_at_call 26; (with_reducible refine HMK.out.mono ?_); rintro e w5 ⟨rfl, v', ks, pl, h1, h2, h3, h4⟩; have H1 := Lib.hid h1; have H2 := Lib.hid h2; have H3 := Lib.hid h3; have H4 := Lib.hid h4; clear h1 h2 h3 h4)
          all_goals
            go_ret
            have hI := HI.out
            have hwt := hI.wt
            have hids := hI.len
            have hszr := hI.is.sz
            have hkbl : W1.heap.size < wr.heap.size := by obtain ⟨cs, h1, _⟩ := hI.row; exact hb_lt h1
            have hX2 : ∀ g o m cc, ks = .slice (some ⟨g, o, none⟩) m cc → ¬ (X g ∨ g = W1.heap.size) := fun g o m cc e hg => by
              have h5 := H4.out g o m cc e
              rcases hg with hg | hg
              · have := hX g hg; have := HKM.out.size; omega
              · omega
            have hst := St.more H1.out P2.out P3.out P4.out hX2 hc.wks (fun hp => ⟨by show k ≠ 1; omega, by show k ≠ 5; omega, H3.out hp⟩)
            refine ⟨L.length, l' ++ [⟨k, p, n, ids⟩], ρ', rfl, ⟨hst.weak fun g hg => .inl hg, (hI.is.kpM H2.out).2, (hI.is.kpM H2.out).1, hI.is.tab.con (by show k ≠ 1; omega), hI.is.wf.app hI.lt (fun h => by have h : k = 1 ∨ k = 5 := h; omega), fun i x hx => ?_, hI.is.b0, hI.is.bB, ⟨fun x hx => ?_, hI.is.sm.2⟩⟩, HKM.out.trans (hI.kp.trans H2.out.m), hI.gr.trans ⟨⟨_, rfl⟩, fun _ _ h => h⟩, ?_, ?_, ?_, ?_⟩
            · rcases Abs.app_at hx with ⟨_, hx⟩ | ⟨_, rfl⟩
              · exact hI.is.kd i x hx
              · show k ≠ 5; omega
            · rcases List.mem_append.1 hx with hx | hx
              · exact hI.is.sm.1 x hx
              · cases List.mem_singleton.1 hx; exact ⟨hp, hn, by show ids.length ≤ 50000; omega⟩
            · rw [Abs.wt_app]
              have : Abs.wt [⟨k, p, n, ids⟩] = ids.length + 1 := rfl
              omega
            · rw [List.length_append]
              have : [(⟨k, p, n, ids⟩ : Inf)].length = 1 := rfl
              omega
            · rw [List.length_append]
              have : [(⟨k, p, n, ids⟩ : Inf)].length = 1 := rfl
              omega
            · refine .con (x := ⟨k, p, n, ids⟩) ?_ (by omega) (by omega) rfl rfl rfl hids (fun a y t ha ht => (hI.rep a y t ha ht).mono fun _ _ h => h)
              show (l' ++ [(⟨k, p, n, ids⟩ : Inf)])[L.length]? = _
              rw [List.getElem?_append_right (by omega), hLl, Nat.sub_self]
              rfl
theorem neq_func (W : World) (f : Fn) (cs : Array Value) : (binOp .neq 102 (.func f #[] cs) .nilFunc).run Tryd.prog W = .ok (.bool true) W := by
  have hu := Tryd.underlying102
  have h1 : ∀ d, (Op.equalIn (d + 1) 102 (.func f #[] cs) .nilFunc).run Tryd.prog W = .ok false W := fun d => by simp [Op.equalIn, run_underlying hu]
  have h2 : (Op.equal 102 (.func f #[] cs) .nilFunc).run Tryd.prog W = .ok false W := h1 9999
  simp [binOp, h2]
theorem eql_map (W : World) (M : Nat) : (binOp .eql 83 (.map (some M)) (.map none)).run Tryd.prog W = .ok (.bool false) W := by
  have hu := Tryd.underlying83
  have h1 : ∀ d, (Op.equalIn (d + 1) 83 (.map (some M)) (.map none)).run Tryd.prog W = .ok false W := fun d => by simp [Op.equalIn, run_underlying hu]
  have h2 : (Op.equal 83 (.map (some M)) (.map none)).run Tryd.prog W = .ok false W := h1 9999
  simp [binOp, h2]
set_option maxRecDepth 100000 in
set_option maxHeartbeats 1000000 in
theorem import_any {c : Cfg} {bx M : Nat} {w0 : World} (hc : Cf c) (hb0 : c.b0 = w0.heap.size) (d : Nat) (v : Value) (t : Tm) (l : List Inf) (ns : List ByteArray) (ρ : ByteArray → Option Nat) (w : World) (h : IS c bx M (fun _ => False) l ns ρ w) (hw : Below w0.heap.size w0 w) (ht : IsT w0 d v t) (hy : Typ t) (hroom : l.length + tszN d t ≤ 50000) :
    Calls Tryd.prog 67 #[.pointer (some ⟨c.B, 0, none⟩), v, .map (some M), .func (.func 66) #[] #[.pointer (some ⟨bx, 0, none⟩)]] w (ImpQ c bx M (fun _ => False) l (varsT d ns t) ρ w (tszN d t) t) := by
  have hIsT := Lib.hid ht
  obtain ⟨m, k, p, n, N, s, kids, e, rfl, rfl, hp, hn, hk⟩ := ht.open
  obtain ⟨q, cc, rfl, hml, hkr⟩ := hk
  have hsz := h.sz
  have hb1 := ((((below_alloc w (.cells #[.pointer (some ⟨c.B, 0, none⟩)] 51)).alloc (below_alloc w _).size (.cells #[.int .i64 k, .string p, .string n, .int .i64 N, .slice q kids.length cc] 36)).alloc (by simp; omega) (.cells #[.map (some M)] 83)).alloc (by simp; omega) (.cells #[.func (.func 66) #[] #[.pointer (some ⟨bx, 0, none⟩)]] 102))
  have h4 : ((((w.alloc (.cells #[.pointer (some ⟨c.B, 0, none⟩)] 51)).alloc (.cells #[.int .i64 k, .string p, .string n, .int .i64 N, .slice q kids.length cc] 36)).alloc (.cells #[.map (some M)] 83)).alloc (.cells #[.func (.func 66) #[] #[.pointer (some ⟨bx, 0, none⟩)]] 102)).heap[w.heap.size]? = some (.cells #[.pointer (some ⟨c.B, 0, none⟩)] 51 (0, 0)) := hb_alloc (hb_alloc (hb_alloc (hb_new _ _) _) _) _
  have h5 : ((((w.alloc (.cells #[.pointer (some ⟨c.B, 0, none⟩)] 51)).alloc (.cells #[.int .i64 k, .string p, .string n, .int .i64 N, .slice q kids.length cc] 36)).alloc (.cells #[.map (some M)] 83)).alloc (.cells #[.func (.func 66) #[] #[.pointer (some ⟨bx, 0, none⟩)]] 102)).heap[w.heap.size + 1]? = some (.cells #[.int .i64 k, .string p, .string n, .int .i64 N, .slice q kids.length cc] 36 (0, 0)) := by
    simpa using hb_alloc (hb_alloc (hb_new (w.alloc (.cells #[.pointer (some ⟨c.B, 0, none⟩)] 51)) (.cells #[.int .i64 k, .string p, .string n, .int .i64 N, .slice q kids.length cc] 36)) (.cells #[.map (some M)] 83)) (.cells #[.func (.func 66) #[] #[.pointer (some ⟨bx, 0, none⟩)]] 102)
  have h6 : ((((w.alloc (.cells #[.pointer (some ⟨c.B, 0, none⟩)] 51)).alloc (.cells #[.int .i64 k, .string p, .string n, .int .i64 N, .slice q kids.length cc] 36)).alloc (.cells #[.map (some M)] 83)).alloc (.cells #[.func (.func 66) #[] #[.pointer (some ⟨bx, 0, none⟩)]] 102)).heap[w.heap.size + 1 + 1]? = some (.cells #[.map (some M)] 83 (0, 0)) := by
    simpa using hb_alloc (hb_new ((w.alloc (.cells #[.pointer (some ⟨c.B, 0, none⟩)] 51)).alloc (.cells #[.int .i64 k, .string p, .string n, .int .i64 N, .slice q kids.length cc] 36)) (.cells #[.map (some M)] 83)) (.cells #[.func (.func 66) #[] #[.pointer (some ⟨bx, 0, none⟩)]] 102)
  have h7 : ((((w.alloc (.cells #[.pointer (some ⟨c.B, 0, none⟩)] 51)).alloc (.cells #[.int .i64 k, .string p, .string n, .int .i64 N, .slice q kids.length cc] 36)).alloc (.cells #[.map (some M)] 83)).alloc (.cells #[.func (.func 66) #[] #[.pointer (some ⟨bx, 0, none⟩)]] 102)).heap[w.heap.size + 1 + 1 + 1]? = some (.cells #[.func (.func 66) #[] #[.pointer (some ⟨bx, 0, none⟩)]] 102 (0, 0)) := by
    simpa using hb_new (((w.alloc (.cells #[.pointer (some ⟨c.B, 0, none⟩)] 51)).alloc (.cells #[.int .i64 k, .string p, .string n, .int .i64 N, .slice q kids.length cc] 36)).alloc (.cells #[.map (some M)] 83)) (.cells #[.func (.func 66) #[] #[.pointer (some ⟨bx, 0, none⟩)]] 102)
  have HW := Lib.hid hw
  have HTY := Lib.hid hy
  have HIS := Lib.hid h
  have HROOM := Lib.hid hroom
  clear h hw ht hy hkr hroom
  go_enter Tryd.func67, Tryd.ntmps67
  go_upto_region 1 with (fail)
  generalize hW1 : (((w.alloc (.cells #[.pointer (some ⟨c.B, 0, none⟩)] 51)).alloc (.cells #[.int .i64 k, .string p, .string n, .int .i64 N, .slice q kids.length cc] 36)).alloc (.cells #[.map (some M)] 83)).alloc (.cells #[.func (.func 66) #[] #[.pointer (some ⟨bx, 0, none⟩)]] 102) = W1 at *
  clear hW1
  have c4 := hb_at h4 0 rfl
  have c6 := hb_at h6 0 rfl
  have c7 := hb_at h7 0 rfl
  have x0 := hb_at h5 0 rfl
  have x1 := hb_at h5 1 rfl
  have x2 := hb_at h5 2 rfl
  have x3 := hb_at h5 3 rfl
  have x4 := hb_at h5 4 rfl
  have H4 := Lib.hid h4
  have H5 := Lib.hid h5
  have H6 := Lib.hid h6
  have H7 := Lib.hid h7
  have HB1 := Lib.hid hb1
  have HW1 := Lib.hid (HW.out.trans (hb1.mono HW.out.size))
  have HMAY := Lib.hid (may_any hc d _ _ W1 (HIS.out.below hb1) (hIsT.out.below HW1.out) HTY.out)
  have hs7 := hb_lt h7
  clear h4 h5 h6 h7 hb1
  have hnq := neq_func W1 (.func 66) #[.pointer (some ⟨bx, 0, none⟩)]
  go_upto_region 7 with (go_at_call 83; (with_reducible refine HMAY.out.mono ?_); rintro e w2 ⟨rfl, hb2⟩; have HB2 := Lib.hid hb2; have d6 := hb_at (hb_below H6.out hb2 (by omega)) 0 rfl; have hem := eql_map w2 M; have hs2 := hb2.size; clear hb2)
  have hb3 := below_alloc w2 (.cells #[.func (.func 84) #[] #[.pointer (some ⟨w.heap.size, 0, none⟩), .pointer (some ⟨w.heap.size + 1 + 1, 0, none⟩), .pointer (some ⟨w.heap.size + 1 + 1 + 1, 0, none⟩), .pointer (some ⟨w2.heap.size, 0, none⟩)]] 39)
  have h9 := hb_new w2 (.cells #[.func (.func 84) #[] #[.pointer (some ⟨w.heap.size, 0, none⟩), .pointer (some ⟨w.heap.size + 1 + 1, 0, none⟩), .pointer (some ⟨w.heap.size + 1 + 1 + 1, 0, none⟩), .pointer (some ⟨w2.heap.size, 0, none⟩)]] 39)
  have hb13 := HB2.out.trans (hb3.mono HB2.out.size)
  have hbw3 := HB1.out.trans (hb13.mono HB1.out.size)
  have hib : Ib c bx M w.heap.size (w.heap.size + 1 + 1) (w.heap.size + 1 + 1 + 1) w2.heap.size (w2.alloc (.cells #[.func (.func 84) #[] #[.pointer (some ⟨w.heap.size, 0, none⟩), .pointer (some ⟨w.heap.size + 1 + 1, 0, none⟩), .pointer (some ⟨w.heap.size + 1 + 1 + 1, 0, none⟩), .pointer (some ⟨w2.heap.size, 0, none⟩)]] 39)) :=
    ⟨hb_below H4.out hb13 (hb_lt H4.out), hb_below H6.out hb13 (hb_lt H6.out), hb_below H7.out hb13 (hb_lt H7.out), h9, by omega, by omega, by omega, by omega⟩
  have HC := Lib.hid (imp_any (bx := bx) (M := M) hc hb0 d (fun _ => False) _ _ l ns ρ _ (fun g h => by cases h) (HIS.out.below hbw3) hib (HW1.out.trans (hb13.mono HW1.out.size)) hIsT.out HTY.out HROOM.out)
  have HBW := Lib.hid hbw3
  have e0 := hb_at (hb_below H5.out hb13 (hb_lt H5.out)) 0 rfl
  have e1 := hb_at (hb_below H5.out hb13 (hb_lt H5.out)) 1 rfl
  have e2 := hb_at (hb_below H5.out hb13 (hb_lt H5.out)) 2 rfl
  have e3 := hb_at (hb_below H5.out hb13 (hb_lt H5.out)) 3 rfl
  have e4 := hb_at (hb_below H5.out hb13 (hb_lt H5.out)) 4 rfl
  have e9 := hb_at h9 0 rfl
  clear c4 c6 c7 x0 x1 x2 x3 x4 d6 hem hnq hib hb3 hb13 hbw3 h9
  generalize w2.alloc (.cells #[.func (.func 84) #[] #[.pointer (some ⟨w.heap.size, 0, none⟩), .pointer (some ⟨w.heap.size + 1 + 1, 0, none⟩), .pointer (some ⟨w.heap.size + 1 + 1 + 1, 0, none⟩), .pointer (some ⟨w2.heap.size, 0, none⟩)]] 39) = W3 at *
  go_wp2_with (go_at_call 84; (with_reducible refine HC.out.mono ?_); rintro e w4 ⟨i, l2, ρ2, rfl, g1, g2, g3⟩; have G1 := Lib.hid g1; have G2 := Lib.hid g2; have G3 := Lib.hid g3; clear g1 g2 g3)
  all_goals
    go_ret
    exact ⟨i, l2, ρ2, rfl, G1.out, (KpM.of_below hsz.1 HBW.out).trans G2.out, G3.out⟩
end Go.Proofs.YtncebhddcokkoaaDoor
