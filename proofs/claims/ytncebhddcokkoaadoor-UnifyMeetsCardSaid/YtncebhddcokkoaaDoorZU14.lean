/- Texts in a row: Zn U9 Oa. -/
import Derived.Test.YtncebhddcokkoaaDoorZU13
import Derived.Test.YtncebhddcokkoaaDoorZU11
import Derived.Test.YtncebhddcokkoaaDoorZU10
import Derived.Test.YtncebhddcokkoaaDoorZU12
import Derived.Deep.QuietTactic
import Derived.BigQuiet
import Derived.Deep.DeepCutAuto
import Derived.Outline
import Derived.Test.YtncebhddcokkoaaDoorZU4
/- Canonical forms tell which types are the same; what SchemeOrder puts in (mathematics). -/
namespace Go.Proofs.YtncebhddcokkoaaDoor
open Go.RowKit
set_option linter.unusedVariables false
theorem put1_nodup {ns : List ByteArray} {k : Int} {n : ByteArray} (h : ns.Nodup) : (put1 ns k n).Nodup := by
  unfold put1
  split
  · rename_i hc
    rw [List.nodup_append]
    refine ⟨h, by simp, fun a ha b hb e => ?_⟩
    rw [List.mem_singleton.1 hb] at e
    have := inN_iff.2 (e ▸ ha)
    rw [hc.2] at this
    cases this
  · exact h
theorem vars_nodup : ∀ {d : Nat} {t : Tm} {ns : List ByteArray}, ns.Nodup → (varsT d ns t).Nodup := by
  intro d
  induction d with
  | zero => intro t ns h; exact h
  | succ d ih =>
    intro t ns h
    obtain ⟨k, p, n, N, kids⟩ := t
    have key : ∀ (l : List Tm) (ns : List ByteArray), ns.Nodup → (l.foldl (varsT d) ns).Nodup := by
      intro l
      induction l with
      | nil => intro ns h; exact h
      | cons x l ihl => intro ns h; exact ihl _ (ih h)
    exact key kids _ (put1_nodup h)
theorem vars_mem {d : Nat} {t : Tm} {v : ByteArray} (h : hasV d t v) : v ∈ varsT d [] t := inN_iff.1 ((inN_varsT d [] t).2 (.inr h))
theorem fg_nodup {ns : List ByteArray} (h : ns.Nodup) {i : Nat} {n : ByteArray} (hi : ns[i]? = some n) : fg ns ns.length n = some (i : Int) := by
  have hlt := (List.getElem?_eq_some_iff.1 hi).1
  refine fg_at (fun x hx e => ?_) hi _ hlt
  subst e
  obtain ⟨j, hj⟩ := List.getElem?_of_mem hx
  have hj2 := (List.getElem?_eq_some_iff.1 hj).1
  rw [List.length_take] at hj2
  rw [List.getElem?_take_of_lt (by omega)] at hj
  have h2 := (List.getElem?_inj hlt h).1 (hi.trans hj.symm)
  omega
theorem by_nodup {ns : List ByteArray} (h : ns.Nodup) {bys : List Tm} {i : Nat} {n : ByteArray} {t : Tm} (hi : ns[i]? = some n) (ht : bys[i]? = some t) : byOf (fg ns ns.length) bys n = some t := by
  unfold byOf
  rw [fg_nodup h hi]
  exact ht
theorem ren_ok {ns : List ByteArray} (h : ns.Nodup) : RenOk nmB ns (byOf (fg ns ns.length) (nmT ns.length)) := fun i n hi => by
  refine by_nodup h hi ?_
  have hlt := (List.getElem?_eq_some_iff.1 hi).1
  unfold nmT
  rw [List.getElem?_map, List.getElem?_range hlt]
  rfl
/-- One canonical form: the one is above the other one. -/
theorem ab_of_canon {nm : Nat → ByteArray} {ns ms : List ByteArray} {ρ π σ : ByteArray → Option Tm} (hρ : RenOk nm ns ρ) (hπ : RenOk nm ms π) (hinj : ∀ i j, i < ns.length → j < ms.length → nm i = nm j → i = j)
    (hσ : ∀ (i : Nat) (n m : ByteArray), ns[i]? = some n → ms[i]? = some m → σ n = some (vT m)) : ∀ {d : Nat} {a b : Tm}, Ty d a → Ty d b → (∀ v, hasV d a v → v ∈ ns) → (∀ v, hasV d b v → v ∈ ms) → sub ρ d a = sub π d b → Sol σ a b := by
  intro d
  induction d with
  | zero => intro a b h; cases h
  | succ d ih =>
    intro a b ha hb hva hvb he
    obtain ⟨k, p, n, N, l⟩ := a
    obtain ⟨k2, p2, n2, N2, m⟩ := b
    by_cases hk : k = 1
    · subst hk
      obtain ⟨i, hi⟩ := List.getElem?_of_mem (hva n (.inl ⟨rfl, rfl⟩))
      rw [sub_yes (hρ i n hi)] at he
      by_cases hk2 : k2 = 1
      · subst hk2
        obtain ⟨j, hj⟩ := List.getElem?_of_mem (hvb n2 (.inl ⟨rfl, rfl⟩))
        rw [sub_yes (hπ j n2 hj)] at he
        have e : nm i = nm j := by injection he
        obtain rfl := hinj i j (List.getElem?_eq_some_iff.1 hi).1 (List.getElem?_eq_some_iff.1 hj).1 e
        rw [hb.var]
        exact .var (hσ i n n2 hi hj)
      · rw [sub_no (by rw [if_neg hk2])] at he
        injection he with e1
        exact absurd e1.symm hk2
    · rw [sub_no (by rw [if_neg hk])] at he
      by_cases hk2 : k2 = 1
      · subst hk2
        obtain ⟨j, hj⟩ := List.getElem?_of_mem (hvb n2 (.inl ⟨rfl, rfl⟩))
        rw [sub_yes (hπ j n2 hj)] at he
        injection he with e1
        exact absurd e1 hk
      · rw [sub_no (by rw [if_neg hk2])] at he
        injection he with e1 e2 e3 e4 e5
        subst e1 e2 e3 e4
        have hl : l.length = m.length := by
          have := congrArg List.length e5
          simpa using this
        refine .con hk hl fun i x y hx hy => ?_
        refine ih (ha.kid hx) (hb.kid hy) (fun v hv => hva v (.inr ⟨x, List.mem_of_getElem? hx, hv⟩)) (fun v hv => hvb v (.inr ⟨y, List.mem_of_getElem? hy, hv⟩)) ?_
        have h1 := congrArg (fun z => z[i]?) e5
        simp only [List.getElem?_map, hx, hy, Option.map_some] at h1
        exact Option.some.inj h1
theorem canon_iff {d : Nat} {a b : Tm} (ha : Ty d a) (hb : Ty d b) (hla : (varsT d [] a).length ≤ 2600) (hlb : (varsT d [] b).length ≤ 2600) : canonT d a = canonT d b ↔ Ab a b ∧ Ab b a := by
  have na : (varsT d [] a).Nodup := vars_nodup (by simp)
  have nb : (varsT d [] b).Nodup := vars_nodup (by simp)
  have key : ∀ {a b : Tm}, Ty d a → Ty d b → (varsT d [] a).length ≤ 2600 → (varsT d [] b).length ≤ 2600 → canonT d a = canonT d b → Ab a b := by
    intro a b ha hb hla hlb he
    have na : (varsT d [] a).Nodup := vars_nodup (by simp)
    have nb : (varsT d [] b).Nodup := vars_nodup (by simp)
    refine ⟨byOf (fg (varsT d [] a) (varsT d [] a).length) ((varsT d [] b).map vT), ab_of_canon (ren_ok na) (ren_ok nb) (fun i j hi hj e => nm_inj (by omega) (by omega) e) (fun i n m hi hm => by_nodup na hi (by rw [List.getElem?_map, hm]; rfl)) ha hb (fun v hv => vars_mem hv) (fun v hv => vars_mem hv) he⟩
  constructor
  · intro he
    exact ⟨key ha hb hla hlb he, key hb ha hlb hla he.symm⟩
  · rintro ⟨⟨σ, h1⟩, τ, h2⟩
    have hR := Sol.rn ha hb h1 h2
    have hO : One (fun n m => σ n = some (vT m) ∧ τ m = some (vT n)) := ⟨fun n m m' h h' => by
      have e := Option.some.inj (h.1.symm.trans h'.1)
      injection e, fun n n' m h h' => by
      have e := Option.some.inj (h.2.symm.trans h'.2)
      injection e⟩
    have hE := hR.vars hO (d := d) (ns := []) (ms := []) ⟨rfl, fun i n m h => by simp at h⟩
    exact hR.sub hO (ren_ok na) (ren_ok nb) hE ha.dp fun v hv => vars_mem hv
theorem nodup_le : ∀ {l m : List ByteArray}, l.Nodup → (∀ x ∈ l, x ∈ m) → l.length ≤ m.length := by
  intro l
  induction l with
  | nil => intro m _ _; simp
  | cons x l ih =>
    intro m hn hs
    rw [List.nodup_cons] at hn
    have hx := hs x (by simp)
    obtain ⟨a, b, rfl⟩ := List.append_of_mem hx
    have h1 := ih (m := a ++ b) hn.2 fun y hy => by
      have h3 := hs y (by simp [hy])
      have hne : y ≠ x := fun e => hn.1 (by rw [← e]; exact hy)
      simp only [List.mem_append, List.mem_cons] at h3 ⊢
      rcases h3 with h3 | h3 | h3
      · exact .inl h3
      · exact absurd h3 hne
      · exact .inr h3
    simp only [List.length_cons, List.length_append] at h1 ⊢
    omega
/-- A type that may be gone through: so deep, so large, so many names. -/
structure Gd (d : Nat) (t : Tm) (z v : Nat) : Prop where
  ty : Ty d t
  sm : Sm d t
  sz : tszN d t ≤ z
  vs : (varsT d [] t).length ≤ v
theorem Gd.more {d z v : Nat} {t : Tm} (h : Gd d t z v) {d' z' v' : Nat} (hd : d ≤ d') (hz : z ≤ z') (hv : v ≤ v') : Gd d' t z' v' := by
  refine ⟨h.ty.more _ hd, Sm.all h.ty.dp h.sm _, by rw [tsz_dp h.ty.dp d' hd]; exact Nat.le_trans h.sz hz, ?_⟩
  have h1 := nodup_le (l := varsT d' [] t) (m := varsT d [] t) (vars_nodup (by simp)) fun x hx => by
    have h2 := (inN_varsT d' [] t).1 (inN_mem hx)
    rcases h2 with h2 | h2
    · simp [inN] at h2
    · exact vars_mem (hasV_le h.ty.dp _ h2)
  have := h.vs
  omega
/-- Two types put in the place of two variables. -/
def putT (d : Nat) (t x y : Tm) : Tm := sub (byOf (fg [⟨#[97]⟩, ⟨#[98]⟩] 2) [x, y]) d t
theorem Gd.put {d : Nat} {t x y : Tm} (h : Gd d t 40 600) (hx : Gd d x 600 600) (hy : Gd d y 600 600) : Gd (d + d) (putT d t x y) 24000 2600 := by
  have hm : ∀ z ∈ [x, y], Gd d z 600 600 := by
    intro z hz
    rcases List.mem_cons.1 hz with rfl | hz
    · exact hx
    · rw [List.mem_singleton.1 hz]; exact hy
  refine ⟨Ty.sub (fun n z e => (hm z (byOf_mem e)).ty) h.ty, sub_sm (fun n z e => Sm.all (hm z (byOf_mem e)).ty.dp (hm z (byOf_mem e)).sm) h.ty.dp h.sm _, ?_, ?_⟩
  · have h1 := tszN_sub (σ := byOf (fg [⟨#[97]⟩, ⟨#[98]⟩] 2) [x, y]) (K := 600) (by omega) (fun n z e D => Nat.le_trans (tszN_le (hm z (byOf_mem e)).ty.dp D) (hm z (byOf_mem e)).sz) h.ty.dp (d + d)
    have h2 := h.sz
    unfold putT
    omega
  · have h1 := nodup_le (l := varsT (d + d) [] (putT d t x y)) (m := varsT d [] t ++ [x, y].foldl (varsT d) []) (vars_nodup (by simp)) fun v hv => by
      rcases vars_new (e := d) h.ty.dp (fun z hz => (hm z hz).ty.dp) hv with h2 | h2
      · exact List.mem_append_left _ (inN_iff.1 h2)
      · exact List.mem_append_right _ (inN_iff.1 h2)
    have h2 : ([x, y].foldl (varsT d) []).length ≤ 1200 := by
      have e1 := varsT_length d [] x
      have e2 := varsT_length d (varsT d [] x) y
      have e3 := hx.sz
      have e4 := hy.sz
      simp only [List.foldl_cons, List.foldl_nil]
      simp at e1
      omega
    have h3 := h.vs
    rw [List.length_append] at h1
    omega
end Go.Proofs.YtncebhddcokkoaaDoor
/- The document's Size; what is put behind one another is what is put at once. -/
namespace Go.Proofs.YtncebhddcokkoaaDoor
open Go.RowKit
set_option maxRecDepth 100000 in
set_option maxHeartbeats 2000000 in
theorem rsize_any (d : Nat) : ∀ (va : Value) (ta : Tm) (w : World), IsT w d va ta → Calls Tryd.prog 16 #[va] w (SizeR d ta w) := by
  induction d with
  | zero => intro va ta w h; cases h
  | succ d ih =>
    intro va ta w ha
    obtain ⟨d1, k1, p1, n1, N1, s1, l1, e1, rfl, rfl, hp1, hn1, hk1⟩ := ha.open
    obtain rfl : d = d1 := by omega
    obtain ⟨q1, c1, hs1, hm1, hr1⟩ := hk1
    subst hs1
    have HR1 := Lib.hid hr1
    clear ha e1 hr1 hp1 hn1
    unfold maxLen at hm1
    have HIH := Lib.hid ih
    clear ih
    go_enter Tryd.func16, Tryd.ntmps16
    go_wp2
    have hBW : Below w.heap.size w (w.alloc (.cells #[.int .i64 k1, .string p1, .string n1, .int .i64 N1, .slice q1 l1.length c1] 36)) := below_alloc w _
    have hbx := hb_new w (.cells #[.int .i64 k1, .string p1, .string n1, .int .i64 N1, .slice q1 l1.length c1] 36)
    generalize hW1 : w.alloc (.cells #[.int .i64 k1, .string p1, .string n1, .int .i64 N1, .slice q1 l1.length c1] 36) = W1 at *
    have HBW := Lib.hid hBW
    have hzw : w.heap.size ≤ W1.heap.size := hBW.size
    have HBX := Lib.hid hbx
    clear hW1 hBW hbx
    go_loopw [3, 4] (fun n i wr => ∃ k : Nat, k ≤ l1.length ∧ i = .int .i64 k ∧ n = .int .i64 (szTo d k l1) ∧ Below W1.heap.size W1 wr) (fun _ i _ => l1.length - (intOf i).toNat)
    case atStart => exact ⟨0, Nat.zero_le _, rfl, rfl, Below.refl _ _⟩
    case round =>
      obtain ⟨k, hk, rfl, rfl, hB⟩ := hrel
      have hzr := hB.size
      have HB := Lib.hid hB
      have xk := hb_at (hb_below HBX.out hB (hb_lt HBX.out)) 4 rfl
      by_cases hlt : k < l1.length
      · have hx1 := List.getElem?_eq_getElem hlt
        have HN := Lib.hid (szTo_next (d := d) hlt)
        generalize l1[k] = x at *
        obtain ⟨b1, o1, k1', p1', n1', N1', s1', hq1, ha1, ht1⟩ := HR1.out k x hx1
        subst hq1
        obtain ⟨q3, l3, c3, hs3⟩ := ht1.spell
        subst hs3
        have hBR : Below w.heap.size w wr := HBW.out.trans (hB.mono (by omega))
        obtain ⟨x0, x1, x2, x3, x4⟩ := ha1.below hBR ha1.lt
        have HC : RowKit.Hid (∀ W, Below wr.heap.size wr W → Calls Tryd.prog 16 #[tv k1' p1' n1' N1' (.slice q3 l3 c3)] W (SizeR d x W)) :=
          Lib.hid fun W hW => HIH.out _ _ W ((ht1.below hBR).below hW)
        clear hx1 ht1 ha1 hB hBR
        generalize szTo d k l1 = m at *
        go_wp2_with (go_at_call 16; ((with_reducible refine (HC.out _ (Below.refl _ _)).mono ?_); rintro e w3 ⟨rfl, hb⟩))
        have HQ := Lib.hid (HB.out.trans (hb.mono hzr))
        go_roundw
        case rel => exact ⟨k + 1, by omega, by go_num, by rw [HN.out], HQ.out⟩
        case measure => simp [intOf]; omega
      · obtain rfl : k = l1.length := by omega
        go_wp2
        go_ret
        exact ⟨ret_int szTo_all, HBW.out.trans (HB.out.mono (by omega))⟩
theorem wrap64_small {n : Int} (h0 : 0 ≤ n) (h1 : n ≤ 2000000) : wrap64 n = n := by unfold wrap64; omega
theorem sz_eq : ∀ (d : Nat) (t : Tm), tszN d t ≤ 1000000 → sz d t = ((tszN d t : Nat) : Int) := by
  intro d
  induction d with
  | zero => intro t _; rfl
  | succ d ih =>
    intro t h
    obtain ⟨k, p, n, N, kids⟩ := t
    have key : ∀ (l : List Tm) (a : Nat), l.foldl (fun n t => n + tszN d t) a ≤ 1000000 → l.foldl (fun n t => wrap64 (n + sz d t)) (a : Int) = ((l.foldl (fun n t => n + tszN d t) a : Nat) : Int) := by
      intro l
      induction l with
      | nil => intro a _; rfl
      | cons x l ih2 =>
        intro a ha
        rw [List.foldl_cons] at ha
        have h2 := ha
        rw [foldl_add (tszN d)] at h2
        rw [List.foldl_cons, List.foldl_cons, ih x (by omega), wrap64_small (by omega) (by omega)]
        have := ih2 (a + tszN d x) ha
        simpa using this
    exact key kids 1 h
end Go.Proofs.YtncebhddcokkoaaDoor
/- SchemeOrder's calls, as it uses them; boxes and ties. -/
namespace Go.Proofs.YtncebhddcokkoaaDoor
open Go.RowKit
set_option linter.unusedVariables false
def BoolR (r : Bool) (w : World) (e : Ending) (w' : World) : Prop := e = .returned (.bool r) ∧ Below w.heap.size w w'
theorem Gd.two {w : World} {d d1 d2 z1 v1 z2 v2 : Nat} {va vb : Value} {ta tb : Tm} (ha : Gd d1 ta z1 v1) (hb : Gd d2 tb z2 v2) (ia : IsT w d1 va ta) (ib : IsT w d2 vb tb) (h1 : d1 ≤ d) (h2 : d2 ≤ d) (hz1 : z1 ≤ 30000) (hz2 : z2 ≤ 30000) : Two w d va vb ta tb :=
  ⟨ia.more h1, ib.more h2, (ha.more h1 hz1 (Nat.le_refl _)).sm, (hb.more h2 hz2 (Nat.le_refl _)).sm, (ha.more h1 hz1 (Nat.le_refl _)).sz, (hb.more h2 hz2 (Nat.le_refl _)).sz⟩
theorem IsT.shp {w : World} {d : Nat} {v : Value} {x : Tm} (h : IsT w d v x) : ∃ k p n N q l c, v = tv k p n N (.slice q l c) := by
  obtain ⟨_, k, p, n, N, _, l, _, _, rfl, _, _, q, c, rfl, _⟩ := h.open
  exact ⟨_, _, _, _, _, _, _, rfl⟩
def Inr.MP.row (xs : List ByteArray) : Inr.MP := ⟨fun v w => SRowO w v xs, fun v w w' h hb => h.below hb⟩
def Inr.MP.term (d : Nat) (t : Tm) : Inr.MP := ⟨fun v w => IsT w d v t, fun v w w' h hb => h.below hb⟩
def Inr.MP.kids (B0 d : Nat) (l : List Tm) : Inr.MP := ⟨fun v w => KidsE (fun b => b < B0) w d v l, fun v w w' h hb => h.below hb⟩
def Inr.MP.box (base : Nat) : Inr.MP := ⟨fun v w => ∃ g, v = .pointer (some ⟨g, 0, none⟩) ∧ base ≤ g ∧ w.heap[g]? = some (.cells #[.int .i64 0, .string ⟨#[]⟩, .string ⟨#[]⟩, .int .i64 0, .slice none 0 0] 36 (0, 0)),
  fun v w w' ⟨g, h1, h2, h3⟩ hb => ⟨g, h1, h2, hb_below h3 hb (hb_lt h3)⟩⟩
/-- A term whose lists don't lie in a box. -/
def Inr.Tie.apart (a b d : Nat) (t : Tm) : Inr.Tie := ⟨a, b, fun v u w => ∃ g, u = .pointer (some ⟨g, 0, none⟩) ∧ IsX (fun b => b ≠ g) w d v t, fun v u w w' ⟨g, h1, h2⟩ hb => ⟨g, h1, h2.below hb⟩⟩
theorem SRowO.two {w : World} {g : Nat} {x y : ByteArray} (h : w.heap[g]? = some (.cells #[.string x, .string y] 9 (0, 0))) : SRowO w (.slice (some ⟨g, 0, none⟩) 2 2) [x, y] := by
  refine ⟨_, 2, rfl, fun i z hz => ⟨g, 0, rfl, ?_⟩⟩
  match i, hz with
  | 0, hz => cases hz; exact hb_at h 0 rfl
  | 1, hz => cases hz; exact hb_at h 1 rfl
  | i + 2, hz => simp at hz
theorem KidsE.two {w w0 : World} {g d : Nat} {k : Int} {p n : ByteArray} {N : Int} {s : Value} {t : Tm} {k2 : Int} {p2 n2 : ByteArray} {N2 : Int} {s2 : Value} {t2 : Tm}
    (h : w.heap[g]? = some (.cells #[.int .i64 k, .string p, .string n, .int .i64 N, s, .int .i64 k2, .string p2, .string n2, .int .i64 N2, s2] 36 (0, 0)))
    (hb : Below w0.heap.size w0 w) (h1 : IsT w0 d (tv k p n N s) t) (h2 : IsT w0 d (tv k2 p2 n2 N2 s2) t2) : KidsE (fun b => b < w0.heap.size) w d (.slice (some ⟨g, 0, none⟩) 2 2) [t, t2] := by
  refine ⟨_, 2, rfl, by show 2 ≤ maxLen; decide, fun i x hx => ?_⟩
  match i, hx with
  | 0, hx =>
    cases hx
    exact ⟨g, 0, k, p, n, N, s, rfl, trivial, ⟨hb_at h 0 rfl, hb_at h 1 rfl, hb_at h 2 rfl, hb_at h 3 rfl, hb_at h 4 rfl⟩, h1.isX.below hb⟩
  | 1, hx =>
    cases hx
    exact ⟨g, 0, k2, p2, n2, N2, s2, rfl, trivial, ⟨hb_at h 5 rfl, hb_at h 6 rfl, hb_at h 7 rfl, hb_at h 8 rfl, hb_at h 9 rfl⟩, h2.isX.below hb⟩
  | i + 2, hx => simp at hx
end Go.Proofs.YtncebhddcokkoaaDoor
