/- Canonical forms tell which types are the same; what SchemeOrder puts in (mathematics). -/
import Derived.Test.YtknbhnicmgglbaaDoorCn
import Derived.Test.YtknbhnicmgglbaaDoorYc
import Derived.Test.YtknbhnicmgglbaaDoorVb
namespace Go.Proofs.YtknbhnicmgglbaaDoor
open Go.RowKit
set_option linter.unusedVariables false
theorem put1_nodup {ns : List ByteArray} {k : Int} {n : ByteArray} (h : ns.Nodup) : (put1 ns k n).Nodup := by
  unfold put1
  split
  · rename_i hc
    rw [List.nodup_append]
    refine ⟨h, by simp, fun a ha b hb e => ?_⟩
    rw [List.mem_singleton.1 hb] at e
    have := inN_iff.2 (e ▸ ha)
    rw [hc.2] at this
    cases this
  · exact h
theorem vars_nodup : ∀ {d : Nat} {t : Tm} {ns : List ByteArray}, ns.Nodup → (varsT d ns t).Nodup := by
  intro d
  induction d with
  | zero => intro t ns h; exact h
  | succ d ih =>
    intro t ns h
    obtain ⟨k, p, n, N, kids⟩ := t
    have key : ∀ (l : List Tm) (ns : List ByteArray), ns.Nodup → (l.foldl (varsT d) ns).Nodup := by
      intro l
      induction l with
      | nil => intro ns h; exact h
      | cons x l ihl => intro ns h; exact ihl _ (ih h)
    exact key kids _ (put1_nodup h)
theorem vars_mem {d : Nat} {t : Tm} {v : ByteArray} (h : hasV d t v) : v ∈ varsT d [] t := inN_iff.1 ((inN_varsT d [] t).2 (.inr h))
theorem fg_nodup {ns : List ByteArray} (h : ns.Nodup) {i : Nat} {n : ByteArray} (hi : ns[i]? = some n) : fg ns ns.length n = some (i : Int) := by
  have hlt := (List.getElem?_eq_some_iff.1 hi).1
  refine fg_at (fun x hx e => ?_) hi _ hlt
  subst e
  obtain ⟨j, hj⟩ := List.getElem?_of_mem hx
  have hj2 := (List.getElem?_eq_some_iff.1 hj).1
  rw [List.length_take] at hj2
  rw [List.getElem?_take_of_lt (by omega)] at hj
  have h2 := (List.getElem?_inj hlt h).1 (hi.trans hj.symm)
  omega
theorem by_nodup {ns : List ByteArray} (h : ns.Nodup) {bys : List Tm} {i : Nat} {n : ByteArray} {t : Tm} (hi : ns[i]? = some n) (ht : bys[i]? = some t) : byOf (fg ns ns.length) bys n = some t := by
  unfold byOf
  rw [fg_nodup h hi]
  exact ht
theorem ren_ok {ns : List ByteArray} (h : ns.Nodup) : RenOk nmB ns (byOf (fg ns ns.length) (nmT ns.length)) := fun i n hi => by
  refine by_nodup h hi ?_
  have hlt := (List.getElem?_eq_some_iff.1 hi).1
  unfold nmT
  rw [List.getElem?_map, List.getElem?_range hlt]
  rfl
/-- One canonical form: the one is above the other one. -/
theorem ab_of_canon {nm : Nat → ByteArray} {ns ms : List ByteArray} {ρ π σ : ByteArray → Option Tm} (hρ : RenOk nm ns ρ) (hπ : RenOk nm ms π) (hinj : ∀ i j, i < ns.length → j < ms.length → nm i = nm j → i = j)
    (hσ : ∀ (i : Nat) (n m : ByteArray), ns[i]? = some n → ms[i]? = some m → σ n = some (vT m)) : ∀ {d : Nat} {a b : Tm}, Ty d a → Ty d b → (∀ v, hasV d a v → v ∈ ns) → (∀ v, hasV d b v → v ∈ ms) → sub ρ d a = sub π d b → Sol σ a b := by
  intro d
  induction d with
  | zero => intro a b h; cases h
  | succ d ih =>
    intro a b ha hb hva hvb he
    obtain ⟨k, p, n, N, l⟩ := a
    obtain ⟨k2, p2, n2, N2, m⟩ := b
    by_cases hk : k = 1
    · subst hk
      obtain ⟨i, hi⟩ := List.getElem?_of_mem (hva n (.inl ⟨rfl, rfl⟩))
      rw [sub_yes (hρ i n hi)] at he
      by_cases hk2 : k2 = 1
      · subst hk2
        obtain ⟨j, hj⟩ := List.getElem?_of_mem (hvb n2 (.inl ⟨rfl, rfl⟩))
        rw [sub_yes (hπ j n2 hj)] at he
        have e : nm i = nm j := by injection he
        obtain rfl := hinj i j (List.getElem?_eq_some_iff.1 hi).1 (List.getElem?_eq_some_iff.1 hj).1 e
        rw [hb.var]
        exact .var (hσ i n n2 hi hj)
      · rw [sub_no (by rw [if_neg hk2])] at he
        injection he with e1
        exact absurd e1.symm hk2
    · rw [sub_no (by rw [if_neg hk])] at he
      by_cases hk2 : k2 = 1
      · subst hk2
        obtain ⟨j, hj⟩ := List.getElem?_of_mem (hvb n2 (.inl ⟨rfl, rfl⟩))
        rw [sub_yes (hπ j n2 hj)] at he
        injection he with e1
        exact absurd e1 hk
      · rw [sub_no (by rw [if_neg hk2])] at he
        injection he with e1 e2 e3 e4 e5
        subst e1 e2 e3 e4
        have hl : l.length = m.length := by
          have := congrArg List.length e5
          simpa using this
        refine .con hk hl fun i x y hx hy => ?_
        refine ih (ha.kid hx) (hb.kid hy) (fun v hv => hva v (.inr ⟨x, List.mem_of_getElem? hx, hv⟩)) (fun v hv => hvb v (.inr ⟨y, List.mem_of_getElem? hy, hv⟩)) ?_
        have h1 := congrArg (fun z => z[i]?) e5
        simp only [List.getElem?_map, hx, hy, Option.map_some] at h1
        exact Option.some.inj h1
theorem canon_iff {d : Nat} {a b : Tm} (ha : Ty d a) (hb : Ty d b) (hla : (varsT d [] a).length ≤ 2600) (hlb : (varsT d [] b).length ≤ 2600) : canonT d a = canonT d b ↔ Ab a b ∧ Ab b a := by
  have na : (varsT d [] a).Nodup := vars_nodup (by simp)
  have nb : (varsT d [] b).Nodup := vars_nodup (by simp)
  have key : ∀ {a b : Tm}, Ty d a → Ty d b → (varsT d [] a).length ≤ 2600 → (varsT d [] b).length ≤ 2600 → canonT d a = canonT d b → Ab a b := by
    intro a b ha hb hla hlb he
    have na : (varsT d [] a).Nodup := vars_nodup (by simp)
    have nb : (varsT d [] b).Nodup := vars_nodup (by simp)
    refine ⟨byOf (fg (varsT d [] a) (varsT d [] a).length) ((varsT d [] b).map vT), ab_of_canon (ren_ok na) (ren_ok nb) (fun i j hi hj e => nm_inj (by omega) (by omega) e) (fun i n m hi hm => by_nodup na hi (by rw [List.getElem?_map, hm]; rfl)) ha hb (fun v hv => vars_mem hv) (fun v hv => vars_mem hv) he⟩
  constructor
  · intro he
    exact ⟨key ha hb hla hlb he, key hb ha hlb hla he.symm⟩
  · rintro ⟨⟨σ, h1⟩, τ, h2⟩
    have hR := Sol.rn ha hb h1 h2
    have hO : One (fun n m => σ n = some (vT m) ∧ τ m = some (vT n)) := ⟨fun n m m' h h' => by
      have e := Option.some.inj (h.1.symm.trans h'.1)
      injection e, fun n n' m h h' => by
      have e := Option.some.inj (h.2.symm.trans h'.2)
      injection e⟩
    have hE := hR.vars hO (d := d) (ns := []) (ms := []) ⟨rfl, fun i n m h => by simp at h⟩
    exact hR.sub hO (ren_ok na) (ren_ok nb) hE ha.dp fun v hv => vars_mem hv
theorem sameM_iff {a b : Tm} {r : Bool} (h : SameM a b r) : r = true ↔ Ab a b ∧ Ab b a := by
  obtain ⟨r1, h1, h2, h3⟩ := h
  cases r1 with
  | false =>
    have h4 := mt_iff h1
    rw [h2 rfl]
    constructor
    · intro e; cases e
    · rintro ⟨e, _⟩
      exact absurd (h4.2 e) (by simp)
  | true =>
    have h4 := (mt_iff h1).1 rfl
    have h5 := mt_iff (h3 rfl)
    rw [h5]
    exact ⟨fun e => ⟨h4, e⟩, fun e => e.2⟩
theorem canon_ab {d : Nat} {a : Tm} (ha : Ty d a) (hla : (varsT d [] a).length ≤ 2600) : Ab a (canonT d a) ∧ Ab (canonT d a) a := by
  have na : (varsT d [] a).Nodup := vars_nodup (by simp)
  refine ⟨Ab.of_sub ha, byOf (fg (((List.range (varsT d [] a).length)).map nmB) ((List.range (varsT d [] a).length).map nmB).length) ((varsT d [] a).map vT), ?_⟩
  have hn : ((List.range (varsT d [] a).length).map nmB).Nodup := by
    refine List.pairwise_iff_getElem.2 fun i j hi hj hij e => ?_
    rw [List.length_map, List.length_range] at hi hj
    rw [List.getElem_map, List.getElem_map, List.getElem_range, List.getElem_range] at e
    have := nm_inj (by omega) (by omega) e
    omega
  have key : ∀ (e : Nat) (t : Tm), Ty e t → (∀ v, hasV e t v → v ∈ varsT d [] a) → Sol (byOf (fg (((List.range (varsT d [] a).length)).map nmB) ((List.range (varsT d [] a).length).map nmB).length) ((varsT d [] a).map vT)) (sub (byOf (fg (varsT d [] a) (varsT d [] a).length) (nmT (varsT d [] a).length)) e t) t := by
    intro e
    induction e with
    | zero => intro t h; cases h
    | succ e ih =>
      intro t ht hv
      obtain ⟨k, p, n, N, l⟩ := t
      by_cases hk : k = 1
      · subst hk
        obtain ⟨i, hi⟩ := List.getElem?_of_mem (hv n (.inl ⟨rfl, rfl⟩))
        have hlt := (List.getElem?_eq_some_iff.1 hi).1
        rw [sub_yes (ren_ok na i n hi), ht.var]
        exact .var (by_nodup hn (i := i) (by rw [List.getElem?_map, List.getElem?_range hlt]; rfl) (by rw [List.getElem?_map, hi]; rfl))
      · rw [sub_no (by rw [if_neg hk])]
        refine .con hk (by simp) fun i x y hx hy => ?_
        rw [List.getElem?_map, hy] at hx
        cases hx
        exact ih y (ht.kid hy) fun v h => hv v (.inr ⟨y, List.mem_of_getElem? hy, h⟩)
  exact key d a ha fun v hv => vars_mem hv
theorem nodup_le : ∀ {l m : List ByteArray}, l.Nodup → (∀ x ∈ l, x ∈ m) → l.length ≤ m.length := by
  intro l
  induction l with
  | nil => intro m _ _; simp
  | cons x l ih =>
    intro m hn hs
    rw [List.nodup_cons] at hn
    have hx := hs x (by simp)
    obtain ⟨a, b, rfl⟩ := List.append_of_mem hx
    have h1 := ih (m := a ++ b) hn.2 fun y hy => by
      have h3 := hs y (by simp [hy])
      have hne : y ≠ x := fun e => hn.1 (by rw [← e]; exact hy)
      simp only [List.mem_append, List.mem_cons] at h3 ⊢
      rcases h3 with h3 | h3 | h3
      · exact .inl h3
      · exact absurd h3 hne
      · exact .inr h3
    simp only [List.length_cons, List.length_append] at h1 ⊢
    omega
theorem nmT_ty {n : Nat} : ∀ x ∈ nmT n, Ty 1 x := by
  intro x hx
  unfold nmT at hx
  obtain ⟨i, _, rfl⟩ := List.mem_map.1 hx
  exact Ty.leaf _ 0
theorem nmT_sz {n : Nat} : ∀ x ∈ nmT n, ∀ D, tszN D x ≤ 1 := by
  intro x hx D
  unfold nmT at hx
  obtain ⟨i, _, rfl⟩ := List.mem_map.1 hx
  cases D with
  | zero => exact Nat.zero_le _
  | succ D => exact Nat.le_refl _
theorem nmT_sm {n : Nat} : ∀ x ∈ nmT n, ∀ D, Sm D x := by
  intro x hx D
  unfold nmT at hx
  obtain ⟨i, _, rfl⟩ := List.mem_map.1 hx
  cases D with
  | zero => trivial
  | succ D => exact ⟨Nat.zero_le _, fun y hy => by cases hy⟩
/-- A type that may be gone through: so deep, so large, so many names. -/
structure Gd (d : Nat) (t : Tm) (z v : Nat) : Prop where
  ty : Ty d t
  sm : Sm d t
  sz : tszN d t ≤ z
  vs : (varsT d [] t).length ≤ v
theorem Gd.canon {d z v : Nat} {t : Tm} (h : Gd d t z v) : Ty (1 + d) (canonT d t) ∧ Sm (1 + d) (canonT d t) ∧ tszN (1 + d) (canonT d t) ≤ z := by
  refine ⟨Ty.sub (fun n y e => nmT_ty y (byOf_mem e)) h.ty, sub_sm (fun n y e => nmT_sm y (byOf_mem e)) h.ty.dp h.sm _, ?_⟩
  have := tszN_sub (σ := byOf (fg (varsT d [] t) (varsT d [] t).length) (nmT (varsT d [] t).length)) (K := 1) (Nat.le_refl _) (fun n y e D => nmT_sz y (byOf_mem e) D) h.ty.dp (1 + d)
  have h2 := h.sz
  unfold canonT
  omega
theorem Gd.more {d z v : Nat} {t : Tm} (h : Gd d t z v) {d' z' v' : Nat} (hd : d ≤ d') (hz : z ≤ z') (hv : v ≤ v') : Gd d' t z' v' := by
  refine ⟨h.ty.more _ hd, Sm.all h.ty.dp h.sm _, by rw [tsz_dp h.ty.dp d' hd]; exact Nat.le_trans h.sz hz, ?_⟩
  have h1 := nodup_le (l := varsT d' [] t) (m := varsT d [] t) (vars_nodup (by simp)) fun x hx => by
    have h2 := (inN_varsT d' [] t).1 (inN_mem hx)
    rcases h2 with h2 | h2
    · simp [inN] at h2
    · exact vars_mem (hasV_le h.ty.dp _ h2)
  have := h.vs
  omega
theorem Gd.of_few {d : Nat} {t : Tm} (h1 : Sm d t) (h2 : tszN d t ≤ 600) (h3 : Ty d t) : Gd d t 600 600 := by
  refine ⟨h3, h1, h2, ?_⟩
  have := varsT_length d [] t
  simp at this
  omega
/-- Two types put in the place of two variables. -/
def putT (d : Nat) (t x y : Tm) : Tm := sub (byOf (fg [⟨#[97]⟩, ⟨#[98]⟩] 2) [x, y]) d t
theorem Gd.put {d : Nat} {t x y : Tm} (h : Gd d t 40 600) (hx : Gd d x 600 600) (hy : Gd d y 600 600) : Gd (d + d) (putT d t x y) 24000 2600 := by
  have hm : ∀ z ∈ [x, y], Gd d z 600 600 := by
    intro z hz
    rcases List.mem_cons.1 hz with rfl | hz
    · exact hx
    · rw [List.mem_singleton.1 hz]; exact hy
  refine ⟨Ty.sub (fun n z e => (hm z (byOf_mem e)).ty) h.ty, sub_sm (fun n z e => Sm.all (hm z (byOf_mem e)).ty.dp (hm z (byOf_mem e)).sm) h.ty.dp h.sm _, ?_, ?_⟩
  · have h1 := tszN_sub (σ := byOf (fg [⟨#[97]⟩, ⟨#[98]⟩] 2) [x, y]) (K := 600) (by omega) (fun n z e D => Nat.le_trans (tszN_le (hm z (byOf_mem e)).ty.dp D) (hm z (byOf_mem e)).sz) h.ty.dp (d + d)
    have h2 := h.sz
    unfold putT
    omega
  · have h1 := nodup_le (l := varsT (d + d) [] (putT d t x y)) (m := varsT d [] t ++ [x, y].foldl (varsT d) []) (vars_nodup (by simp)) fun v hv => by
      rcases vars_new (e := d) h.ty.dp (fun z hz => (hm z hz).ty.dp) hv with h2 | h2
      · exact List.mem_append_left _ (inN_iff.1 h2)
      · exact List.mem_append_right _ (inN_iff.1 h2)
    have h2 : ([x, y].foldl (varsT d) []).length ≤ 1200 := by
      have e1 := varsT_length d [] x
      have e2 := varsT_length d (varsT d [] x) y
      have e3 := hx.sz
      have e4 := hy.sz
      simp only [List.foldl_cons, List.foldl_nil]
      simp at e1
      omega
    have h3 := h.vs
    rw [List.length_append] at h1
    omega
theorem same_canon {d : Nat} {a b : Tm} {r : Bool} {z v z' v' : Nat} (ha : Gd d a z v) (hb : Gd d b z' v') (hv : v ≤ 2600) (hv' : v' ≤ 2600) (h : SameM a b r) : r = same (canonT d a) (canonT d b) := by
  have h1 := sameM_iff h
  have h2 := canon_iff ha.ty hb.ty (Nat.le_trans ha.vs hv) (Nat.le_trans hb.vs hv')
  cases r with
  | true => exact (same_iff.2 (h2.2 (h1.1 rfl))).symm
  | false => exact (same_no fun e => by have := h1.2 (h2.1 e); cases this).symm
end Go.Proofs.YtknbhnicmgglbaaDoor
