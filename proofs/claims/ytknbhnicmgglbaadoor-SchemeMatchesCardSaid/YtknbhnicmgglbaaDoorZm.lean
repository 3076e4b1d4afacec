/- What Match finds; being above; canonical forms (mathematics). -/
import Derived.Test.YtknbhnicmgglbaaDoorVm
import Derived.Test.YtknbhnicmgglbaaDoorXa
namespace Go.Proofs.YtknbhnicmgglbaaDoor
open Go.RowKit
/-- A variable. -/
abbrev vT (s : ByteArray) : Tm := .mk 1 ⟨#[]⟩ s 0 []
/-- A type becomes another one, if so much is put. -/
inductive Sol (σ : ByteArray → Option Tm) : Tm → Tm → Prop
  | var {p n : ByteArray} {N : Int} {l : List Tm} {s : Tm} : σ n = some s → Sol σ (.mk 1 p n N l) s
  | con {k N : Int} {p n : ByteArray} {l m : List Tm} : k ≠ 1 → l.length = m.length → (∀ (i : Nat) (x y : Tm), l[i]? = some x → m[i]? = some y → Sol σ x y) → Sol σ (.mk k p n N l) (.mk k p n N m)
def Ext (P σ : ByteArray → Option Tm) : Prop := ∀ n t, P n = some t → σ n = some t
theorem Ext.refl (P : ByteArray → Option Tm) : Ext P P := fun _ _ h => h
theorem Ext.trans {P Q R : ByteArray → Option Tm} (h : Ext P Q) (h' : Ext Q R) : Ext P R := fun n t e => h' n t (h n t e)
theorem Ext.up {P : ByteArray → Option Tm} {n : ByteArray} {s : Tm} (h : P n = none) : Ext P (upV P n s) := fun m t e => by
  unfold upV
  by_cases hm : m = n
  · rw [hm, h] at e; cases e
  · rw [if_neg hm]; exact e
theorem Ext.up_le {P σ : ByteArray → Option Tm} {n : ByteArray} {s : Tm} (h : Ext P σ) (hs : σ n = some s) : Ext (upV P n s) σ := fun m t e => by
  unfold upV at e
  by_cases hm : m = n
  · rw [if_pos hm] at e; cases e; rw [hm]; exact hs
  · rw [if_neg hm] at e; exact h m t e
theorem zip_mem {l m : List Tm} {i : Nat} {x y : Tm} (hx : l[i]? = some x) (hy : m[i]? = some y) : (x, y) ∈ l.zip m := by
  refine List.mem_of_getElem? (i := i) ?_
  rw [List.getElem?_zip_eq_some]
  exact ⟨hx, hy⟩
theorem Mt.yes {st : List (Tm × Tm)} {P : ByteArray → Option Tm} {r : Bool} (h : Mt st P r) : r = true → ∃ Q, Ext P Q ∧ ∀ x ∈ st, Sol Q x.1 x.2 := by
  induction h with
  | done => intro _; exact ⟨_, Ext.refl _, fun x hx => by cases hx⟩
  | old h1 _ ih =>
    intro e
    obtain ⟨Q, i1, i2⟩ := ih e
    refine ⟨Q, i1, fun x hx => ?_⟩
    rcases List.mem_cons.1 hx with rfl | hx
    · exact .var (i1 _ _ h1)
    · exact i2 x hx
  | clash => intro e; cases e
  | new h1 _ ih =>
    intro e
    obtain ⟨Q, i1, i2⟩ := ih e
    refine ⟨Q, (Ext.up h1).trans i1, fun x hx => ?_⟩
    rcases List.mem_cons.1 hx with rfl | hx
    · exact .var (i1 _ _ (by unfold upV; rw [if_pos rfl]))
    · exact i2 x hx
  | differ => intro e; cases e
  | go h1 h2 _ ih =>
    intro e
    obtain ⟨Q, i1, i2⟩ := ih e
    refine ⟨Q, i1, fun x hx => ?_⟩
    rcases List.mem_cons.1 hx with rfl | hx
    · exact .con h1 h2 fun i x y hx hy => i2 (x, y) (List.mem_append_left _ (List.mem_reverse.2 (zip_mem hx hy)))
    · exact i2 x (List.mem_append_right _ hx)
theorem Mt.least {st : List (Tm × Tm)} {P : ByteArray → Option Tm} {r : Bool} (h : Mt st P r) : ∀ {σ : ByteArray → Option Tm}, Ext P σ → (∀ x ∈ st, Sol σ x.1 x.2) → r = true := by
  induction h with
  | done => intro σ _ _; rfl
  | old h1 _ ih => intro σ hE hs; exact ih hE fun x hx => hs x (List.mem_cons_of_mem _ hx)
  | clash h1 h2 =>
    intro σ hE hs
    have h3 := hs _ (List.mem_cons_self ..)
    cases h3 with
    | var h => exact absurd (Option.some.inj ((hE _ _ h1).symm.trans h)) h2
    | con h => exact absurd rfl h
  | new h1 _ ih =>
    intro σ hE hs
    have h3 := hs _ (List.mem_cons_self ..)
    cases h3 with
    | var h => exact ih (hE.up_le h) fun x hx => hs x (List.mem_cons_of_mem _ hx)
    | con h => exact absurd rfl h
  | differ h1 h2 =>
    intro σ hE hs
    have h4 := hs _ (List.mem_cons_self ..)
    cases h4 with
    | var h => exact absurd rfl h1
    | con h h3 _ => exact absurd ⟨rfl, rfl, rfl, rfl, h3⟩ h2
  | go h1 h2 _ ih =>
    intro σ hE hs
    refine ih hE fun x hx => ?_
    rcases List.mem_append.1 hx with hx | hx
    · obtain ⟨i, hi⟩ := List.getElem?_of_mem (List.mem_reverse.1 hx)
      rw [List.getElem?_zip_eq_some] at hi
      have h4 := hs _ (List.mem_cons_self ..)
      cases h4 with
      | var h => exact absurd rfl h1
      | con _ _ h3 => exact h3 i x.1 x.2 hi.1 hi.2
    · exact hs x (List.mem_cons_of_mem _ hx)
/-- One type is above another one. -/
def Ab (a b : Tm) : Prop := ∃ σ, Sol σ a b
theorem mt_iff {a b : Tm} {r : Bool} (h : Mt [(a, b)] (fun _ => none) r) : r = true ↔ Ab a b := by
  constructor
  · intro e
    obtain ⟨Q, _, h2⟩ := h.yes e
    exact ⟨Q, h2 (a, b) (List.mem_singleton.2 rfl)⟩
  · rintro ⟨σ, hσ⟩
    refine h.least (σ := σ) (fun n t e => by cases e) fun x hx => ?_
    rw [List.mem_singleton.1 hx]
    exact hσ
/-- Types: variables have no parts, and no line. -/
def Ty : Nat → Tm → Prop
  | 0, _ => False
  | d + 1, .mk k p _ N kids => N = 0 ∧ (k = 1 → kids = [] ∧ p = ⟨#[]⟩) ∧ ∀ x ∈ kids, Ty d x
theorem Ty.dp : ∀ {d : Nat} {t : Tm}, Ty d t → Dp d t := by
  intro d
  induction d with
  | zero => intro t h; cases h
  | succ d ih =>
    intro t h
    obtain ⟨k, p, n, N, kids⟩ := t
    exact fun x hx => ih (h.2.2 x hx)
theorem Ty.more : ∀ {d : Nat} {t : Tm}, Ty d t → ∀ d', d ≤ d' → Ty d' t := by
  intro d
  induction d with
  | zero => intro t h; cases h
  | succ d ih =>
    intro t h d' hd
    obtain ⟨e, rfl⟩ : ∃ e, d' = e + 1 := ⟨d' - 1, by omega⟩
    obtain ⟨k, p, n, N, kids⟩ := t
    exact ⟨h.1, h.2.1, fun x hx => ih (h.2.2 x hx) e (by omega)⟩
theorem Ty.var {d : Nat} {p n : ByteArray} {N : Int} {l : List Tm} (h : Ty d (.mk 1 p n N l)) : (Tm.mk 1 p n N l) = vT n := by
  cases d with
  | zero => cases h
  | succ d =>
    obtain ⟨rfl, h2, _⟩ := h
    obtain ⟨rfl, rfl⟩ := h2 rfl
    rfl
theorem Ty.kid {d : Nat} {k N : Int} {p n : ByteArray} {l : List Tm} {x : Tm} {i : Nat} (h : Ty (d + 1) (.mk k p n N l)) (hx : l[i]? = some x) : Ty d x := h.2.2 x (List.mem_of_getElem? hx)
theorem Ty.leaf (s : ByteArray) (d : Nat) : Ty (d + 1) (vT s) := ⟨rfl, fun _ => ⟨rfl, rfl⟩, fun x hx => by cases hx⟩
theorem Ty.sub {σ : ByteArray → Option Tm} {e : Nat} (hσ : ∀ n y, σ n = some y → Ty e y) : ∀ {d : Nat} {t : Tm}, Ty d t → Ty (e + d) (sub σ d t) := by
  intro d
  induction d with
  | zero => intro t h; cases h
  | succ d ih =>
    intro t h
    obtain ⟨k, p, n, N, kids⟩ := t
    cases hc : (if k = 1 then σ n else none) with
    | some y =>
      by_cases hk : k = 1
      · subst hk
        rw [if_pos rfl] at hc
        rw [sub_yes hc]
        exact (hσ n y hc).more _ (by omega)
      · rw [if_neg hk] at hc; cases hc
    | none =>
      rw [sub_no hc]
      refine ⟨h.1, fun hk => ?_, fun x hx => ?_⟩
      · obtain ⟨rfl, rfl⟩ := h.2.1 hk
        exact ⟨rfl, rfl⟩
      · obtain ⟨z, hz, rfl⟩ := List.mem_map.1 hx
        exact ih (h.2.2 z hz)
/-- A type becomes what it is where so much is put. -/
theorem Sol.of_sub {σ : ByteArray → Option Tm} : ∀ {d : Nat} {t : Tm}, Ty d t → Sol (fun n => some ((σ n).getD (vT n))) t (sub σ d t) := by
  intro d
  induction d with
  | zero => intro t h; cases h
  | succ d ih =>
    intro t h
    obtain ⟨k, p, n, N, kids⟩ := t
    by_cases hk : k = 1
    · subst hk
      have hv := h.var
      cases hc : σ n with
      | some y =>
        rw [sub_yes hc]
        exact .var (by rw [hc]; rfl)
      | none =>
        rw [hv, sub_no (by rw [if_pos rfl, hc])]
        exact .var (by rw [hc]; rfl)
    · rw [sub_no (by rw [if_neg hk])]
      refine .con hk (by simp) fun i x y hx hy => ?_
      rw [List.getElem?_map, hx] at hy
      cases hy
      exact ih (h.kid hx)
theorem Ab.of_sub {σ : ByteArray → Option Tm} {d : Nat} {t : Tm} (h : Ty d t) : Ab t (sub σ d t) := ⟨_, Sol.of_sub h⟩
theorem Ab.refl {d : Nat} {t : Tm} (h : Ty d t) : Ab t t := by
  have h2 := Ab.of_sub (σ := fun _ => none) h
  rwa [sub_none (fun _ => rfl)] at h2
theorem Sol.det {σ : ByteArray → Option Tm} {a b : Tm} (h : Sol σ a b) : ∀ {c : Tm}, Sol σ a c → b = c := by
  induction h with
  | var h =>
    intro c h2
    cases h2 with
    | var h3 => exact Option.some.inj (h.symm.trans h3)
    | con h3 => exact absurd rfl h3
  | con h1 h2 h3 ih =>
    intro c h4
    cases h4 with
    | var => exact absurd rfl h1
    | con _ h5 h6 =>
      congr 1
      refine List.ext_getElem (h2.symm.trans h5) fun i hi hj => ?_
      have hl := h2 ▸ hi
      exact ih i _ _ (List.getElem?_eq_getElem (by omega)) (List.getElem?_eq_getElem hi) (h6 i _ _ (List.getElem?_eq_getElem (by omega)) (List.getElem?_eq_getElem hj))
noncomputable def after (τ : ByteArray → Option Tm) (y : Tm) : Option Tm := by
  classical exact if h : ∃ z, Sol τ y z then some (Classical.choose h) else none
theorem after_is {τ : ByteArray → Option Tm} {y z : Tm} (h : Sol τ y z) : after τ y = some z := by
  unfold after
  have h2 : ∃ z, Sol τ y z := ⟨z, h⟩
  rw [dif_pos h2]
  congr 1
  exact (Classical.choose_spec h2).det h
theorem Sol.trans {σ τ : ByteArray → Option Tm} {a b : Tm} (h : Sol σ a b) : ∀ {c : Tm}, Sol τ b c → Sol (fun n => (σ n).bind (after τ)) a c := by
  induction h with
  | var h =>
    intro c h2
    exact .var (by rw [h]; exact after_is h2)
  | con h1 h2 h3 ih =>
    intro c h4
    cases h4 with
    | var => exact absurd rfl h1
    | con _ h5 h6 =>
      refine .con h1 (h2.trans h5) fun i x z hx hz => ?_
      have hi := (List.getElem?_eq_some_iff.1 hz).1
      exact ih i x _ hx (List.getElem?_eq_getElem (by omega)) (h6 i _ z (List.getElem?_eq_getElem (by omega)) hz)
theorem Ab.trans {a b c : Tm} (h : Ab a b) (h2 : Ab b c) : Ab a c := by
  obtain ⟨σ, h⟩ := h
  obtain ⟨τ, h2⟩ := h2
  exact ⟨_, h.trans h2⟩
/-- Two types that are one but for the names, which go over into one another by f. -/
inductive Rn (f : ByteArray → ByteArray → Prop) : Tm → Tm → Prop
  | var {n m : ByteArray} : f n m → Rn f (vT n) (vT m)
  | con {k N : Int} {p n : ByteArray} {l m : List Tm} : k ≠ 1 → l.length = m.length → (∀ (i : Nat) (x y : Tm), l[i]? = some x → m[i]? = some y → Rn f x y) → Rn f (.mk k p n N l) (.mk k p n N m)
theorem Sol.rn {σ τ : ByteArray → Option Tm} : ∀ {d : Nat} {a b : Tm}, Ty d a → Ty d b → Sol σ a b → Sol τ b a → Rn (fun n m => σ n = some (vT m) ∧ τ m = some (vT n)) a b := by
  intro d
  induction d with
  | zero => intro a b h; cases h
  | succ d ih =>
    intro a b ha hb h1 h2
    cases h1 with
    | var h =>
      have hva := ha.var
      rw [hva] at h2 ⊢
      cases h2 with
      | var h3 =>
        have hvb := hb.var
        rw [hvb] at h ⊢
        exact .var ⟨h, h3⟩
      | con h3 => exact absurd rfl h3
    | con h3 h4 h5 =>
      cases h2 with
      | var => exact absurd rfl h3
      | con _ _ h6 => exact .con h3 h4 fun i x y hx hy => ih (ha.kid hx) (hb.kid hy) (h5 i x y hx hy) (h6 i y x hy hx)
/-- Lists that go over into one another, place by place. -/
def Each (f : ByteArray → ByteArray → Prop) (ns ms : List ByteArray) : Prop := ns.length = ms.length ∧ ∀ (i : Nat) (n m : ByteArray), ns[i]? = some n → ms[i]? = some m → f n m
structure One (f : ByteArray → ByteArray → Prop) : Prop where
  to' : ∀ n m m', f n m → f n m' → m = m'
  fro : ∀ n n' m, f n m → f n' m → n = n'
theorem inN_iff {s : ByteArray} {l : List ByteArray} : inN s l = true ↔ s ∈ l := by
  unfold inN
  rw [List.any_eq_true]
  constructor
  · rintro ⟨t, h1, h2⟩
    rw [← of_decide_eq_true h2]; exact h1
  · intro h
    exact ⟨s, h, by simp⟩
theorem Each.inN {f : ByteArray → ByteArray → Prop} (h1 : One f) {ns ms : List ByteArray} (h : Each f ns ms) {n m : ByteArray} (hf : f n m) : Go.Proofs.YtknbhnicmgglbaaDoor.inN n ns = Go.Proofs.YtknbhnicmgglbaaDoor.inN m ms := by
  have key : Go.Proofs.YtknbhnicmgglbaaDoor.inN n ns = true ↔ Go.Proofs.YtknbhnicmgglbaaDoor.inN m ms = true := by
    rw [inN_iff, inN_iff]
    constructor
    · intro hm
      obtain ⟨i, hi⟩ := List.getElem?_of_mem hm
      have hlt := (List.getElem?_eq_some_iff.1 hi).1
      have hj := List.getElem?_eq_getElem (l := ms) (i := i) (by have := h.1; omega)
      have := h1.to' n m _ hf (h.2 i _ _ hi hj)
      exact this ▸ List.mem_of_getElem? hj
    · intro hm
      obtain ⟨i, hi⟩ := List.getElem?_of_mem hm
      have hlt := (List.getElem?_eq_some_iff.1 hi).1
      have hj := List.getElem?_eq_getElem (l := ns) (i := i) (by have := h.1; omega)
      have := h1.fro n _ m hf (h.2 i _ _ hj hi)
      exact this ▸ List.mem_of_getElem? hj
  cases hx : Go.Proofs.YtknbhnicmgglbaaDoor.inN n ns with
  | true => exact (key.1 hx).symm
  | false =>
    cases hy : Go.Proofs.YtknbhnicmgglbaaDoor.inN m ms with
    | false => rfl
    | true => rw [key.2 hy] at hx; cases hx
theorem Each.snoc {f : ByteArray → ByteArray → Prop} {ns ms : List ByteArray} (h : Each f ns ms) {n m : ByteArray} (hf : f n m) : Each f (ns ++ [n]) (ms ++ [m]) := by
  refine ⟨by simp [h.1], fun i x y hx hy => ?_⟩
  by_cases hi : i < ns.length
  · rw [List.getElem?_append_left hi] at hx
    rw [List.getElem?_append_left (by have := h.1; omega)] at hy
    exact h.2 i x y hx hy
  · have h2 := h.1
    rw [List.getElem?_append_right (by omega)] at hx hy
    have e : i - ns.length = 0 := by
      have := (List.getElem?_eq_some_iff.1 hx).1
      simp at this; omega
    have e2 : i - ms.length = 0 := by omega
    rw [e] at hx
    rw [e2] at hy
    cases hx
    cases hy
    exact hf
theorem Rn.vars {f : ByteArray → ByteArray → Prop} (h1 : One f) : ∀ {d : Nat} {a b : Tm}, Rn f a b → ∀ {ns ms : List ByteArray}, Each f ns ms → Each f (varsT d ns a) (varsT d ms b) := by
  intro d
  induction d with
  | zero => intro a b _ ns ms h; exact h
  | succ d ih =>
    intro a b h ns ms hE
    cases h with
    | @var n m hf =>
      show Each f (put1 ns 1 n) (put1 ms 1 m)
      unfold put1
      rw [hE.inN h1 hf]
      split
      · exact hE.snoc hf
      · exact hE
    | @con k N p n l m hk hl hR =>
      have key : ∀ (l m : List Tm), l.length = m.length → (∀ (i : Nat) (x y : Tm), l[i]? = some x → m[i]? = some y → Rn f x y) → ∀ ns ms, Each f ns ms → Each f (l.foldl (varsT d) ns) (m.foldl (varsT d) ms) := by
        intro l
        induction l with
        | nil =>
          intro m hl _ ns ms h
          obtain rfl : m = [] := List.length_eq_zero_iff.1 hl.symm
          exact h
        | cons x l ihl =>
          intro m hl hR ns ms h
          cases m with
          | nil => cases hl
          | cons y m => exact ihl m (by simpa using hl) (fun i x' y' hx hy => hR (i + 1) x' y' hx hy) _ _ (ih (hR 0 x y rfl rfl) h)
      refine key l m hl hR _ _ ?_
      unfold put1
      rw [if_neg fun h => hk h.1, if_neg fun h => hk h.1]
      exact hE
/-- What is put for the names, in order. -/
def RenOk (nm : Nat → ByteArray) (ns : List ByteArray) (ρ : ByteArray → Option Tm) : Prop := ∀ (i : Nat) (n : ByteArray), ns[i]? = some n → ρ n = some (vT (nm i))
theorem Rn.sub {f : ByteArray → ByteArray → Prop} {nm : Nat → ByteArray} (h1 : One f) {ns ms : List ByteArray} {ρ π : ByteArray → Option Tm} (hρ : RenOk nm ns ρ) (hπ : RenOk nm ms π) (hE : Each f ns ms) : ∀ {d : Nat} {a b : Tm}, Dp d a → Rn f a b → (∀ v, hasV d a v → v ∈ ns) → Go.Proofs.YtknbhnicmgglbaaDoor.sub ρ d a = Go.Proofs.YtknbhnicmgglbaaDoor.sub π d b := by
  intro d
  induction d with
  | zero => intro a b h; cases h
  | succ d ih =>
    intro a b hd h hv
    cases h with
    | @var n m hf =>
      obtain ⟨i, hi⟩ := List.getElem?_of_mem (hv n (.inl ⟨rfl, rfl⟩))
      have hlt := (List.getElem?_eq_some_iff.1 hi).1
      have hj := List.getElem?_eq_getElem (l := ms) (i := i) (by have := hE.1; omega)
      have e := h1.to' n m _ hf (hE.2 i _ _ hi hj)
      rw [← e] at hj
      rw [sub_yes (hρ i n hi), sub_yes (hπ i m hj)]
    | @con k N p n l m hk hl hR =>
      rw [sub_no (by rw [if_neg hk]), sub_no (by rw [if_neg hk])]
      congr 1
      refine List.ext_getElem (by simpa using hl) fun i hi hj => ?_
      rw [List.getElem_map, List.getElem_map]
      rw [List.length_map] at hi hj
      exact ih (hd _ (List.getElem_mem hi)) (hR i _ _ (List.getElem?_eq_getElem hi) (List.getElem?_eq_getElem hj)) fun v h => hv v (.inr ⟨_, List.getElem_mem hi, h⟩)
end Go.Proofs.YtknbhnicmgglbaaDoor
