/- Texts in a row: UE UF Qa. -/
import Derived.Test.YtncebhddcokkoaaDoorZU2
/- The document's solver: what each name has become, by names; its mathematics. -/
namespace Go.Proofs.YtncebhddcokkoaaDoor
set_option linter.unusedSimpArgs false
set_option linter.unusedVariables false
/-- What each name has become. -/
abbrev RS := ByteArray → Option Tm
namespace RS
/-- What a type is at its top. -/
inductive Look (S : RS) : Tm → Tm → Prop
  | con {k N : Int} {p n : ByteArray} {l : List Tm} (hk : k ≠ 1) : Look S (.mk k p n N l) (.mk k p n N l)
  | free {N : Int} {p n : ByteArray} {l : List Tm} (h : S n = none) : Look S (.mk 1 p n N l) (.mk 1 p n N l)
  | step {N : Int} {p n : ByteArray} {l : List Tm} {t u : Tm} (h : S n = some t) (h2 : Look S t u) : Look S (.mk 1 p n N l) u
/-- A type with all that its variables became. -/
inductive Fu (S : RS) : Tm → Tm → Prop
  | free {N : Int} {p n : ByteArray} {l : List Tm} (h : S n = none) : Fu S (.mk 1 p n N l) (vN n)
  | step {N : Int} {p n : ByteArray} {l : List Tm} {t u : Tm} (h : S n = some t) (h2 : Fu S t u) : Fu S (.mk 1 p n N l) u
  | con {k N : Int} {p n : ByteArray} {l m : List Tm} (hk : k ≠ 1) (hl : l.length = m.length) (h : ∀ (i : Nat) (x y : Tm), l[i]? = some x → m[i]? = some y → Fu S x y) : Fu S (.mk k p n N l) (.mk k p n N m)
theorem Fu.inv {S : RS} {t u : Tm} (h : Fu S t u) : ∀ {k N : Int} {p n : ByteArray} {l : List Tm}, t = .mk k p n N l → (k = 1 ∧ S n = none ∧ u = vN n) ∨ (k = 1 ∧ ∃ c, S n = some c ∧ Fu S c u) ∨ (k ≠ 1 ∧ ∃ m, u = .mk k p n N m ∧ l.length = m.length ∧ ∀ (i : Nat) (x y : Tm), l[i]? = some x → m[i]? = some y → Fu S x y) := by
  cases h with
  | free h => intro k N p n l e; injection e with e1 e2 e3 e4 e5; subst e1 e2 e3 e4 e5; exact .inl ⟨rfl, h, rfl⟩
  | step h h2 => intro k N p n l e; injection e with e1 e2 e3 e4 e5; subst e1 e2 e3 e4 e5; exact .inr (.inl ⟨rfl, _, h, h2⟩)
  | con hk hl h => intro k N p n l e; injection e with e1 e2 e3 e4 e5; subst e1 e2 e3 e4 e5; exact .inr (.inr ⟨hk, _, rfl, hl, h⟩)
theorem Fu.det {S : RS} {t u : Tm} (h : Fu S t u) : ∀ {v : Tm}, Fu S t v → u = v := by
  induction h with
  | free h =>
    intro v hv
    rcases hv.inv rfl with ⟨_, _, e⟩ | ⟨_, c, hc, _⟩ | ⟨hk, _⟩
    · exact e.symm
    · rw [h] at hc; cases hc
    · exact absurd rfl hk
  | step h h2 ih =>
    intro v hv
    rcases hv.inv rfl with ⟨_, hn, e⟩ | ⟨_, c, hc, h3⟩ | ⟨hk, _⟩
    · rw [h] at hn; cases hn
    · rw [h] at hc; cases hc; exact ih h3
    · exact absurd rfl hk
  | con hk hl h ih =>
    intro v hv
    rcases hv.inv rfl with ⟨e, _⟩ | ⟨e, _⟩ | ⟨_, m', rfl, hl', h'⟩
    · exact absurd e hk
    · exact absurd e hk
    · congr 1
      refine list_eq (by omega) fun i y z hy hz => ?_
      obtain ⟨x, hx⟩ := at_both hl.symm hy
      exact ih i x y hx hy (h' i x z hx hz)
/-- What solves what is known. -/
def Sol (S : RS) (σ : ByteArray → Tm) : Prop := ∀ n t, S n = some t → So σ t (σ n)
theorem Fu.sol {S : RS} {σ : ByteArray → Tm} (hS : S.Sol σ) {t u : Tm} (h : Fu S t u) : ∀ {v : Tm}, So σ t v → So σ u v := by
  induction h with
  | free h =>
    intro v hv
    rcases hv.inv rfl with ⟨_, e⟩ | ⟨hk, _⟩
    · rw [e]; exact .var
    · exact absurd rfl hk
  | step h h2 ih =>
    intro v hv
    rcases hv.inv rfl with ⟨_, e⟩ | ⟨hk, _⟩
    · rw [e]; exact ih (hS _ _ h)
    · exact absurd rfl hk
  | con hk hl h ih =>
    intro v hv
    rcases hv.inv rfl with ⟨e, _⟩ | ⟨_, m', rfl, hl', h'⟩
    · exact absurd e hk
    · refine .con hk (by omega) fun i x y hx hy => ?_
      obtain ⟨z, hz⟩ := at_both hl.symm hx
      exact ih i z x hz hx (h' i z y hz hy)
theorem Look.top {S : RS} {t u : Tm} (h : Look S t u) : ∃ (k N : Int) (p n : ByteArray) (l : List Tm), u = .mk k p n N l ∧ (k = 1 → S n = none) := by
  induction h with
  | con hk => exact ⟨_, _, _, _, _, rfl, fun e => absurd e hk⟩
  | free h => exact ⟨_, _, _, _, _, rfl, fun _ => h⟩
  | step h h2 ih => exact ih
theorem Look.sol {S : RS} {σ : ByteArray → Tm} (hS : S.Sol σ) {t u : Tm} (h : Look S t u) : ∀ {v : Tm}, So σ t v ↔ So σ u v := by
  induction h with
  | con hk => exact Iff.rfl
  | free h => exact Iff.rfl
  | @step N p n l t u h h2 ih =>
    intro v
    constructor
    · intro hv
      rcases hv.inv rfl with ⟨_, e⟩ | ⟨hk, _⟩
      · rw [e]; exact ih.1 (hS _ _ h)
      · exact absurd rfl hk
    · intro hv
      have h3 := hS _ _ h
      have h4 := ih.1 h3
      rw [← h4.det hv]
      exact .var
/-- What is looked at comes to something, if the type does. -/
theorem Look.ex {S : RS} {t w : Tm} (h : Fu S t w) : ∃ u, Look S t u ∧ Fu S u w := by
  induction h with
  | free h => exact ⟨_, .free h, .free h⟩
  | step h h2 ih => obtain ⟨u, h3, h4⟩ := ih; exact ⟨u, .step h h3, h4⟩
  | con hk hl h _ => exact ⟨_, .con hk, .con hk hl h⟩
/-- What holds of the solver. -/
structure Inv (S : RS) (ns : List ByteArray) (ix : ByteArray → Nat) : Prop where
  dom : ∀ n t, S n = some t → n ∈ ns
  ty : ∀ n t, S n = some t → Tyy t
  occ : ∀ n t, S n = some t → ∀ m, Oc m t → m ∈ ns
  ord : ∀ n m, S n = some (vN m) → ix m < ix n
  fin : ∀ n, ∃ u, Fu S (vN n) u
theorem Inv.all {S : RS} {ns : List ByteArray} {ix : ByteArray → Nat} (hI : S.Inv ns ix) {t : Tm} (ht : Tyy t) : ∃ u, Fu S t u := by
  induction ht with
  | var s => exact hI.fin s
  | con hk h ih =>
    obtain ⟨m, hm⟩ := Abs.All2.of_ex ih
    exact ⟨_, .con hk hm.len fun i x y hx hy => hm.at hx hy⟩
theorem Look.ty {S : RS} {ns : List ByteArray} {ix : ByteArray → Nat} (hI : S.Inv ns ix) {t u : Tm} (h : Look S t u) : Tyy t → (∀ m, Oc m t → m ∈ ns) → Tyy u ∧ ∀ m, Oc m u → m ∈ ns := by
  induction h with
  | con hk => exact fun h1 h2 => ⟨h1, h2⟩
  | free h => exact fun h1 h2 => ⟨h1, h2⟩
  | step h h2 ih => exact fun _ _ => ih (hI.ty _ _ h) (hI.occ _ _ h)
theorem Fu.ty {S : RS} {ns : List ByteArray} {ix : ByteArray → Nat} (hI : S.Inv ns ix) {t u : Tm} (h : Fu S t u) : Tyy t → Tyy u := by
  induction h with
  | @free N p n l h => exact fun _ => .var n
  | step h h2 ih => exact fun _ => ih (hI.ty _ _ h)
  | con hk hl h ih =>
    intro ht
    cases ht with
    | var s => exact absurd rfl hk
    | con _ hx =>
      refine .con hk fun y hy => ?_
      obtain ⟨i, hi, rfl⟩ := List.getElem_of_mem hy
      obtain ⟨x, hx2⟩ := at_both hl.symm (List.getElem?_eq_getElem hi)
      exact ih i x _ hx2 (List.getElem?_eq_getElem hi) (hx x (List.mem_of_getElem? hx2))
/-- A variable in what a type comes to has become nothing. -/
theorem Fu.occ {S : RS} {ns : List ByteArray} {ix : ByteArray → Nat} (hI : S.Inv ns ix) {t u : Tm} (h : Fu S t u) : (∀ m, Oc m t → m ∈ ns) → ∀ {s : ByteArray}, Oc s u → s ∈ ns ∧ S s = none := by
  induction h with
  | @free N p n l h =>
    intro hm s ho
    rcases ho.inv rfl with ⟨_, e⟩ | ⟨hk, _⟩
    · subst e; exact ⟨hm _ .var, h⟩
    · exact absurd rfl hk
  | step h h2 ih => exact fun _ => ih (hI.occ _ _ h)
  | con hk hl h ih =>
    intro hm s ho
    rcases ho.inv rfl with ⟨e, _⟩ | ⟨_, y, hy, ho⟩
    · exact absurd e hk
    · obtain ⟨i, hi, rfl⟩ := List.getElem_of_mem hy
      obtain ⟨x, hx2⟩ := at_both hl.symm (List.getElem?_eq_getElem hi)
      exact ih i x _ hx2 (List.getElem?_eq_getElem hi) (fun m hm2 => hm m (.kid hk (List.mem_of_getElem? hx2) hm2)) ho
/-- A name becomes a type. -/
def put (S : RS) (n : ByteArray) (c : Tm) : RS := fun m => if m = n then some c else S m
theorem put_sol {S : RS} {n : ByteArray} {c : Tm} (hn : S n = none) (σ : ByteArray → Tm) : (S.put n c).Sol σ ↔ S.Sol σ ∧ So σ c (σ n) := by
  constructor
  · intro h
    refine ⟨fun m t hm => h m t ?_, h n c (if_pos rfl)⟩
    have : m ≠ n := by rintro rfl; rw [hn] at hm; cases hm
    show (if m = n then some c else S m) = some t
    rw [if_neg this, hm]
  · rintro ⟨h1, h2⟩ m t hm
    by_cases e : m = n
    · subst e
      have : (if m = m then some c else S m) = some t := hm
      rw [if_pos rfl] at this
      cases this
      exact h2
    · have : (if m = n then some c else S m) = some t := hm
      rw [if_neg e] at this
      exact h1 m t this
/-- What comes to a type in which a name is not comes to it still. -/
theorem Fu.away {S : RS} {n : ByteArray} {c : Tm} (hn : S n = none) {t u : Tm} (h : Fu S t u) : ¬ Oc n u → Fu (S.put n c) t u := by
  induction h with
  | @free N p m l h =>
    intro ho
    have : m ≠ n := by rintro rfl; exact ho .var
    exact .free (by show (if m = n then some c else S m) = none; rw [if_neg this, h])
  | @step N p m l t u h h2 ih =>
    intro ho
    have : m ≠ n := by rintro rfl; rw [hn] at h; cases h
    exact .step (by show (if m = n then some c else S m) = some t; rw [if_neg this, h]) (ih ho)
  | con hk hl h ih => exact fun ho => .con hk hl fun i x y hx hy => ih i x y hx hy fun h2 => ho (.kid hk (List.mem_of_getElem? hy) h2)
theorem put_fin {S : RS} {n : ByteArray} {c w : Tm} (hn : S n = none) (hc : Fu S c w) (ho : ¬ Oc n w) {t u : Tm} (h : Fu S t u) : ∃ v, Fu (S.put n c) t v := by
  induction h with
  | @free N p m l h =>
    by_cases e : m = n
    · subst e; exact ⟨w, .step (if_pos rfl) (hc.away hn ho)⟩
    · exact ⟨_, .free (by show (if m = n then some c else S m) = none; rw [if_neg e, h])⟩
  | @step N p m l t u h h2 ih =>
    have : m ≠ n := by rintro rfl; rw [hn] at h; cases h
    obtain ⟨v, hv⟩ := ih
    exact ⟨v, .step (by show (if m = n then some c else S m) = some t; rw [if_neg this, h]) hv⟩
  | @con k N p s l m hk hl h ih =>
    have hex : ∀ x ∈ l, ∃ v, Fu (S.put n c) x v := by
      intro x hx
      obtain ⟨i, hi, rfl⟩ := List.getElem_of_mem hx
      obtain ⟨y, hy⟩ := at_both hl (List.getElem?_eq_getElem hi)
      exact ih i _ y (List.getElem?_eq_getElem hi) hy
    obtain ⟨m', hm⟩ := Abs.All2.of_ex hex
    exact ⟨_, .con hk hm.len fun i x y hx hy => hm.at hx hy⟩
/-- A name that has become nothing becomes a type that it is not in, or an earlier name. -/
theorem Inv.put {S : RS} {ns : List ByteArray} {ix : ByteArray → Nat} (hI : S.Inv ns ix) {n : ByteArray} {c w : Tm} (hn : S n = none) (hns : n ∈ ns) (hc : Tyy c) (hcn : ∀ m, Oc m c → m ∈ ns) (ho : ∀ m, c = vN m → ix m < ix n) (hw : Fu S c w) (hnw : ¬ Oc n w) : (S.put n c).Inv ns ix := by
  have key : ∀ (P : ByteArray → Tm → Prop), P n c → (∀ m t, S m = some t → P m t) → ∀ m t, S.put n c m = some t → P m t := by
    intro P h1 h2 m t hm
    have hm : (if m = n then some c else S m) = some t := hm
    by_cases e : m = n
    · subst e; rw [if_pos rfl] at hm; cases hm; exact h1
    · rw [if_neg e] at hm; exact h2 m t hm
  refine ⟨key (fun m _ => m ∈ ns) hns hI.dom, key (fun _ t => Tyy t) hc hI.ty, key (fun _ t => ∀ m, Oc m t → m ∈ ns) hcn hI.occ, fun a b h => key (fun a t => ∀ b, t = vN b → ix b < ix a) ho (fun a t h b e => hI.ord a b (e ▸ h)) a _ h b rfl, fun m => ?_⟩
  obtain ⟨u, hu⟩ := hI.fin m
  exact put_fin hn hw hnw hu
/-- How many names have become nothing. -/
def nv (S : RS) (ns : List ByteArray) : Nat := ns.countP fun n => (S n).isNone
theorem countP_lt {α : Type} {p q : α → Bool} (h : ∀ i, p i = true → q i = true) {a : α} (hq : q a = true) (hp : p a = false) : ∀ l : List α, a ∈ l → l.countP p < l.countP q ∧ l.countP p ≤ l.countP q
  | [], hm => by cases hm
  | b :: l, hm => by
    have hle : l.countP p ≤ l.countP q := List.countP_mono_left fun x _ hx => h x hx
    rw [List.countP_cons, List.countP_cons]
    rcases List.mem_cons.1 hm with e | hm
    · subst e; rw [hp, hq]; simp; omega
    · have ih := countP_lt h hq hp l hm
      cases hb : p b with
      | false => simp; split <;> omega
      | true => rw [h b hb]; simp; omega
theorem put_nv {S : RS} {ns : List ByteArray} {n : ByteArray} {c : Tm} (hn : S n = none) (hns : n ∈ ns) : (S.put n c).nv ns < S.nv ns := by
  refine (countP_lt (a := n) (fun m hm => ?_) ?_ ?_ ns hns).1
  · have hm : (if m = n then some c else S m).isNone = true := hm
    by_cases e : m = n
    · rw [if_pos e] at hm; cases hm
    · rw [if_neg e] at hm; exact hm
  · rw [hn]; rfl
  · show (if n = n then some c else S n).isNone = false; rw [if_pos rfl]; rfl
/-- What is put for a variable stands in what is made of a type that has it. -/
theorem occ_sub {σ : ByteArray → Tm} {w v : Tm} (h : So σ w v) : ∀ {n : ByteArray}, Oc n w → (σ n = v ∧ ∃ (p : ByteArray) (N : Int) (l : List Tm), w = .mk 1 p n N l) ∨ Abs.Sub (σ n) v := by
  induction h with
  | @var p n N l =>
    intro s ho
    rcases ho.inv rfl with ⟨_, e⟩ | ⟨hk, _⟩
    · subst e; exact .inl ⟨rfl, _, _, _, rfl⟩
    · exact absurd rfl hk
  | con hk hl h ih =>
    intro s ho
    rcases ho.inv rfl with ⟨e, _⟩ | ⟨_, x, hx, ho⟩
    · exact absurd e hk
    · obtain ⟨i, hi, rfl⟩ := List.getElem_of_mem hx
      obtain ⟨y, hy⟩ := at_both hl (List.getElem?_eq_getElem hi)
      right
      rcases ih i _ y (List.getElem?_eq_getElem hi) hy ho with ⟨e, _⟩ | h2
      · rw [e]; exact .kid (List.mem_of_getElem? hy)
      · exact .deep (List.mem_of_getElem? hy) h2
/-- A variable is not the same as a type that it is in. -/
theorem occ_none {S : RS} {σ : ByteArray → Tm} (hS : S.Sol σ) {k N : Int} {p s n : ByteArray} {l : List Tm} {w : Tm} (hk : k ≠ 1) (hw : Fu S (.mk k p s N l) w) (ho : Oc n w) : ¬ So σ (.mk k p s N l) (σ n) := by
  intro h
  have h2 := hw.sol hS h
  rcases occ_sub h2 ho with ⟨_, q, M, m, e⟩ | h3
  · rcases hw.inv rfl with ⟨e2, _⟩ | ⟨e2, _⟩ | ⟨_, m', e2, _⟩
    · exact hk e2
    · exact hk e2
    · rw [e] at e2; injection e2 with e3; exact hk e3.symm
  · exact h3.irrefl
/-- The solver's own solution. -/
theorem Fu.self {S : RS} {σ : ByteArray → Tm} (hσ : ∀ n, Fu S (vN n) (σ n)) {t u : Tm} (h : Fu S t u) : So σ t u := by
  induction h with
  | @free N p n l h =>
    have e := (Fu.free (p := ⟨#[]⟩) (N := 0) (l := []) h).det (hσ n)
    rw [e]; exact .var
  | @step N p n l t u h h2 ih =>
    have e := (Fu.step (p := ⟨#[]⟩) (N := 0) (l := []) h h2).det (hσ n)
    rw [e]; exact .var
  | con hk hl h ih => exact .con hk hl ih
theorem self_sol {S : RS} {σ : ByteArray → Tm} (hσ : ∀ n, Fu S (vN n) (σ n)) : S.Sol σ := by
  intro n t hn
  refine Fu.self hσ ?_
  rcases (hσ n).inv rfl with ⟨_, e, _⟩ | ⟨_, c, e, h⟩ | ⟨hk, _⟩
  · rw [hn] at e; cases e
  · rw [hn] at e; cases e; exact h
  · exact absurd rfl hk
/-- It is a most general one with the earliest names. -/
theorem self_mgu {S : RS} {ns : List ByteArray} {ix : ByteArray → Nat} (hI : S.Inv ns ix) {σ : ByteArray → Tm} (hσ : ∀ n, Fu S (vN n) (σ n)) : Mgu ns ix σ := by
  have ho : ∀ n ∈ ns, ∀ m, Oc m (vN n) → m ∈ ns := by
    intro n hn m hm
    rcases hm.inv rfl with ⟨_, e⟩ | ⟨hk, _⟩
    · subst e; exact hn
    · exact absurd rfl hk
  refine ⟨fun n hn => (hσ n).ty hI (.var n), fun n hn m hm => ?_, fun n hn m hm => ?_⟩
  · obtain ⟨h1, h2⟩ := (hσ n).occ hI (ho n hn) hm
    refine ⟨h1, ?_⟩
    exact ((Fu.free (p := ⟨#[]⟩) (N := 0) (l := []) h2).det (hσ m)).symm
  · -- along the names
    have key : ∀ {t u : Tm}, Fu S t u → ∀ n m, t = vN n → u = vN m → ix m ≤ ix n := by
      intro t u h
      induction h with
      | @free N p a l h =>
        intro n m e1 e2
        injection e1 with _ _ e1
        injection e2 with _ _ e2
        subst e1 e2
        exact Nat.le_refl _
      | @step N p a l t u h h2 ih =>
        intro n m e1 e2
        injection e1 with _ _ e1
        subst e1
        have ht := hI.ty _ _ h
        cases ht with
        | var s =>
          have h3 := ih s m rfl e2
          have h4 := hI.ord _ _ h
          omega
        | con hk _ =>
          subst e2
          rcases h2.inv rfl with ⟨e, _⟩ | ⟨e, _⟩ | ⟨_, m', e, _⟩
          · exact absurd e hk
          · exact absurd e hk
          · injection e with e; exact absurd e.symm hk
      | con hk hl h _ =>
        intro n m e1 e2
        injection e1 with e1
        exact absurd e1 hk
    exact key (hσ n) n m rfl hm
/-- Each solution is one of it. -/
theorem self_gen {S : RS} {σ τ : ByteArray → Tm} (hσ : ∀ n, Fu S (vN n) (σ n)) (hτ : S.Sol τ) (n : ByteArray) : So τ (σ n) (τ n) := (hσ n).sol hτ .var
theorem self_ex {S : RS} {ns : List ByteArray} {ix : ByteArray → Nat} (hI : S.Inv ns ix) : ∃ σ : ByteArray → Tm, ∀ n, Fu S (vN n) (σ n) := ⟨fun n => (hI.fin n).choose, fun n => (hI.fin n).choose_spec⟩
end RS
end Go.Proofs.YtncebhddcokkoaaDoor
/- The program's solution of equations: what a store says once they are made the same. -/
namespace Go.Proofs.YtncebhddcokkoaaDoor
set_option linter.unusedSimpArgs false
set_option linter.unusedVariables false
namespace Abs
/-- Steps. -/
inductive Path : Abs → List Item → Abs → List Item → Prop
  | refl (A : Abs) (l : List Item) : Path A l A l
  | step {A B C : Abs} {l m n : List Item} (h : Step A l (some (B, m))) (h2 : Path B m C n) : Path A l C n
theorem Path.snoc {A B C : Abs} {l m n : List Item} (h : Path A l B m) : Step B m (some (C, n)) → Path A l C n := by
  induction h with
  | refl A l => exact fun k => .step k (.refl _ _)
  | step h _ ih => exact fun k => .step h (ih k)
/-- The earliest variable is what variables become. -/
def Erl (A : Abs) : Prop := ∀ i, i < A.l.length → A.kd i = 1 → A.r i ≤ i
theorem Step.erl {A B : Abs} {l m : List Item} (h : Step A l (some (B, m))) (hI : Inv A l) (hE : A.Erl) : B.Erl := by
  cases h with
  | done h => exact hE
  | same h => exact hE
  | kids _ _ _ _ _ _ => exact hE
  | @merge x y l h =>
    obtain ⟨a, b, ha, hb, h1, hal, hk⟩ := mark_top hI
    intro i hi hk1
    by_cases e : A.r i = A.r x
    · have er : (A.bind (A.r x) (A.r y) A.lv).r i = A.r y := if_pos e
      have k2 : (A.bind (A.r x) (A.r y) A.lv).kd i = b.k := kd_some (A := A.bind (A.r x) (A.r y) A.lv) (by rw [er]; exact hb)
      rw [k2, ← hal.1] at hk1
      exact absurd hk1 h1
    · have er : (A.bind (A.r x) (A.r y) A.lv).r i = A.r i := if_neg e
      have k2 : (A.bind (A.r x) (A.r y) A.lv).kd i = A.kd i := by unfold kd; rw [er]; rfl
      rw [k2] at hk1
      rw [er]
      exact hE i hi hk1
  | @bnd u v l h hv hb =>
    have hlt := hI.lt (.pr u v) (by simp)
    generalize et : A.turn (A.r u) (A.r v) = t at *
    obtain ⟨a, b⟩ := t
    obtain ⟨ra, rb, la, lb, hab, ka, hw, hba⟩ := turn_spec hI.ok hlt.1 hlt.2 h hv et
    show (A.bind a b (A.low b (A.lv a))).Erl
    intro i hi hk1
    by_cases e : A.r i = a
    · have er : (A.bind a b (A.low b (A.lv a))).r i = b := if_pos e
      have k2 : (A.bind a b (A.low b (A.lv a))).kd i = A.kd b := by
        unfold kd
        rw [er, rb]
        rfl
      rw [k2] at hk1
      have h1 := hba hk1
      have h2 := hE i hi (by rw [← kd_root hI.ok, e]; exact ka)
      rw [er]
      omega
    · have er : (A.bind a b (A.low b (A.lv a))).r i = A.r i := if_neg e
      have k2 : (A.bind a b (A.low b (A.lv a))).kd i = A.kd i := by unfold kd; rw [er]; rfl
      rw [k2] at hk1
      rw [er]
      exact hE i hi hk1
theorem Run.erl {n : Nat} {A : Abs} {l : List Item} {o : Option Abs} (h : Run n A l o) : Inv A l → A.Erl → ∀ B, o = some B → B.Erl := by
  induction h with
  | done n A => intro _ hE B e; cases e; exact hE
  | fail h => intro _ _ B e; cases e
  | step h h2 ih => intro hI hE; exact ih (h.inv hI) (h.erl hI hE)
/-- A store in which nothing has become anything else. -/
def flat (l : List Inf) : Abs := ⟨l, id, fun _ => 0⟩
structure Wf (l : List Inf) : Prop where
  kid : ∀ (i : Nat) (x : Inf), l[i]? = some x → ∀ y ∈ x.kids, y < i
  leaf : ∀ (i : Nat) (x : Inf), l[i]? = some x → (x.k = 1 ∨ x.k = 5) → x.kids = []
theorem flat_ok {l : List Inf} (h : Wf l) : (flat l).Ok := ⟨fun i h => h, fun i => rfl, h.kid, h.leaf⟩
theorem idfin {A : Abs} (hr : ∀ i, A.r i = i) (h : Wf A.l) : A.Fin := by
  intro f i
  induction i using Nat.strongRecOn with
  | ind i ih =>
    intro hi
    have hx : A.l[A.r i]? = some (A.l[i]'hi) := by rw [hr]; exact List.getElem?_eq_getElem hi
    have hx0 : A.l[i]? = some (A.l[i]'hi) := List.getElem?_eq_getElem hi
    by_cases hk : (A.l[i]'hi).k = 1 ∨ (A.l[i]'hi).k = 5
    · exact ⟨_, .leaf hx hk⟩
    · obtain ⟨ts, hts⟩ := All2.of_ex (R := fun y t => Unf A f y t) (l := (A.l[i]'hi).kids) (fun y hy => ih y (h.kid i _ hx0 y hy) (by have := h.kid i _ hx0 y hy; omega))
      exact ⟨_, .node hx (fun e => hk (.inl e)) (fun e => hk (.inr e)) hts.len (fun j y t hy ht => hts.at hy ht)⟩
theorem idinv {A : Abs} (hr : ∀ i, A.r i = i) (h : Wf A.l) : Inv A [] := by
  refine ⟨⟨fun i hi => by rw [hr]; exact hi, fun i => by rw [hr, hr], h.kid, h.leaf⟩, idfin hr h, fun i x hx _ _ => ⟨x, by rw [hr]; exact hx, rfl, rfl, rfl, rfl, fun j a b ha hb => ?_⟩, fun x hx => (by cases hx), fun pre post x y e => ?_⟩
  · rw [ha] at hb; cases hb; rfl
  · cases pre <;> cases e
theorem flat_inv {l : List Inf} (h : Wf l) : Inv (flat l) [] := idinv (fun _ => rfl) h
theorem flat_erl (l : List Inf) : (flat l).Erl := fun i _ _ => Nat.le_refl i
end Abs
/-- A name's place. -/
def ixO : List ByteArray → ByteArray → Nat
  | [], _ => 0
  | a :: l, n => if a = n then 0 else ixO l n + 1
theorem ixO_at {n : ByteArray} : ∀ {l : List ByteArray}, n ∈ l → l[ixO l n]? = some n
  | [], h => by cases h
  | a :: l, h => by
    unfold ixO
    by_cases e : a = n
    · rw [if_pos e, e]; rfl
    · rw [if_neg e]
      rcases List.mem_cons.1 h with h | h
      · exact absurd h.symm e
      · simpa using ixO_at h
theorem ixO_inj {ns : List ByteArray} {n m : ByteArray} (hn : n ∈ ns) (hm : m ∈ ns) (h : ixO ns n = ixO ns m) : n = m := by
  have h1 := ixO_at hn
  rw [h, ixO_at hm] at h1
  exact (Option.some.inj h1).symm
/-- The most general solution with the earliest names. -/
structure Best (E : List (Tm × Tm)) (ns : List ByteArray) (σ : ByteArray → Tm) : Prop where
  mgu : Mgu ns (ixO ns) σ
  sol : SolE E σ
  gen : ∀ τ, SolE E τ → ∀ n ∈ ns, So τ (σ n) (τ n)
theorem best_one {E : List (Tm × Tm)} {ns : List ByteArray} {σ τ : ByteArray → Tm} (hσ : Best E ns σ) (hτ : Best E ns τ) : ∀ n ∈ ns, σ n = τ n :=
  mgu_one (fun n hn m hm h => ixO_inj hn hm h) hσ.mgu hτ.mgu (fun n hn => hσ.gen τ hτ.sol n hn) (fun n hn => hτ.gen σ hσ.sol n hn)
namespace Abs
/-- Names and their types' numbers. -/
structure Tab (l : List Inf) (ns : List ByteArray) (ρ : ByteArray → Option Nat) : Prop where
  dom : ∀ n, n ∈ ns ↔ ∃ i, ρ n = some i
  at_ : ∀ n i, ρ n = some i → ∃ x, l[i]? = some x ∧ x.k = 1
  var : ∀ (i : Nat) (x : Inf), l[i]? = some x → x.k = 1 → ∃ n, ρ n = some i
  ord : ∀ (j j' : Nat) (n n' : ByteArray) (i i' : Nat), ns[j]? = some n → ns[j']? = some n' → ρ n = some i → ρ n' = some i' → j < j' → i < i'
theorem Tab.inj {l : List Inf} {ns : List ByteArray} {ρ : ByteArray → Option Nat} (h : Tab l ns ρ) {n m : ByteArray} {i : Nat} (hn : ρ n = some i) (hm : ρ m = some i) : n = m := by
  obtain ⟨j, hj⟩ := List.getElem?_of_mem ((h.dom n).2 ⟨i, hn⟩)
  obtain ⟨k, hk⟩ := List.getElem?_of_mem ((h.dom m).2 ⟨i, hm⟩)
  by_cases e : j = k
  · subst e; rw [hj] at hk; exact Option.some.inj hk
  · by_cases e2 : j < k
    · have := h.ord j k n m i i hj hk hn hm e2; omega
    · have := h.ord k j m n i i hk hj hm hn (by omega); omega
theorem Tab.le {l : List Inf} {ns : List ByteArray} {ρ : ByteArray → Option Nat} (h : Tab l ns ρ) {n m : ByteArray} {i j : Nat} (hn : ρ n = some i) (hm : ρ m = some j) (hij : j ≤ i) : ixO ns m ≤ ixO ns n := by
  apply Decidable.byContradiction
  intro hc
  have := h.ord _ _ n m i j (ixO_at ((h.dom n).2 ⟨i, hn⟩)) (ixO_at ((h.dom m).2 ⟨j, hm⟩)) hn hm (by omega)
  omega
open Classical in
/-- The name of a number. -/
noncomputable def nmOf (ρ : ByteArray → Option Nat) (z : Nat) : ByteArray := if h : ∃ n, ρ n = some z then h.choose else ⟨#[]⟩
theorem Tab.nm {l : List Inf} {ns : List ByteArray} {ρ : ByteArray → Option Nat} (h : Tab l ns ρ) {n : ByteArray} {i : Nat} (hn : ρ n = some i) : nmOf ρ i = n := by
  have he : ∃ n, ρ n = some i := ⟨n, hn⟩
  unfold nmOf
  rw [dif_pos he]
  exact h.inj he.choose_spec hn
/-- Sides of equations, and their types. -/
def Eqs (l : List Inf) (ρ : ByteArray → Option Nat) (sd : List (Nat × Nat)) (E : List (Tm × Tm)) : Prop :=
  All2 (fun s e => (Repr (flat l) ρ s.1 e.1 ∧ s.1 < l.length) ∧ (Repr (flat l) ρ s.2 e.2 ∧ s.2 < l.length)) sd E
theorem All2.mem_r {α β : Type} {R : α → β → Prop} {l : List α} {m : List β} (h : All2 R l m) {b : β} (hb : b ∈ m) : ∃ a ∈ l, R a b := by
  obtain ⟨j, hj⟩ := List.getElem?_of_mem hb
  obtain ⟨a, ha⟩ := at_both h.len.symm hj
  exact ⟨a, List.mem_of_getElem? ha, h.at ha hj⟩
theorem All2.mem_l {α β : Type} {R : α → β → Prop} {l : List α} {m : List β} (h : All2 R l m) {a : α} (ha : a ∈ l) : ∃ b ∈ m, R a b := by
  obtain ⟨j, hj⟩ := List.getElem?_of_mem ha
  obtain ⟨b, hb⟩ := at_both h.len hj
  exact ⟨b, List.mem_of_getElem? hb, h.at hj hb⟩
section
variable {l : List Inf} {ns : List ByteArray} {ρ : ByteArray → Option Nat} {sd : List (Nat × Nat)} {E : List (Tm × Tm)}
/-- Trees for a store, of a solution. -/
theorem lift (hW : Wf l) (hT : Tab l ns ρ) (hE : Eqs l ρ sd E) {τ : ByteArray → Tm} (hτ : SolE E τ) :
    (flat l).Mod ((flat l).val fun z => τ (nmOf ρ z)) ∧ (∀ n i, ρ n = some i → (flat l).val (fun z => τ (nmOf ρ z)) i = τ n) ∧ ∀ s ∈ sd, (flat l).val (fun z => τ (nmOf ρ z)) s.1 = (flat l).val (fun z => τ (nmOf ρ z)) s.2 := by
  have hm := mod_val (flat_ok hW) (flat_inv hW).fin (flat_inv hW).like (fun z => τ (nmOf ρ z))
  have hn : ∀ n i, ρ n = some i → (flat l).val (fun z => τ (nmOf ρ z)) i = τ n := by
    intro n i h
    obtain ⟨x, hx, hk⟩ := hT.at_ n i h
    have e := val_leaf (A := flat l) (f := fun z => τ (nmOf ρ z)) (i := i) hx (.inl hk)
    rw [e]
    show τ (nmOf ρ i) = τ n
    rw [hT.nm h]
  refine ⟨hm, hn, fun s hs => ?_⟩
  obtain ⟨e, he, ⟨h1, _⟩, ⟨h2, _⟩⟩ := hE.mem_l hs
  obtain ⟨u, hu1, hu2⟩ := hτ e he
  exact ((h1.mod hm hn).det hu1).trans ((h2.mod hm hn).det hu2).symm
theorem no_sol (hW : Wf l) (hT : Tab l ns ρ) (hE : Eqs l ρ sd E) (h : ∀ θ, ¬ ((flat l).Mod θ ∧ ∀ s ∈ sd, θ s.1 = θ s.2)) : ¬ ∃ τ, SolE E τ := by
  rintro ⟨τ, hτ⟩
  obtain ⟨h1, _, h2⟩ := lift hW hT hE hτ
  exact h _ ⟨h1, h2⟩
theorem best_of (hW : Wf l) (hT : Tab l ns ρ) (hE : Eqs l ρ sd E) (h5 : ∀ (i : Nat) (x : Inf), l[i]? = some x → x.k ≠ 5) {A : Abs} (hA : Inv A []) (hAl : A.l = l) (hAe : A.Erl)
    (hsem : ∀ θ, A.Mod θ ↔ (flat l).Mod θ ∧ ∀ s ∈ sd, θ s.1 = θ s.2) : Best E ns (fun n => A.val (fun z => vN (nmOf ρ z)) ((ρ n).getD 0)) := by
  have hNR : A.NoRig := fun i x hx => h5 i x (by rw [← hAl]; exact hx)
  have hlt : ∀ n i, ρ n = some i → i < A.l.length := fun n i h => by
    obtain ⟨x, hx, _⟩ := hT.at_ n i h
    rw [hAl]
    exact (List.getElem?_eq_some_iff.1 hx).1
  have hroot : ∀ (z : Nat) (x : Inf), A.l[z]? = some x → x.k = 1 → ρ (nmOf ρ z) = some z := by
    intro z x hx hk
    obtain ⟨n, hn⟩ := hT.var z x (by rw [← hAl]; exact hx) hk
    rw [hT.nm hn]
    exact hn
  refine ⟨⟨fun n hn => ?_, fun n hn m hm => ?_, fun n hn m hm => ?_⟩, fun e he => ?_, fun τ hτ n hn => ?_⟩
  · obtain ⟨i, hi⟩ := (hT.dom n).1 hn
    show Tyy (A.val _ ((ρ n).getD 0))
    rw [hi]
    exact (unf_val hA.fin _ (hlt n i hi)).ty fun z => ⟨_, rfl⟩
  · obtain ⟨i, hi⟩ := (hT.dom n).1 hn
    have hm : Oc m (A.val (fun z => vN (nmOf ρ z)) ((ρ n).getD 0)) := hm
    rw [hi] at hm
    obtain ⟨z, x, hx, hk, hr, e⟩ := (unf_val hA.fin _ (hlt n i hi)).occ hA.ok hNR (nm := nmOf ρ) hm
    have hz := hroot z x hx hk
    rw [e] at hz
    refine ⟨(hT.dom m).2 ⟨z, hz⟩, ?_⟩
    show A.val _ ((ρ m).getD 0) = vN m
    rw [hz]
    have h1 := val_leaf (A := A) (f := fun z => vN (nmOf ρ z)) (i := z) (x := x) (by rw [hr]; exact hx) (.inl hk)
    show A.val _ z = vN m
    rw [h1, hr]
    show vN (nmOf ρ z) = vN m
    rw [e]
  · obtain ⟨i, hi⟩ := (hT.dom n).1 hn
    have hm : A.val (fun z => vN (nmOf ρ z)) ((ρ n).getD 0) = vN m := hm
    rw [hi] at hm
    have hm : A.val (fun z => vN (nmOf ρ z)) i = vN m := hm
    obtain ⟨x, hx⟩ := inf_of hA.ok (hlt n i hi)
    by_cases hk : x.k = 1
    · have h1 := val_leaf (A := A) (f := fun z => vN (nmOf ρ z)) (i := i) hx (.inl hk)
      rw [h1] at hm
      injection hm with _ _ hm
      have hz := hroot _ x hx hk
      rw [hm] at hz
      have h2 := hAe i (hlt n i hi) (by rw [kd_some hx]; exact hk)
      exact hT.le hi hz h2
    · have h2 := mod_val hA.ok hA.fin hA.like (fun z => vN (nmOf ρ z))
      have h3 := h2.2 _ x hx hk (hNR _ x hx)
      rw [← h2.1 i (hlt n i hi), hm] at h3
      injection h3 with h3
      exact absurd h3.symm hk
  · obtain ⟨s, hs, ⟨h1, _⟩, ⟨h2, _⟩⟩ := hE.mem_r he
    have hm := mod_val hA.ok hA.fin hA.like (fun z => vN (nmOf ρ z))
    obtain ⟨h3, h4⟩ := (hsem _).1 hm
    have hσ : ∀ n i, ρ n = some i → A.val (fun z => vN (nmOf ρ z)) i = A.val (fun z => vN (nmOf ρ z)) ((ρ n).getD 0) := fun n i h => by rw [h]; rfl
    refine ⟨_, h1.mod h3 (σ := fun n => A.val (fun z => vN (nmOf ρ z)) ((ρ n).getD 0)) hσ, ?_⟩
    rw [h4 s hs]
    exact h2.mod h3 hσ
  · obtain ⟨i, hi⟩ := (hT.dom n).1 hn
    obtain ⟨h1, h2, h3⟩ := lift hW hT hE hτ
    have hm := (hsem _).2 ⟨h1, h3⟩
    show So τ (A.val _ ((ρ n).getD 0)) (τ n)
    rw [hi, ← h2 n i hi, mod_eq hA.ok hA.fin hm (hlt n i hi)]
    refine (unf_val hA.fin _ (hlt n i hi)).so (fun z x hx hr hk => ⟨nmOf ρ z, rfl, ?_⟩) hNR hA.ok (unf_val hA.fin _ (hlt n i hi))
    exact h2 _ z (hroot z x hx hk)
end
end Abs
/-- The document's. -/
theorem RS.best {S : RS} {ns : List ByteArray} {E : List (Tm × Tm)} (hI : S.Inv ns (ixO ns)) (hS : ∀ σ, S.Sol σ ↔ SolE E σ) {σ : ByteArray → Tm} (hσ : ∀ n, RS.Fu S (vN n) (σ n)) : Best E ns σ :=
  ⟨RS.self_mgu hI hσ, (hS σ).1 (RS.self_sol hσ), fun τ hτ n _ => RS.self_gen hσ ((hS τ).2 hτ) n⟩
end Go.Proofs.YtncebhddcokkoaaDoor
/- The document's solver: what a call of Unify does to what is known; its mathematics. -/
namespace Go.Proofs.YtncebhddcokkoaaDoor
set_option linter.unusedSimpArgs false
set_option linter.unusedVariables false
/-- Two types become the same. -/
def Eq2 (σ : ByteArray → Tm) (a b : Tm) : Prop := ∃ u, So σ a u ∧ So σ b u
theorem Eq2.symm {σ : ByteArray → Tm} {a b : Tm} : Eq2 σ a b ↔ Eq2 σ b a := ⟨fun ⟨u, h1, h2⟩ => ⟨u, h2, h1⟩, fun ⟨u, h1, h2⟩ => ⟨u, h2, h1⟩⟩
/-- A type whose variables are among these. -/
def Wt (ns : List ByteArray) (t : Tm) : Prop := Tyy t ∧ ∀ m, Oc m t → m ∈ ns
theorem Wt.kid {ns : List ByteArray} {k N : Int} {p n : ByteArray} {l : List Tm} (hk : k ≠ 1) (h : Wt ns (.mk k p n N l)) {x : Tm} (hx : x ∈ l) : Wt ns x := by
  refine ⟨?_, fun m hm => h.2 m (.kid hk hx hm)⟩
  have h1 := h.1
  cases h1 with
  | var s => exact absurd rfl hk
  | con _ h => exact h x hx
theorem Wt.zero {ns : List ByteArray} {k N : Int} {p n : ByteArray} {l : List Tm} (h : Wt ns (.mk k p n N l)) : N = 0 := by
  have h1 := h.1
  cases h1 with
  | var s => rfl
  | con _ h => rfl
theorem Wt.var {ns : List ByteArray} {N : Int} {p n : ByteArray} {l : List Tm} (h : Wt ns (.mk 1 p n N l)) : n ∈ ns ∧ p = ⟨#[]⟩ ∧ l = [] ∧ N = 0 := by
  refine ⟨h.2 n .var, ?_⟩
  have h1 := h.1
  cases h1 with
  | var s => exact ⟨rfl, rfl, rfl⟩
  | con hk _ => exact absurd rfl hk
/-- No kind is 0. -/
inductive NZ : Tm → Prop
  | mk {k N : Int} {p n : ByteArray} {l : List Tm} (hk : k ≠ 0) (h : ∀ x ∈ l, NZ x) : NZ (.mk k p n N l)
theorem NZ.inv {k N : Int} {p n : ByteArray} {l : List Tm} (h : NZ (.mk k p n N l)) : k ≠ 0 ∧ ∀ x ∈ l, NZ x := by
  cases h with
  | mk hk h => exact ⟨hk, h⟩
namespace RS
def Nz (S : RS) : Prop := ∀ n t, S n = some t → NZ t
theorem Look.nz {S : RS} (hS : S.Nz) {t u : Tm} (h : Look S t u) : NZ t → NZ u := by
  induction h with
  | con hk => exact fun h => h
  | free h => exact fun h => h
  | step h h2 ih => exact fun _ => ih (hS _ _ h)
theorem Nz.put {S : RS} (hS : S.Nz) {n : ByteArray} {c : Tm} (hc : NZ c) : Nz (fun m => if m = n then some c else S m) := by
  intro m t h
  by_cases e : m = n
  · have h : (if m = n then some c else S m) = some t := h
    rw [if_pos e] at h; cases h; exact hc
  · have h : (if m = n then some c else S m) = some t := h
    rw [if_neg e] at h; exact hS m t h
/-- So many looks. -/
inductive LkN (S : RS) : Nat → Tm → Tm → Prop
  | con {k N : Int} {p n : ByteArray} {l : List Tm} (hk : k ≠ 1) : LkN S 0 (.mk k p n N l) (.mk k p n N l)
  | free {N : Int} {p n : ByteArray} {l : List Tm} (h : S n = none) : LkN S 0 (.mk 1 p n N l) (.mk 1 p n N l)
  | step {m : Nat} {N : Int} {p n : ByteArray} {l : List Tm} {t u : Tm} (h : S n = some t) (h2 : LkN S m t u) : LkN S (m + 1) (.mk 1 p n N l) u
theorem Look.num {S : RS} {t u : Tm} (h : Look S t u) : ∃ m, LkN S m t u := by
  induction h with
  | con hk => exact ⟨0, .con hk⟩
  | free h => exact ⟨0, .free h⟩
  | step h _ ih => obtain ⟨m, hm⟩ := ih; exact ⟨m + 1, .step h hm⟩
theorem LkN.look {S : RS} {m : Nat} {t u : Tm} (h : LkN S m t u) : Look S t u := by
  induction h with
  | con hk => exact .con hk
  | free h => exact .free h
  | step h _ ih => exact .step h ih
theorem LkN.inv {S : RS} {m : Nat} {t u : Tm} (h : LkN S m t u) : ∀ {k N : Int} {p n : ByteArray} {l : List Tm}, t = .mk k p n N l → (k ≠ 1 ∧ u = t ∧ m = 0) ∨ (k = 1 ∧ S n = none ∧ u = t ∧ m = 0) ∨ (k = 1 ∧ ∃ c j, m = j + 1 ∧ S n = some c ∧ LkN S j c u) := by
  cases h with
  | con hk => intro k N p n l e; injection e with e1 e2 e3 e4 e5; subst e1 e2 e3 e4 e5; exact .inl ⟨hk, rfl, rfl⟩
  | free h => intro k N p n l e; injection e with e1 e2 e3 e4 e5; subst e1 e2 e3 e4 e5; exact .inr (.inl ⟨rfl, h, rfl, rfl⟩)
  | step h h2 => intro k N p n l e; injection e with e1 e2 e3 e4 e5; subst e1 e2 e3 e4 e5; exact .inr (.inr ⟨rfl, _, _, rfl, h, h2⟩)
theorem Look.wt {S : RS} {ns : List ByteArray} {ix : ByteArray → Nat} (hI : S.Inv ns ix) {t u : Tm} (h : Look S t u) (ht : Wt ns t) : Wt ns u := h.ty hI ht.1 ht.2
/-- What a call of Unify does. -/
structure UR (S : RS) (ns : List ByteArray) (P : (ByteArray → Tm) → Prop) (r : Bool) (S' : RS) : Prop where
  inv : S'.Inv ns (ixO ns)
  yes : r = true → ∀ σ, S'.Sol σ ↔ S.Sol σ ∧ P σ
  no : r = false → ∀ σ, S.Sol σ → ¬ P σ
  nv : S' = S ∨ S'.nv ns < S.nv ns
theorem Look.eq2 {S : RS} {σ : ByteArray → Tm} (hS : S.Sol σ) {a b x y : Tm} (ha : Look S a x) (hb : Look S b y) : Eq2 σ a b ↔ Eq2 σ x y :=
  ⟨fun ⟨u, h1, h2⟩ => ⟨u, (ha.sol hS).1 h1, (hb.sol hS).1 h2⟩, fun ⟨u, h1, h2⟩ => ⟨u, (ha.sol hS).2 h1, (hb.sol hS).2 h2⟩⟩
/-- What is done to the looked types is done to the types. -/
theorem UR.look {S S' : RS} {ns : List ByteArray} {r : Bool} {a b x y : Tm} (ha : Look S a x) (hb : Look S b y) (h : UR S ns (fun σ => Eq2 σ x y) r S') : UR S ns (fun σ => Eq2 σ a b) r S' :=
  ⟨h.inv, fun hr σ => ⟨fun k => ⟨((h.yes hr σ).1 k).1, (ha.eq2 ((h.yes hr σ).1 k).1 hb).2 ((h.yes hr σ).1 k).2⟩, fun k => (h.yes hr σ).2 ⟨k.1, (ha.eq2 k.1 hb).1 k.2⟩⟩, fun hr σ hS k => h.no hr σ hS ((ha.eq2 hS hb).1 k), h.nv⟩
theorem UR.symm {S S' : RS} {ns : List ByteArray} {r : Bool} {a b : Tm} (h : UR S ns (fun σ => Eq2 σ a b) r S') : UR S ns (fun σ => Eq2 σ b a) r S' :=
  ⟨h.inv, fun hr σ => by rw [h.yes hr σ, Eq2.symm], fun hr σ hS k => h.no hr σ hS (Eq2.symm.1 k), h.nv⟩
theorem Inv.wt {S : RS} {ns : List ByteArray} {ix : ByteArray → Nat} (hI : S.Inv ns ix) {n : ByteArray} {t : Tm} (h : S n = some t) : Wt ns t := ⟨hI.ty n t h, hI.occ n t h⟩
theorem eq2_vN {σ : ByteArray → Tm} {n : ByteArray} {c : Tm} : Eq2 σ c (vN n) ↔ So σ c (σ n) := by
  constructor
  · rintro ⟨u, h1, h2⟩
    have e : σ n = u := So.det (So.var (p := ⟨#[]⟩) (N := 0) (l := [])) h2
    rw [e]; exact h1
  · intro h; exact ⟨_, h, .var⟩
/-- A name is put, to which a type comes in which the name is not. -/
theorem ur_put {S : RS} {ns : List ByteArray} (hI : S.Inv ns (ixO ns)) {n : ByteArray} {c w : Tm} (hn : S n = none) (hns : n ∈ ns) (hc : Wt ns c) (ho : ∀ m, c = vN m → ixO ns m < ixO ns n) (hw : Fu S c w) (hnw : ¬ Oc n w) : UR S ns (fun σ => Eq2 σ c (vN n)) true (S.put n c) :=
  ⟨hI.put hn hns hc.1 hc.2 ho hw hnw, fun _ σ => by rw [put_sol hn, eq2_vN], (fun h => by cases h), .inr (put_nv hn hns)⟩
/-- Two variables. -/
theorem ur_vars {S : RS} {ns : List ByteArray} (hI : S.Inv ns (ixO ns)) {n m : ByteArray} (hn : S n = none) (hm : S m = none) (hns : n ∈ ns) (hms : m ∈ ns) (h : ixO ns n < ixO ns m) : UR S ns (fun σ => Eq2 σ (vN n) (vN m)) true (S.put m (vN n)) := by
  refine ur_put hI hm hms ⟨.var n, fun s hs => ?_⟩ (fun s e => ?_) (.free hn) (fun ho => ?_)
  · rcases hs.inv rfl with ⟨_, e⟩ | ⟨hk, _⟩
    · subst e; exact hns
    · exact absurd rfl hk
  · injection e with _ _ e; subst e; exact h
  · rcases ho.inv rfl with ⟨_, e⟩ | ⟨hk, _⟩
    · subst e; omega
    · exact absurd rfl hk
theorem ur_same {S : RS} {ns : List ByteArray} (hI : S.Inv ns (ixO ns)) {n : ByteArray} : UR S ns (fun σ => Eq2 σ (vN n) (vN n)) true S :=
  ⟨hI, fun _ σ => ⟨fun h => ⟨h, _, .var, .var⟩, fun h => h.1⟩, (fun h => by cases h), .inl rfl⟩
/-- A variable in a type that is none. -/
theorem ur_occ {S : RS} {ns : List ByteArray} (hI : S.Inv ns (ixO ns)) {k N : Int} {p s n : ByteArray} {l : List Tm} {w : Tm} (hk : k ≠ 1) (hw : Fu S (.mk k p s N l) w) (ho : Oc n w) : UR S ns (fun σ => Eq2 σ (.mk k p s N l) (vN n)) false S :=
  ⟨hI, (fun h => by cases h), fun _ σ hS h => occ_none hS hk hw ho (eq2_vN.1 h), .inl rfl⟩
theorem eq2_head {σ : ByteArray → Tm} {k k' N N' : Int} {p n p' n' : ByteArray} {l l' : List Tm} (hk : k ≠ 1) (hk' : k' ≠ 1) : Eq2 σ (.mk k p n N l) (.mk k' p' n' N' l') ↔ k = k' ∧ p = p' ∧ n = n' ∧ N = N' ∧ l.length = l'.length ∧ ∀ (i : Nat) (x y : Tm), l[i]? = some x → l'[i]? = some y → Eq2 σ x y := by
  constructor
  · rintro ⟨u, h1, h2⟩
    rcases h1.inv rfl with ⟨e, _⟩ | ⟨_, m, rfl, hl, hm⟩
    · exact absurd e hk
    rcases h2.inv rfl with ⟨e, _⟩ | ⟨_, m', e, hl', hm'⟩
    · exact absurd e hk'
    injection e with e1 e2 e3 e4 e5
    subst e1 e2 e3 e4 e5
    refine ⟨rfl, rfl, rfl, rfl, by omega, fun i x y hx hy => ?_⟩
    obtain ⟨z, hz⟩ := at_both hl hx
    exact ⟨z, hm i x z hx hz, hm' i y z hy hz⟩
  · rintro ⟨rfl, rfl, rfl, rfl, hl, h⟩
    have hex : ∀ i, i < l.length → ∃ z, (∀ x, l[i]? = some x → So σ x z) ∧ ∀ y, l'[i]? = some y → So σ y z := by
      intro i hi
      obtain ⟨z, h1, h2⟩ := h i (l[i]) (l'[i]'(by omega)) (List.getElem?_eq_getElem hi) (List.getElem?_eq_getElem _)
      exact ⟨z, fun x hx => by rw [List.getElem?_eq_getElem hi] at hx; cases hx; exact h1, fun y hy => by rw [List.getElem?_eq_getElem (by omega)] at hy; cases hy; exact h2⟩
    have : ∃ m : List Tm, m.length = l.length ∧ ∀ (i : Nat) (z : Tm), m[i]? = some z → (∀ x, l[i]? = some x → So σ x z) ∧ ∀ y, l'[i]? = some y → So σ y z := by
      refine ⟨(List.range l.length).map fun i => if hi : i < l.length then (hex i hi).choose else vN ⟨#[]⟩, by simp, fun i z hz => ?_⟩
      rw [List.getElem?_map] at hz
      by_cases hi : i < l.length
      · rw [List.getElem?_range hi] at hz
        have e : (if hi : i < l.length then (hex i hi).choose else vN ⟨#[]⟩) = z := by simpa using hz
        rw [dif_pos hi] at e
        rw [← e]
        exact (hex i hi).choose_spec
      · rw [List.getElem?_eq_none (by simpa using hi)] at hz; cases hz
    obtain ⟨m, hml, hm⟩ := this
    exact ⟨.mk k p n N m, .con hk hml.symm fun i x z hx hz => (hm i z hz).1 x hx, .con hk (by omega) fun i y z hy hz => (hm i z hz).2 y hy⟩
/-- Heads that are others. -/
theorem ur_clash {S : RS} {ns : List ByteArray} (hI : S.Inv ns (ixO ns)) {k k' N N' : Int} {p n p' n' : ByteArray} {l l' : List Tm} (hk : k ≠ 1) (hk' : k' ≠ 1) (h : ¬ (k = k' ∧ p = p' ∧ n = n' ∧ l.length = l'.length)) : UR S ns (fun σ => Eq2 σ (.mk k p n N l) (.mk k' p' n' N' l')) false S :=
  ⟨hI, (fun h => by cases h), fun _ σ _ h2 => by
    obtain ⟨h3, h4, h5, _, h6, _⟩ := (eq2_head hk hk').1 h2
    exact h ⟨h3, h4, h5, h6⟩, .inl rfl⟩
/-- The first parts are made the same. -/
def KidsEq (l l' : List Tm) (j : Nat) (σ : ByteArray → Tm) : Prop := ∀ (i : Nat) (x y : Tm), i < j → l[i]? = some x → l'[i]? = some y → Eq2 σ x y
theorem ur_zero {S : RS} {ns : List ByteArray} (hI : S.Inv ns (ixO ns)) (l l' : List Tm) : UR S ns (KidsEq l l' 0) true S :=
  ⟨hI, fun _ σ => ⟨fun h => ⟨h, fun i x y hi => by omega⟩, fun h => h.1⟩, (fun h => by cases h), .inl rfl⟩
theorem ur_next {S S1 S2 : RS} {ns : List ByteArray} {l l' : List Tm} {j : Nat} {x y : Tm} {r : Bool} (h : UR S ns (KidsEq l l' j) true S1) (hx : l[j]? = some x) (hy : l'[j]? = some y) (h2 : UR S1 ns (fun σ => Eq2 σ x y) r S2) : UR S ns (KidsEq l l' (j + 1)) r S2 := by
  have hiff : ∀ σ, KidsEq l l' (j + 1) σ ↔ KidsEq l l' j σ ∧ Eq2 σ x y := by
    intro σ
    constructor
    · intro h
      exact ⟨fun i a b hi => h i a b (by omega), h j x y (by omega) hx hy⟩
    · rintro ⟨h1, h2⟩ i a b hi ha hb
      by_cases e : i = j
      · subst e; rw [hx] at ha; rw [hy] at hb; cases ha; cases hb; exact h2
      · exact h1 i a b (by omega) ha hb
  refine ⟨h2.inv, fun hr σ => ?_, fun hr σ hS k => ?_, ?_⟩
  · rw [h2.yes hr σ, h.yes rfl σ, hiff, and_assoc]
  · obtain ⟨k1, k2⟩ := (hiff σ).1 k
    exact h2.no hr σ ((h.yes rfl σ).2 ⟨hS, k1⟩) k2
  · rcases h2.nv with e | e <;> rcases h.nv with e' | e'
    · exact .inl (e.trans e')
    · rw [e]; exact .inr e'
    · rw [← e']; exact .inr e
    · exact .inr (by omega)
theorem ur_more {S S1 : RS} {ns : List ByteArray} {k N : Int} {p n : ByteArray} {l l' : List Tm} {j : Nat} {r : Bool} (hk : k ≠ 1) (hl : l.length = l'.length) (hj : r = true → j = l.length) (h : UR S ns (KidsEq l l' j) r S1) : UR S ns (fun σ => Eq2 σ (.mk k p n N l) (.mk k p n N l')) r S1 := by
  refine ⟨h.inv, fun hr σ => ?_, fun hr σ hS k2 => ?_, h.nv⟩
  · rw [h.yes hr σ, eq2_head hk hk]
    have hj := hj hr
    constructor
    · rintro ⟨h1, h2⟩
      exact ⟨h1, rfl, rfl, rfl, rfl, hl, fun i x y hx hy => h2 i x y (by rw [hj]; exact (List.getElem?_eq_some_iff.1 hx).1) hx hy⟩
    · rintro ⟨h1, _, _, _, _, _, h2⟩
      exact ⟨h1, fun i x y _ hx hy => h2 i x y hx hy⟩
  · obtain ⟨_, _, _, _, _, h3⟩ := (eq2_head hk hk).1 k2
    exact h.no hr σ hS fun i x y _ hx hy => h3 i x y hx hy
theorem sum_mem {f : Tm → Nat} : ∀ {l : List Tm} {x : Tm}, x ∈ l → f x ≤ (l.map f).sum
  | y :: l, x, h => by
    simp only [List.map_cons, List.sum_cons]
    rcases List.mem_cons.1 h with rfl | h
    · omega
    · have := sum_mem (f := f) h; omega
/-- A part's is less. -/
theorem Fu.part {S : RS} {k N : Int} {p n : ByteArray} {l : List Tm} {u : Tm} (hk : k ≠ 1) (h : Fu S (.mk k p n N l) u) {x : Tm} (hx : x ∈ l) : ∃ y, Fu S x y ∧ cnt2 y < cnt2 u := by
  rcases h.inv rfl with ⟨e, _⟩ | ⟨e, _⟩ | ⟨_, m, rfl, hl, hm⟩
  · exact absurd e hk
  · exact absurd e hk
  · obtain ⟨i, hi⟩ := List.getElem?_of_mem hx
    obtain ⟨y, hy⟩ := at_both hl hi
    refine ⟨y, hm i x y hi hy, ?_⟩
    rw [cnt2_eq]
    have := sum_mem (f := cnt2) (List.mem_of_getElem? hy)
    omega
theorem inv_none (ns : List ByteArray) (ix : ByteArray → Nat) : RS.Inv (fun _ => none) ns ix :=
  ⟨(fun n t h => by cases h), (fun n t h => by cases h), (fun n t h => by cases h), (fun n m h => by cases h), fun n => ⟨_, .free rfl⟩⟩
theorem sol_none (σ : ByteArray → Tm) : RS.Sol (fun _ => none) σ := fun n t h => by cases h
theorem solE_next {E : List (Tm × Tm)} {j : Nat} {x : Tm × Tm} (hx : E[j]? = some x) (σ : ByteArray → Tm) : SolE (E.take (j + 1)) σ ↔ SolE (E.take j) σ ∧ Eq2 σ x.1 x.2 := by
  obtain ⟨hj, rfl⟩ := List.getElem?_eq_some_iff.1 hx
  rw [List.take_succ_eq_append_getElem hj]
  constructor
  · intro h
    exact ⟨fun e he => h e (List.mem_append_left _ he), h _ (List.mem_append_right _ (by simp))⟩
  · rintro ⟨h1, h2⟩ e he
    rcases List.mem_append.1 he with he | he
    · exact h1 e he
    · cases List.mem_singleton.1 he; exact h2
end RS
end Go.Proofs.YtncebhddcokkoaaDoor
