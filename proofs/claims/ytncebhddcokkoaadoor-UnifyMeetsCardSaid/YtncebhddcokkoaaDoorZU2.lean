/- Texts in a row: UB UC UD. -/
import Derived.Test.YtncebhddcokkoaaDoorZU1
/- Types are made the same: the steps, and what each leaves of the solutions. -/
namespace Go.Proofs.YtncebhddcokkoaaDoor
set_option linter.unusedSimpArgs false
set_option linter.unusedVariables false
namespace Abs
/-- What is still to be made the same: a pair; a pair whose Kids stand ahead of it. -/
inductive Item where
  | pr (u v : Nat)
  | mk (x y : Nat)
def Item.eq (θ : Nat → Tm) : Item → Prop
  | .pr u v => θ u = θ v
  | .mk x y => θ x = θ y
/-- The kind of what a type has become. -/
def kd (A : Abs) (i : Nat) : Int := match A.l[A.r i]? with
  | some x => x.k
  | none => 0
def Alike (x y : Inf) : Prop := x.k = y.k ∧ x.k ≠ 5 ∧ x.p = y.p ∧ x.n = y.n ∧ x.kids.length = y.kids.length
open Classical in
/-- Levels, once a variable of level v is bound to a type. -/
noncomputable def low (A : Abs) (b : Nat) (v : Int) (i : Nat) : Int := if Reach A b i ∧ A.kd i = 1 then min (A.lv i) v else A.lv i
/-- May a variable not become a type? -/
def Bad (A : Abs) (a b : Nat) : Prop := Reach A b a ∨ ∃ i, Reach A b i ∧ A.kd i = 5 ∧ A.lv a < A.lv i
/-- Which of two is bound. -/
def turn (A : Abs) (x y : Nat) : Nat × Nat := if A.kd x ≠ 1 ∨ (A.kd y = 1 ∧ x < y) then (y, x) else (x, y)
/-- One step. -/
inductive Step (A : Abs) : List Item → Option (Abs × List Item) → Prop
  | done {x y : Nat} {l : List Item} (h : A.r x = A.r y) : Step A (.mk x y :: l) (some (A, l))
  | merge {x y : Nat} {l : List Item} (h : A.r x ≠ A.r y) : Step A (.mk x y :: l) (some (A.bind (A.r x) (A.r y) A.lv, l))
  | same {u v : Nat} {l : List Item} (h : A.r u = A.r v) : Step A (.pr u v :: l) (some (A, l))
  | bad {u v : Nat} {l : List Item} (h : A.r u ≠ A.r v) (hv : A.kd u = 1 ∨ A.kd v = 1) (hb : A.Bad (A.turn (A.r u) (A.r v)).1 (A.turn (A.r u) (A.r v)).2) : Step A (.pr u v :: l) none
  | bnd {u v : Nat} {l : List Item} (h : A.r u ≠ A.r v) (hv : A.kd u = 1 ∨ A.kd v = 1) (hb : ¬ A.Bad (A.turn (A.r u) (A.r v)).1 (A.turn (A.r u) (A.r v)).2) :
      Step A (.pr u v :: l) (some (A.bind (A.turn (A.r u) (A.r v)).1 (A.turn (A.r u) (A.r v)).2 (A.low (A.turn (A.r u) (A.r v)).2 (A.lv (A.turn (A.r u) (A.r v)).1)), l))
  | clash {u v : Nat} {l : List Item} {x y : Inf} (h : A.r u ≠ A.r v) (hu : A.l[A.r u]? = some x) (hv : A.l[A.r v]? = some y) (hx : x.k ≠ 1) (hy : y.k ≠ 1) (hn : ¬ Alike x y) : Step A (.pr u v :: l) none
  | kids {u v : Nat} {l : List Item} {x y : Inf} (h : A.r u ≠ A.r v) (hu : A.l[A.r u]? = some x) (hv : A.l[A.r v]? = some y) (hx : x.k ≠ 1) (hy : y.k ≠ 1) (hn : Alike x y) :
      Step A (.pr u v :: l) (some (A, (x.kids.zip y.kids).map (fun z => .pr z.1 z.2) ++ .mk (A.r u) (A.r v) :: l))
/-- A run of so many steps. -/
inductive Run : Nat → Abs → List Item → Option Abs → Prop
  | done (n : Nat) (A : Abs) : Run n A [] (some A)
  | fail {n : Nat} {A : Abs} {l : List Item} (h : Step A l none) : Run (n + 1) A l none
  | step {n : Nat} {A B : Abs} {l m : List Item} {o : Option Abs} (h : Step A l (some (B, m))) (h2 : Run n B m o) : Run (n + 1) A l o
/-- What holds of a store, and of what is still to be done. -/
structure Inv (A : Abs) (l : List Item) : Prop where
  ok : A.Ok
  fin : A.Fin
  like : A.Like
  lt : ∀ x ∈ l, match x with
    | .pr u v => u < A.l.length ∧ v < A.l.length
    | .mk x y => x < A.l.length ∧ y < A.l.length
  mark : ∀ (pre post : List Item) (x y : Nat), l = pre ++ .mk x y :: post → ∃ (a b : Inf), A.l[x]? = some a ∧ A.l[y]? = some b ∧ a.k ≠ 1 ∧ Alike a b ∧
    ∀ (j u v : Nat), a.kids[j]? = some u → b.kids[j]? = some v → A.r u = A.r v ∨ .pr u v ∈ pre ∨ ∃ c d, .mk c d ∈ pre ∧ A.r c = A.r u ∧ A.r d = A.r v
/-- All solutions of what is still to be done. -/
def Sem (A : Abs) (l : List Item) (θ : Nat → Tm) : Prop := A.Mod θ ∧ ∀ x ∈ l, x.eq θ
/-- No rigid type has become another one, or is below what it could become: of stores without such. -/
def NoRig (A : Abs) : Prop := ∀ (i : Nat) (x : Inf), A.l[i]? = some x → x.k ≠ 5
theorem kd_some {A : Abs} {i : Nat} {x : Inf} (h : A.l[A.r i]? = some x) : A.kd i = x.k := by unfold kd; rw [h]
theorem kd_root {A : Abs} (hA : A.Ok) (i : Nat) : A.kd (A.r i) = A.kd i := by unfold kd; rw [hA.idem]
theorem inf_of {A : Abs} (hA : A.Ok) {i : Nat} (hi : i < A.l.length) : ∃ x, A.l[A.r i]? = some x := ⟨A.l[A.r i]'(hA.lt i hi), List.getElem?_eq_getElem _⟩
theorem map_kids {θ : Nat → Tm} {l m : List Nat} (hl : l.length = m.length) : l.map θ = m.map θ ↔ ∀ (j u v : Nat), l[j]? = some u → m[j]? = some v → θ u = θ v := by
  constructor
  · intro h j u v hu hv
    have h2 := congrArg (fun l => l[j]?) h
    simp only [List.getElem?_map, hu, hv, Option.map_some, Option.some.injEq] at h2
    exact h2
  · intro h
    apply List.ext_getElem?
    intro j
    rw [List.getElem?_map, List.getElem?_map]
    by_cases hj : j < l.length
    · have e1 : l[j]? = some (l[j]) := List.getElem?_eq_getElem hj
      have e2 : m[j]? = some (m[j]'(by omega)) := List.getElem?_eq_getElem (by omega)
      rw [e1, e2, Option.map_some, Option.map_some, h j _ _ e1 e2]
    · rw [List.getElem?_eq_none (by omega), List.getElem?_eq_none (by omega)]
/-- Two types of others that are alike are the same just if their Kids are. -/
theorem alike_eq {A : Abs} {θ : Nat → Tm} (hm : A.Mod θ) {i j : Nat} {x y : Inf} (hx : A.l[i]? = some x) (hy : A.l[j]? = some y) (h1 : x.k ≠ 1) (ha : Alike x y) : θ i = θ j ↔ ∀ (c u v : Nat), x.kids[c]? = some u → y.kids[c]? = some v → θ u = θ v := by
  obtain ⟨a1, a2, a3, a4, a5⟩ := ha
  rw [hm.2 i x hx h1 a2, hm.2 j y hy (by rw [← a1]; exact h1) (by rw [← a1]; exact a2), a1, a3, a4, ← map_kids a5]
  constructor
  · intro h; injection h
  · intro h; rw [h]
theorem alike_of {A : Abs} {θ : Nat → Tm} (hm : A.Mod θ) {i j : Nat} {x y : Inf} (hx : A.l[i]? = some x) (hy : A.l[j]? = some y) (h1 : x.k ≠ 1) (h5 : x.k ≠ 5) (g1 : y.k ≠ 1) (g5 : y.k ≠ 5) (h : θ i = θ j) : Alike x y := by
  rw [hm.2 i x hx h1 h5, hm.2 j y hy g1 g5] at h
  injection h with e1 e2 e3 e4 e5
  have := congrArg List.length e5
  rw [List.length_map, List.length_map] at this
  exact ⟨e1, h5, e2, e3, this⟩
theorem turn_cases (A : Abs) (x y : Nat) : (A.turn x y = (y, x) ∧ (A.kd x ≠ 1 ∨ (A.kd y = 1 ∧ x < y))) ∨ (A.turn x y = (x, y) ∧ A.kd x = 1 ∧ (A.kd y = 1 → ¬ x < y)) := by
  unfold turn
  by_cases h : A.kd x ≠ 1 ∨ (A.kd y = 1 ∧ x < y)
  · exact .inl ⟨if_pos h, h⟩
  · refine .inr ⟨if_neg h, ?_, ?_⟩
    · exact Decidable.byContradiction fun h2 => h (.inl h2)
    · exact fun h2 h3 => h (.inr ⟨h2, h3⟩)
/-- What is bound is a variable; the other one is another root. -/
theorem turn_spec {A : Abs} (hA : A.Ok) {u v : Nat} (hu : u < A.l.length) (hv : v < A.l.length) (h : A.r u ≠ A.r v) (hk : A.kd u = 1 ∨ A.kd v = 1) {a b : Nat} (e : A.turn (A.r u) (A.r v) = (a, b)) :
    A.r a = a ∧ A.r b = b ∧ a < A.l.length ∧ b < A.l.length ∧ a ≠ b ∧ A.kd a = 1 ∧ ((a = A.r u ∧ b = A.r v) ∨ (a = A.r v ∧ b = A.r u)) ∧ (A.kd b = 1 → b < a) := by
  have k1 := kd_root hA u
  have k2 := kd_root hA v
  rcases turn_cases A (A.r u) (A.r v) with ⟨e2, hc⟩ | ⟨e2, hc, hd⟩
  · rw [e2] at e
    cases e
    refine ⟨hA.idem v, hA.idem u, hA.lt v hv, hA.lt u hu, fun e => h e.symm, ?_, .inr ⟨rfl, rfl⟩, ?_⟩
    · rcases hc with hc | hc
      · rw [k1] at hc; rw [k2]; exact hk.resolve_left hc
      · exact hc.1
    · intro h1
      rcases hc with hc | hc
      · exact absurd h1 hc
      · exact hc.2
  · rw [e2] at e
    cases e
    refine ⟨hA.idem u, hA.idem v, hA.lt u hu, hA.lt v hv, h, hc, .inl ⟨rfl, rfl⟩, ?_⟩
    intro h1
    have := hd h1
    have := h
    omega
theorem var_of {A : Abs} {a : Nat} (ha : A.r a = a) (hl : a < A.l.length) (hk : A.kd a = 1) : ∃ x, A.l[a]? = some x ∧ x.k = 1 := by
  refine ⟨A.l[a], List.getElem?_eq_getElem hl, ?_⟩
  have : A.kd a = (A.l[a]).k := kd_some (by rw [ha]; exact List.getElem?_eq_getElem hl)
  omega
theorem item_bind {A : Abs} {a b : Nat} {m : Nat → Int} {x y : Nat} (h : A.r x = A.r y) : (A.bind a b m).r x = (A.bind a b m).r y := by
  show (if A.r x = a then b else A.r x) = (if A.r y = a then b else A.r y)
  rw [h]
theorem like_bind {A : Abs} (hL : A.Like) {a b : Nat} {m : Nat → Int} (hb : A.r b = b) {x : Inf} (ha : A.l[a]? = some x) (hx : x.k = 1) : (A.bind a b m).Like := by
  intro i y hi h1 h5
  obtain ⟨z, hz, e1, e2, e3, e4, e5⟩ := hL i y hi h1 h5
  have hne : A.r i ≠ a := by
    intro e
    rw [e, ha] at hz
    cases hz
    exact h1 (e1 ▸ hx)
  have er : (A.bind a b m).r i = A.r i := if_neg hne
  exact ⟨z, by rw [er]; exact hz, e1, e2, e3, e4, fun j u v hu hv => item_bind (e5 j u v hu hv)⟩
theorem like_merge {A : Abs} (hA : A.Ok) (hL : A.Like) {a b : Nat} {m : Nat → Int} {x y : Inf} (ha : A.l[a]? = some x) (hb : A.l[b]? = some y) (hra : A.r a = a) (hrb : A.r b = b) (hx : x.k ≠ 1) (hal : Alike x y)
    (hkids : ∀ (j u v : Nat), x.kids[j]? = some u → y.kids[j]? = some v → A.r u = A.r v) : (A.bind a b m).Like := by
  intro i z hi h1 h5
  obtain ⟨c, hc, e1, e2, e3, e4, e5⟩ := hL i z hi h1 h5
  by_cases e : A.r i = a
  · rw [e, ha] at hc
    cases hc
    have er : (A.bind a b m).r i = b := if_pos e
    obtain ⟨a1, a2, a3, a4, a5⟩ := hal
    refine ⟨y, by rw [er]; exact hb, by omega, by rw [← a3]; exact e2, by rw [← a4]; exact e3, by omega, fun j u v hu hv => item_bind ?_⟩
    have hj := (List.getElem?_eq_some_iff.1 hu).1
    have e6 : x.kids[j]? = some (x.kids[j]'(by omega)) := List.getElem?_eq_getElem (by omega)
    rw [e5 j u _ hu e6, hkids j _ v e6 hv]
  · have er : (A.bind a b m).r i = A.r i := if_neg e
    exact ⟨c, by rw [er]; exact hc, e1, e2, e3, e4, fun j u v hu hv => item_bind (e5 j u v hu hv)⟩
/-- A mark's two, once all ahead of it is done, have the same Kids. -/
theorem mark_top {A : Abs} {l : List Item} {x y : Nat} (hI : Inv A (.mk x y :: l)) : ∃ (a b : Inf), A.l[A.r x]? = some a ∧ A.l[A.r y]? = some b ∧ a.k ≠ 1 ∧ Alike a b ∧ ∀ (j u v : Nat), a.kids[j]? = some u → b.kids[j]? = some v → A.r u = A.r v := by
  obtain ⟨a, b, ha, hb, h1, hal, hk⟩ := hI.mark [] l x y rfl
  have hk' : ∀ (j u v : Nat), a.kids[j]? = some u → b.kids[j]? = some v → A.r u = A.r v := fun j u v hu hv => by
    rcases hk j u v hu hv with h | h | ⟨_, _, h, _⟩
    · exact h
    · cases h
    · cases h
  obtain ⟨a1, a2, a3, a4, a5⟩ := hal
  obtain ⟨a', ha', p1, p2, p3, p4, p5⟩ := hI.like x a ha h1 a2
  obtain ⟨b', hb', q1, q2, q3, q4, q5⟩ := hI.like y b hb (by rw [← a1]; exact h1) (by rw [← a1]; exact a2)
  refine ⟨a', b', ha', hb', by rw [p1]; exact h1, ⟨by rw [p1, q1]; exact a1, by rw [p1]; exact a2, by rw [p2, q2]; exact a3, by rw [p3, q3]; exact a4, by omega⟩, fun j u v hu hv => ?_⟩
  have hj := (List.getElem?_eq_some_iff.1 hu).1
  have ea : a.kids[j]? = some (a.kids[j]'(by omega)) := List.getElem?_eq_getElem (by omega)
  have eb : b.kids[j]? = some (b.kids[j]'(by omega)) := List.getElem?_eq_getElem (by omega)
  rw [← p5 j _ u ea hu, hk' j _ _ ea eb, q5 j _ v eb hv]
/-- A step keeps what holds. -/
theorem Step.inv {A B : Abs} {l m : List Item} (h : Step A l (some (B, m))) (hI : Inv A l) : Inv B m := by
  -- what is left behind a pair or a mark that is done, in a store in which it is one
  have rest : ∀ {x : Item} {l' : List Item} {A' : Abs}, l = x :: l' → A'.l = A.l → A'.Ok → A'.Fin → A'.Like → (∀ u v, A.r u = A.r v → A'.r u = A'.r v) →
      (match x with
        | .pr u v => A'.r u = A'.r v
        | .mk u v => A'.r u = A'.r v) → Inv A' l' := by
    intro x l' A' e el h1 h2 h3 hup hx
    refine ⟨h1, h2, h3, fun y hy => ?_, fun pre post c d e2 => ?_⟩
    · have := hI.lt y (by rw [e]; simp [hy])
      rw [el]; exact this
    · obtain ⟨a, b, ha, hb, k1, k2, k3⟩ := hI.mark (x :: pre) post c d (by rw [e, e2]; rfl)
      refine ⟨a, b, by rw [el]; exact ha, by rw [el]; exact hb, k1, k2, fun j u v hu hv => ?_⟩
      rcases k3 j u v hu hv with h | h | ⟨p, q, h, hp, hq⟩
      · exact .inl (hup u v h)
      · rcases List.mem_cons.1 h with h | h
        · subst h; exact .inl hx
        · exact .inr (.inl h)
      · rcases List.mem_cons.1 h with h | h
        · subst h
          exact .inl ((hup _ _ hp).symm.trans (hx.trans (hup _ _ hq)))
        · exact .inr (.inr ⟨p, q, h, hup _ _ hp, hup _ _ hq⟩)
  cases h with
  | done h => exact rest rfl rfl hI.ok hI.fin hI.like (fun _ _ h => h) h
  | @merge x y l h =>
    obtain ⟨a, b, ha, hb, h1, hal, hk⟩ := mark_top hI
    have hlt := hI.lt (.mk x y) (by simp)
    have hO := bind_ok (m := A.lv) hI.ok (hI.ok.idem y) (hI.ok.lt y hlt.2) h
    refine rest rfl rfl hO ?_ ?_ (fun u v h => item_bind h) ?_
    · exact merge_fin hI.ok hI.fin ha hb (hI.ok.idem x) (hI.ok.idem y) ⟨h1, hal.2.1⟩ hal.1.symm h hal.2.2.2.2.symm hk
    · exact like_merge hI.ok hI.like ha hb (hI.ok.idem x) (hI.ok.idem y) h1 hal hk
    · show (if A.r x = A.r x then A.r y else A.r x) = (if A.r y = A.r x then A.r y else A.r y)
      rw [if_pos rfl, if_neg (fun e => h e.symm)]
  | same h => exact rest rfl rfl hI.ok hI.fin hI.like (fun _ _ h => h) h
  | @bnd u v l h hv hb =>
    have hlt := hI.lt (.pr u v) (by simp)
    generalize et : A.turn (A.r u) (A.r v) = t at *
    obtain ⟨a, b⟩ := t
    obtain ⟨ra, rb, la, lb, hab, ka, hw, _⟩ := turn_spec hI.ok hlt.1 hlt.2 h hv et
    obtain ⟨x, hx, hx1⟩ := var_of ra la ka
    have hO := bind_ok (m := A.low b (A.lv a)) hI.ok rb lb hab
    refine rest rfl rfl hO ?_ ?_ (fun u v h => item_bind h) ?_
    · exact bind_fin hI.ok hI.fin hx hx1 rb lb hab fun h2 => hb (.inl h2)
    · exact like_bind hI.like rb hx hx1
    · show (if A.r u = a then b else A.r u) = (if A.r v = a then b else A.r v)
      rcases hw with ⟨e1, e2⟩ | ⟨e1, e2⟩
      · rw [if_pos e1.symm, if_neg (by rw [← e2]; exact fun e => hab e.symm), e2]
      · rw [if_pos e1.symm, if_neg (by rw [← e2]; exact fun e => hab e.symm), e2]
  | @kids u v l x y h hu hv hx hy hn =>
    have hlt := hI.lt (.pr u v) (by simp)
    have hmem : ∀ z, z ∈ (x.kids.zip y.kids).map (fun z => Item.pr z.1 z.2) → ∃ (j a b : Nat), z = .pr a b ∧ x.kids[j]? = some a ∧ y.kids[j]? = some b := by
      intro z hz
      obtain ⟨w, hw, rfl⟩ := List.mem_map.1 hz
      obtain ⟨j, hj, e⟩ := List.getElem_of_mem hw
      rw [List.length_zip] at hj
      rw [List.getElem_zip] at e
      subst e
      exact ⟨j, _, _, rfl, List.getElem?_eq_getElem (by omega), List.getElem?_eq_getElem (by omega)⟩
    have hin : ∀ (j a b : Nat), x.kids[j]? = some a → y.kids[j]? = some b → Item.pr a b ∈ (x.kids.zip y.kids).map (fun z => Item.pr z.1 z.2) := by
      intro j a b ha hb
      refine List.mem_map.2 ⟨(a, b), ?_, rfl⟩
      apply List.mem_of_getElem? (i := j)
      rw [List.getElem?_zip_eq_some]
      exact ⟨ha, hb⟩
    refine ⟨hI.ok, hI.fin, hI.like, fun z hz => ?_, fun pre post c d e => ?_⟩
    · rcases List.mem_append.1 hz with hz | hz
      · obtain ⟨j, a, b, rfl, ha, hb⟩ := hmem z hz
        have h1 := hI.ok.kid _ x hu a (List.mem_of_getElem? ha)
        have h2 := hI.ok.kid _ y hv b (List.mem_of_getElem? hb)
        have h3 := hI.ok.lt u hlt.1
        have h4 := hI.ok.lt v hlt.2
        exact ⟨by omega, by omega⟩
      · rcases List.mem_cons.1 hz with rfl | hz
        · exact ⟨hI.ok.lt u hlt.1, hI.ok.lt v hlt.2⟩
        · exact hI.lt z (by simp [hz])
    · -- the mark is the new one, or one behind it
      rcases List.append_eq_append_iff.1 e with ⟨s, e1, e2⟩ | ⟨s, e1, e2⟩
      · -- pre = kids ++ s, mk :: l = s ++ mk c d :: post
        cases s with
        | nil =>
          rw [List.append_nil] at e1
          injection e2 with e3 e4
          injection e3 with e5 e6
          subst e5 e6
          refine ⟨x, y, hu, hv, hx, hn, fun j a b ha hb => .inr (.inl ?_)⟩
          rw [e1]
          exact hin j a b ha hb
        | cons t s =>
          injection e2 with e3 e4
          subst e3
          obtain ⟨a, b, ha, hb, k1, k2, k3⟩ := hI.mark (.pr u v :: s) post c d (by rw [e4]; rfl)
          refine ⟨a, b, ha, hb, k1, k2, fun j p q hp hq => ?_⟩
          rw [e1]
          rcases k3 j p q hp hq with h | h | ⟨g, k, h, hg, hk⟩
          · exact .inl h
          · rcases List.mem_cons.1 h with h | h
            · injection h with h1 h2
              subst h1 h2
              exact .inr (.inr ⟨A.r p, A.r q, by simp, hI.ok.idem p, hI.ok.idem q⟩)
            · exact .inr (.inl (by simp [h]))
          · rcases List.mem_cons.1 h with h | h
            · cases h
            · exact .inr (.inr ⟨g, k, by simp [h], hg, hk⟩)
      · -- kids = pre ++ s, s ++ mk :: l = mk c d :: post
        cases s with
        | nil =>
          rw [List.nil_append] at e2
          injection e2 with e3 e4
          injection e3 with e5 e6
          subst e5 e6
          rw [List.append_nil] at e1
          refine ⟨x, y, hu, hv, hx, hn, fun j a b ha hb => .inr (.inl ?_)⟩
          rw [← e1]
          exact hin j a b ha hb
        | cons t s =>
          injection e2 with e3 e4
          subst e3
          have : Item.mk c d ∈ (x.kids.zip y.kids).map (fun z => Item.pr z.1 z.2) := by rw [e1]; simp
          obtain ⟨_, _, _, h2, _⟩ := hmem _ this
          cases h2
/-- A step leaves the solutions. -/
theorem Step.sem {A B : Abs} {l m : List Item} (h : Step A l (some (B, m))) (hI : Inv A l) (θ : Nat → Tm) : Sem A l θ ↔ Sem B m θ := by
  cases h with
  | @done x y l h =>
    have hlt := hI.lt (.mk x y) (by simp)
    constructor
    · rintro ⟨h1, h2⟩; exact ⟨h1, fun z hz => h2 z (by simp [hz])⟩
    · rintro ⟨h1, h2⟩
      refine ⟨h1, fun z hz => ?_⟩
      rcases List.mem_cons.1 hz with rfl | hz
      · show θ x = θ y; rw [h1.1 x hlt.1, h1.1 y hlt.2, h]
      · exact h2 z hz
  | @merge x y l h =>
    have hlt := hI.lt (.mk x y) (by simp)
    have hb := bind_mod (m := A.lv) hI.ok (hI.ok.idem x) (hI.ok.idem y) (hI.ok.lt x hlt.1) (hI.ok.lt y hlt.2) θ
    constructor
    · rintro ⟨h1, h2⟩
      refine ⟨hb.2 ⟨h1, ?_⟩, fun z hz => h2 z (by simp [hz])⟩
      have h3 : θ x = θ y := h2 (.mk x y) (by simp)
      rw [← h1.1 x hlt.1, ← h1.1 y hlt.2, h3]
    · rintro ⟨h1, h2⟩
      obtain ⟨h3, h4⟩ := hb.1 h1
      refine ⟨h3, fun z hz => ?_⟩
      rcases List.mem_cons.1 hz with rfl | hz
      · show θ x = θ y; rw [h3.1 x hlt.1, h3.1 y hlt.2, h4]
      · exact h2 z hz
  | @same u v l h =>
    have hlt := hI.lt (.pr u v) (by simp)
    constructor
    · rintro ⟨h1, h2⟩; exact ⟨h1, fun z hz => h2 z (by simp [hz])⟩
    · rintro ⟨h1, h2⟩
      refine ⟨h1, fun z hz => ?_⟩
      rcases List.mem_cons.1 hz with rfl | hz
      · show θ u = θ v; rw [h1.1 u hlt.1, h1.1 v hlt.2, h]
      · exact h2 z hz
  | @bnd u v l h hv hb =>
    have hlt := hI.lt (.pr u v) (by simp)
    generalize et : A.turn (A.r u) (A.r v) = t at *
    obtain ⟨a, b⟩ := t
    obtain ⟨ra, rb, la, lb, hab, ka, hw, _⟩ := turn_spec hI.ok hlt.1 hlt.2 h hv et
    have hbm := bind_mod (m := A.low b (A.lv a)) hI.ok ra rb la lb θ
    have hside : A.Mod θ → (θ u = θ v ↔ θ a = θ b) := fun hm => by
      rw [hm.1 u hlt.1, hm.1 v hlt.2]
      rcases hw with ⟨e1, e2⟩ | ⟨e1, e2⟩
      · rw [e1, e2]
      · rw [e1, e2]; exact eq_comm
    constructor
    · rintro ⟨h1, h2⟩
      exact ⟨hbm.2 ⟨h1, (hside h1).1 (h2 (.pr u v) (by simp))⟩, fun z hz => h2 z (by simp [hz])⟩
    · rintro ⟨h1, h2⟩
      obtain ⟨h3, h4⟩ := hbm.1 h1
      refine ⟨h3, fun z hz => ?_⟩
      rcases List.mem_cons.1 hz with rfl | hz
      · exact (hside h3).2 h4
      · exact h2 z hz
  | @kids u v l x y h hu hv hx hy hn =>
    have hlt := hI.lt (.pr u v) (by simp)
    have key : A.Mod θ → (θ u = θ v ↔ (∀ z ∈ (x.kids.zip y.kids).map (fun z => Item.pr z.1 z.2), z.eq θ) ∧ θ (A.r u) = θ (A.r v)) := fun hm => by
      have e := alike_eq hm hu hv hx hn
      rw [hm.1 u hlt.1, hm.1 v hlt.2]
      constructor
      · intro h3
        refine ⟨fun z hz => ?_, h3⟩
        obtain ⟨w, hw, rfl⟩ := List.mem_map.1 hz
        obtain ⟨j, hj, e2⟩ := List.getElem_of_mem hw
        rw [List.length_zip] at hj
        rw [List.getElem_zip] at e2
        subst e2
        exact e.1 h3 j _ _ (List.getElem?_eq_getElem (by omega)) (List.getElem?_eq_getElem (by omega))
      · exact fun h3 => h3.2
    constructor
    · rintro ⟨h1, h2⟩
      obtain ⟨k1, k2⟩ := (key h1).1 (h2 (.pr u v) (by simp))
      refine ⟨h1, fun z hz => ?_⟩
      rcases List.mem_append.1 hz with hz | hz
      · exact k1 z hz
      · rcases List.mem_cons.1 hz with rfl | hz
        · exact k2
        · exact h2 z (by simp [hz])
    · rintro ⟨h1, h2⟩
      refine ⟨h1, fun z hz => ?_⟩
      rcases List.mem_cons.1 hz with rfl | hz
      · exact (key h1).2 ⟨fun z hz => h2 z (by simp [hz]), h2 (.mk (A.r u) (A.r v)) (by simp)⟩
      · exact h2 z (by simp [hz])
theorem Reach.split {A : Abs} {i z : Nat} (h : Reach A i z) : z = A.r i ∨ ∃ (x : Inf) (y : Nat), A.l[A.r i]? = some x ∧ y ∈ x.kids ∧ Reach A y z := by
  cases h with
  | here => exact .inl rfl
  | kid h hy h2 => exact .inr ⟨_, _, h, hy, h2⟩
/-- Where nothing is rigid, what fails has no solution. -/
theorem Step.none {A : Abs} {l : List Item} (h : Step A l none) (hI : Inv A l) (hR : A.NoRig) (θ : Nat → Tm) : ¬ Sem A l θ := by
  rintro ⟨hm, he⟩
  cases h with
  | @bad u v l h hv hb =>
    have hlt := hI.lt (.pr u v) (by simp)
    generalize et : A.turn (A.r u) (A.r v) = t at *
    obtain ⟨a, b⟩ := t
    obtain ⟨ra, rb, la, lb, hab, ka, hw, _⟩ := turn_spec hI.ok hlt.1 hlt.2 h hv et
    have huv : θ u = θ v := he (.pr u v) (by simp)
    have hθ : θ a = θ b := by
      rw [hm.1 u hlt.1, hm.1 v hlt.2] at huv
      rcases hw with ⟨e1, e2⟩ | ⟨e1, e2⟩
      · rw [e1, e2]; exact huv
      · rw [e1, e2]; exact huv.symm
    rcases hb with hb | ⟨i, hb, hi, _⟩
    · -- the variable is in it
      have hb : Reach A b a := hb
      rcases hb.split with e | ⟨x, y, hx, hy, h2⟩
      · exact hab (e.trans rb)
      · have h3 := (Reach.kid hx hy h2).mod hI.ok hm lb
        rcases h3 with h3 | h3
        · -- strictly below: go by the Kid
          have hylt : y < A.l.length := by
            have := hI.ok.kid _ x hx y hy
            have := hI.ok.lt b lb
            omega
          have h15 : x.k ≠ 1 ∧ x.k ≠ 5 := by
            constructor
            · intro e; have := hI.ok.leaf _ x hx (.inl e); rw [this] at hy; cases hy
            · intro e; have := hI.ok.leaf _ x hx (.inr e); rw [this] at hy; cases hy
          have e : θ b = .mk x.k x.p x.n 0 (x.kids.map θ) := by rw [hm.1 b lb, hm.2 _ x hx h15.1 h15.2]
          have hmem : θ y ∈ x.kids.map θ := List.mem_map_of_mem hy
          have hs : Sub (θ a) (θ b) := by
            rw [e]
            rcases h2.mod hI.ok hm hylt with h4 | h4
            · rw [← h4]; exact .kid hmem
            · exact .deep hmem h4
          rw [hθ] at hs
          exact hs.irrefl
        · rw [hθ] at h3
          exact h3.irrefl
    · -- nothing is rigid
      unfold kd at hi
      cases hx : A.l[A.r i]? with
      | none => rw [hx] at hi; cases hi
      | some x => rw [hx] at hi; exact hR _ x hx hi
  | @clash u v l x y h hu hv hx hy hn =>
    have hlt := hI.lt (.pr u v) (by simp)
    have huv : θ u = θ v := he (.pr u v) (by simp)
    rw [hm.1 u hlt.1, hm.1 v hlt.2] at huv
    exact hn (alike_of hm hu hv hx (hR _ x hu) hy (hR _ y hv) huv)
theorem Step.norig {A B : Abs} {l m : List Item} (h : Step A l (some (B, m))) : B.l = A.l := by
  cases h <;> rfl
/-- A whole run: what it ends with has the solutions of what was to be done; where it fails, there is none. -/
theorem Run.sem {n : Nat} {A : Abs} {l : List Item} {o : Option Abs} (h : Run n A l o) : Inv A l → A.NoRig → match o with
    | some B => Inv B [] ∧ B.l = A.l ∧ ∀ θ, Sem A l θ ↔ B.Mod θ
    | none => ∀ θ, ¬ Sem A l θ := by
  induction h with
  | done n A => intro hI hR; exact ⟨hI, rfl, fun θ => ⟨fun h => h.1, fun h => ⟨h, fun x hx => by cases hx⟩⟩⟩
  | fail h => intro hI hR; exact h.none hI hR
  | @step n A B l m o h h2 ih =>
    intro hI hR
    have hl := h.norig
    have h3 := ih (h.inv hI) (fun i x hx => hR i x (by rw [← hl]; exact hx))
    cases o with
    | none => intro θ hs; exact h3 θ ((h.sem hI θ).1 hs)
    | some C => exact ⟨h3.1, h3.2.1.trans hl, fun θ => (h.sem hI θ).trans (h3.2.2 θ)⟩
end Abs
end Go.Proofs.YtncebhddcokkoaaDoor
/- Types are made the same: each run ends. -/
namespace Go.Proofs.YtncebhddcokkoaaDoor
set_option linter.unusedSimpArgs false
set_option linter.unusedVariables false
namespace Abs
theorem Unf.congr {A : Abs} {f g : Nat → Tm} {i : Nat} {t : Tm} (h : Unf A f i t) (hfg : ∀ (z : Nat) (x : Inf), A.l[z]? = some x → (x.k = 1 ∨ x.k = 5) → A.r z = z → f z = g z) (hA : A.Ok) : Unf A g i t := by
  induction h with
  | leaf h hk => rw [hfg _ _ h hk (hA.idem _)]; exact .leaf h hk
  | node h h1 h5 hl hk ih => exact .node h h1 h5 hl ih
theorem val_congr {A : Abs} (hA : A.Ok) (hF : A.Fin) {f g : Nat → Tm} (hfg : ∀ (z : Nat) (x : Inf), A.l[z]? = some x → (x.k = 1 ∨ x.k = 5) → A.r z = z → f z = g z) {i : Nat} (hi : i < A.l.length) : A.val f i = A.val g i :=
  (val_unf ((unf_val hF f hi).congr hfg hA)).symm
/-- What is put for the variables of a store's trees is put through. -/
theorem val_val {A B : Abs} (hA : A.Ok) (hF : A.Fin) {θ f : Nat → Tm} (hm : A.Mod θ) (hf : ∀ (z : Nat) (x : Inf), A.l[z]? = some x → (x.k = 1 ∨ x.k = 5) → A.r z = z → θ z = f z) {i : Nat} (hi : i < A.l.length) : θ i = A.val f i := by
  rw [mod_eq hA hF hm hi]
  exact val_congr hA hF hf hi
/-- Two types of others that are made one: the trees stay. -/
theorem val_merge {A : Abs} {l : List Item} {x y : Nat} (hI : Inv A (.mk x y :: l)) (h : A.r x ≠ A.r y) (f : Nat → Tm) {i : Nat} (hi : i < A.l.length) : (A.bind (A.r x) (A.r y) A.lv).val f i = A.val f i := by
  have hJ := (Step.merge (l := l) h).inv hI
  have hlt := hI.lt (.mk x y) (by simp)
  obtain ⟨a, b, ha, hb, h1, hal, hk⟩ := mark_top hI
  have hm := mod_val hJ.ok hJ.fin hJ.like f
  have hm2 := ((bind_mod (m := A.lv) hI.ok (hI.ok.idem x) (hI.ok.idem y) (hI.ok.lt x hlt.1) (hI.ok.lt y hlt.2) _).1 hm).1
  refine val_val (B := A) hI.ok hI.fin hm2 (fun z c hz hc hr => ?_) hi
  have hne : z ≠ A.r x := by
    rintro rfl
    rw [ha] at hz
    cases hz
    rcases hc with hc | hc
    · exact h1 hc
    · exact hal.2.1 hc
  have er : (A.bind (A.r x) (A.r y) A.lv).r z = z := by show (if A.r z = A.r x then A.r y else A.r z) = z; rw [hr, if_neg hne]
  have := val_leaf (A := A.bind (A.r x) (A.r y) A.lv) (f := f) (i := z) (x := c) (by rw [er]; exact hz) hc
  rw [er] at this
  exact this
/-- How many variables have become nothing. -/
def nv (A : Abs) : Nat := (List.range A.l.length).countP fun i => decide (A.r i = i) && decide (A.kd i = 1)
theorem count_le {p q : Nat → Bool} (h : ∀ i, p i = true → q i = true) : ∀ l : List Nat, l.countP p ≤ l.countP q
  | [] => Nat.le_refl _
  | a :: l => by
    have ih := count_le h l
    rw [List.countP_cons, List.countP_cons]
    cases hp : p a with
    | false => simp; split <;> omega
    | true => rw [h a hp]; simp; omega
theorem count_lt {p q : Nat → Bool} (h : ∀ i, p i = true → q i = true) {a : Nat} (hq : q a = true) (hp : p a = false) : ∀ l : List Nat, a ∈ l → l.countP p < l.countP q
  | [], hm => by cases hm
  | b :: l, hm => by
    have hle := count_le h l
    rw [List.countP_cons, List.countP_cons]
    rcases List.mem_cons.1 hm with e | hm
    · subst e; rw [hp, hq]; simp; omega
    · have ih := count_lt h hq hp l hm
      cases hb : p b with
      | false => simp; split <;> omega
      | true => rw [h b hb]; simp; omega
theorem nv_bind {A : Abs} (hA : A.Ok) {a b : Nat} {m : Nat → Int} (ha : A.r a = a) (hb : A.r b = b) (hal : a < A.l.length) (hab : a ≠ b) (hk : A.kd a = 1) : (A.bind a b m).nv < A.nv := by
  refine count_lt (a := a) (fun i h => ?_) ?_ ?_ _ ?_
  · simp only [Bool.and_eq_true, decide_eq_true_eq] at h ⊢
    obtain ⟨h1, h2⟩ := h
    have h1 : (if A.r i = a then b else A.r i) = i := h1
    by_cases e : A.r i = a
    · rw [if_pos e] at h1
      subst h1
      exact absurd (e.symm.trans hb) hab
    · rw [if_neg e] at h1
      refine ⟨h1, ?_⟩
      have er : (A.bind a b m).r i = A.r i := if_neg e
      unfold kd at h2 ⊢
      rw [er] at h2
      exact h2
  · simp only [Bool.and_eq_true, decide_eq_true_eq]; exact ⟨ha, hk⟩
  · have er : (A.bind a b m).r a = b := if_pos ha
    rw [er]
    simp only [Bool.and_eq_false_iff, decide_eq_false_iff_not]
    exact .inl fun e => hab e.symm
  · exact List.mem_range.2 hal
noncomputable def sz0 (A : Abs) (i : Nat) : Nat := SizeOf.sizeOf (A.val (fun _ => .mk 1 ⟨#[]⟩ ⟨#[]⟩ 0 []) i)
noncomputable def wgt (A : Abs) : List Item → Nat
  | [] => 0
  | .pr u _ :: l => 2 * A.sz0 u + wgt A l
  | .mk _ _ :: l => 1 + wgt A l
theorem sz0_pos (A : Abs) (i : Nat) : 1 ≤ A.sz0 i := by
  unfold sz0
  generalize A.val _ i = t
  cases t
  simp only [Tm.mk.sizeOf_spec]
  omega
theorem wgt_app (A : Abs) : ∀ l m : List Item, wgt A (l ++ m) = wgt A l + wgt A m
  | [], m => by simp [wgt]
  | .pr u v :: l, m => by simp only [List.cons_append, wgt, wgt_app A l m]; omega
  | .mk x y :: l, m => by simp only [List.cons_append, wgt, wgt_app A l m]; omega
theorem wgt_kids (A : Abs) : ∀ xs ys : List Nat, wgt A ((xs.zip ys).map fun z => .pr z.1 z.2) ≤ 2 * (xs.map A.sz0).sum
  | [], _ => by simp [wgt]
  | x :: xs, [] => by simp [wgt]
  | x :: xs, y :: ys => by
    have := wgt_kids A xs ys
    simp only [List.zip_cons_cons, List.map_cons, wgt, List.sum_cons]
    omega
theorem size_list (f : Nat → Tm) : ∀ l : List Nat, (l.map fun i => SizeOf.sizeOf (f i)).sum ≤ SizeOf.sizeOf (l.map f)
  | [] => by simp
  | a :: l => by
    have := size_list f l
    simp only [List.map_cons, List.sum_cons, List.cons.sizeOf_spec]
    omega
theorem wgt_same {A B : Abs} (h : ∀ i, i < A.l.length → B.sz0 i = A.sz0 i) : ∀ l : List Item, (∀ x ∈ l, match x with
    | .pr u v => u < A.l.length ∧ v < A.l.length
    | .mk x y => x < A.l.length ∧ y < A.l.length) → wgt B l = wgt A l
  | [], _ => rfl
  | .pr u v :: l, hl => by
    have := wgt_same h l fun x hx => hl x (by simp [hx])
    have h2 := hl (.pr u v) (by simp)
    simp only [wgt, this, h u h2.1]
  | .mk x y :: l, hl => by
    have := wgt_same h l fun x hx => hl x (by simp [hx])
    simp only [wgt, this]
open Classical in
/-- Each run ends. -/
theorem run_ex : ∀ (N W : Nat) (A : Abs) (l : List Item), Inv A l → A.nv = N → wgt A l = W → ∃ n o, Run n A l o := by
  intro N
  induction N using Nat.strongRecOn with
  | ind N ihN =>
  intro W
  induction W using Nat.strongRecOn with
  | ind W ihW =>
    intro A l hI hN hW
    -- by a step behind which there is less to do
    have go : ∀ {B : Abs} {m : List Item}, Step A l (some (B, m)) → (B.nv < N ∨ (B.nv = N ∧ wgt B m < W)) → ∃ n o, Run n A l o := by
      intro B m hs h
      have hJ := hs.inv hI
      rcases h with h | ⟨h1, h2⟩
      · obtain ⟨n, o, h3⟩ := ihN _ h _ B m hJ rfl rfl
        exact ⟨n + 1, o, .step hs h3⟩
      · obtain ⟨n, o, h3⟩ := ihW _ h2 B m hJ h1 rfl
        exact ⟨n + 1, o, .step hs h3⟩
    cases l with
    | nil => exact ⟨0, some A, .done 0 A⟩
    | cons z l =>
      cases z with
      | mk x y =>
        have hlt := hI.lt (.mk x y) (by simp)
        by_cases h : A.r x = A.r y
        · exact go (.done h) (.inr ⟨hN, by rw [← hW]; simp only [wgt]; omega⟩)
        · refine go (.merge h) (.inr ⟨?_, ?_⟩)
          · -- variables stay
            rw [← hN]
            obtain ⟨a, b, ha, hb, h1, hal, hk⟩ := mark_top hI
            unfold nv
            show (List.range A.l.length).countP _ = _
            apply List.countP_congr
            intro i hi
            have hil := List.mem_range.1 hi
            simp only [Bool.and_eq_true, decide_eq_true_eq]
            by_cases e : A.r i = A.r x
            · have er : (A.bind (A.r x) (A.r y) A.lv).r i = A.r y := if_pos e
              have k1 : A.kd i = a.k := kd_some (by rw [e]; exact ha)
              have k2 : (A.bind (A.r x) (A.r y) A.lv).kd i = b.k := kd_some (A := A.bind (A.r x) (A.r y) A.lv) (by rw [er]; exact hb)
              rw [k1, k2]
              constructor
              · rintro ⟨_, h3⟩; exact absurd (hal.1.trans h3) h1
              · rintro ⟨_, h3⟩; exact absurd h3 h1
            · have er : (A.bind (A.r x) (A.r y) A.lv).r i = A.r i := if_neg e
              have k2 : (A.bind (A.r x) (A.r y) A.lv).kd i = A.kd i := by unfold kd; rw [er]; rfl
              rw [er, k2]
          · have hs : wgt (A.bind (A.r x) (A.r y) A.lv) l = wgt A l := wgt_same (fun i hi => by unfold sz0; rw [val_merge hI h _ hi]) l fun z hz => hI.lt z (by simp [hz])
            rw [hs, ← hW]
            simp only [wgt]
            omega
      | pr u v =>
        have hlt := hI.lt (.pr u v) (by simp)
        have hp := sz0_pos A u
        by_cases h : A.r u = A.r v
        · exact go (.same h) (.inr ⟨hN, by rw [← hW]; simp only [wgt]; omega⟩)
        · by_cases hv : A.kd u = 1 ∨ A.kd v = 1
          · by_cases hb : A.Bad (A.turn (A.r u) (A.r v)).1 (A.turn (A.r u) (A.r v)).2
            · exact ⟨1, none, .fail (.bad h hv hb)⟩
            · refine go (.bnd h hv hb) (.inl ?_)
              generalize et : A.turn (A.r u) (A.r v) = t at *
              obtain ⟨a, b⟩ := t
              obtain ⟨ra, rb, la, lb, hab, ka, _, _⟩ := turn_spec hI.ok hlt.1 hlt.2 h hv et
              rw [← hN]
              exact nv_bind hI.ok ra rb la hab ka
          · obtain ⟨x, hx⟩ := inf_of hI.ok hlt.1
            obtain ⟨y, hy⟩ := inf_of hI.ok hlt.2
            have kx : x.k ≠ 1 := fun e => hv (.inl (by rw [kd_some hx]; exact e))
            have ky : y.k ≠ 1 := fun e => hv (.inr (by rw [kd_some hy]; exact e))
            by_cases hn : Alike x y
            · refine go (.kids h hx hy kx ky hn) (.inr ⟨hN, ?_⟩)
              rw [← hW, wgt_app]
              simp only [wgt]
              have h1 := wgt_kids A x.kids y.kids
              have hm := mod_val hI.ok hI.fin hI.like (fun _ => .mk 1 ⟨#[]⟩ ⟨#[]⟩ 0 [])
              have h2 : 2 * (x.kids.map A.sz0).sum + 1 < 2 * A.sz0 u := by
                have h3 := size_list (A.val (fun _ => .mk 1 ⟨#[]⟩ ⟨#[]⟩ 0 [])) x.kids
                have h4 : A.sz0 u = SizeOf.sizeOf (Tm.mk x.k x.p x.n 0 (x.kids.map (A.val (fun _ => .mk 1 ⟨#[]⟩ ⟨#[]⟩ 0 [])))) := by
                  unfold sz0
                  rw [hm.1 u hlt.1, hm.2 _ x hx kx hn.2.1]
                have h5 : (x.kids.map A.sz0) = (x.kids.map fun i => SizeOf.sizeOf (A.val (fun _ => .mk 1 ⟨#[]⟩ ⟨#[]⟩ 0 []) i)) := rfl
                rw [h4, h5]
                simp only [Tm.mk.sizeOf_spec]
                omega
              omega
            · exact ⟨1, none, .fail (.clash h hx hy kx ky hn)⟩
theorem run_all {A : Abs} {l : List Item} (hI : Inv A l) : ∃ n o, Run n A l o := run_ex _ _ A l hI rfl rfl
/-- A pair in a store where nothing is under way. -/
theorem Inv.pair {A : Abs} (hI : Inv A []) {u v : Nat} (hu : u < A.l.length) (hv : v < A.l.length) : Inv A [.pr u v] := by
  refine ⟨hI.ok, hI.fin, hI.like, fun x hx => ?_, fun pre post x y e => ?_⟩
  · cases List.mem_singleton.1 hx; exact ⟨hu, hv⟩
  · cases pre with
    | nil => cases e
    | cons a pre =>
      injection e with _ e
      cases pre <;> cases e
end Abs
end Go.Proofs.YtncebhddcokkoaaDoor
/- Solutions of equations: the most general one, with the earliest names, is one alone. -/
namespace Go.Proofs.YtncebhddcokkoaaDoor
set_option linter.unusedSimpArgs false
set_option linter.unusedVariables false
abbrev vN (s : ByteArray) : Tm := .mk 1 ⟨#[]⟩ s 0 []
/-- What a type becomes, its variables being these. -/
inductive So (σ : ByteArray → Tm) : Tm → Tm → Prop
  | var {p n : ByteArray} {N : Int} {l : List Tm} : So σ (.mk 1 p n N l) (σ n)
  | con {k N : Int} {p n : ByteArray} {l m : List Tm} (hk : k ≠ 1) (hl : l.length = m.length) (h : ∀ (i : Nat) (x y : Tm), l[i]? = some x → m[i]? = some y → So σ x y) : So σ (.mk k p n N l) (.mk k p n N m)
theorem list_eq {α : Type} {l m : List α} (hl : l.length = m.length) (h : ∀ (i : Nat) (x y : α), l[i]? = some x → m[i]? = some y → x = y) : l = m := by
  apply List.ext_getElem?
  intro j
  by_cases hj : j < l.length
  · have e1 : l[j]? = some (l[j]) := List.getElem?_eq_getElem hj
    have e2 : m[j]? = some (m[j]'(by omega)) := List.getElem?_eq_getElem (by omega)
    rw [e1, e2, h j _ _ e1 e2]
  · rw [List.getElem?_eq_none (by omega), List.getElem?_eq_none (by omega)]
theorem at_both {α β : Type} {l : List α} {m : List β} (hl : l.length = m.length) {i : Nat} {x : α} (hx : l[i]? = some x) : ∃ y, m[i]? = some y :=
  ⟨m[i]'(by have := (List.getElem?_eq_some_iff.1 hx).1; omega), List.getElem?_eq_getElem _⟩
theorem So.inv {σ : ByteArray → Tm} {t u : Tm} (h : So σ t u) : ∀ {k N : Int} {p n : ByteArray} {l : List Tm}, t = .mk k p n N l → (k = 1 ∧ u = σ n) ∨ (k ≠ 1 ∧ ∃ m, u = .mk k p n N m ∧ l.length = m.length ∧ ∀ (i : Nat) (x y : Tm), l[i]? = some x → m[i]? = some y → So σ x y) := by
  cases h with
  | var => intro k N p n l e; injection e with e1 e2 e3 e4 e5; subst e1 e2 e3 e4 e5; exact .inl ⟨rfl, rfl⟩
  | con hk hl h => intro k N p n l e; injection e with e1 e2 e3 e4 e5; subst e1 e2 e3 e4 e5; exact .inr ⟨hk, _, rfl, hl, h⟩
theorem So.det {σ : ByteArray → Tm} {t u : Tm} (h : So σ t u) : ∀ {v : Tm}, So σ t v → u = v := by
  induction h with
  | var =>
    intro v hv
    cases hv with
    | var => rfl
    | con hk _ _ => exact absurd rfl hk
  | con hk hl h ih =>
    intro v hv
    cases hv with
    | var => exact absurd rfl hk
    | con _ hl' h' =>
      congr 1
      refine list_eq (by omega) fun i y z hy hz => ?_
      obtain ⟨x, hx⟩ := at_both hl.symm hy
      exact ih i x y hx hy (h' i x z hx hz)
/-- A variable of a type. -/
inductive Oc : ByteArray → Tm → Prop
  | var {p n : ByteArray} {N : Int} {l : List Tm} : Oc n (.mk 1 p n N l)
  | kid {k N : Int} {p n s : ByteArray} {l : List Tm} {x : Tm} (hk : k ≠ 1) (hx : x ∈ l) (h : Oc s x) : Oc s (.mk k p n N l)
theorem Oc.inv {s : ByteArray} {t : Tm} (h : Oc s t) : ∀ {k N : Int} {p n : ByteArray} {l : List Tm}, t = .mk k p n N l → (k = 1 ∧ n = s) ∨ (k ≠ 1 ∧ ∃ x ∈ l, Oc s x) := by
  cases h with
  | var => intro k N p n l e; injection e with e1 e2 e3 e4 e5; subst e1 e2 e3 e4 e5; exact .inl ⟨rfl, rfl⟩
  | kid hk hx h => intro k N p n l e; injection e with e1 e2 e3 e4 e5; subst e1 e2 e3 e4 e5; exact .inr ⟨hk, _, hx, h⟩
/-- Types: variables have no parts, and no package. -/
inductive Tyy : Tm → Prop
  | var (s : ByteArray) : Tyy (vN s)
  | con {k : Int} {p n : ByteArray} {l : List Tm} (hk : k ≠ 1) (h : ∀ x ∈ l, Tyy x) : Tyy (.mk k p n 0 l)
theorem So.ex {σ : ByteArray → Tm} {t : Tm} (h : Tyy t) : ∃ u, So σ t u := by
  induction h with
  | var s => exact ⟨_, .var⟩
  | @con k p n l hk h ih =>
    obtain ⟨m, hm⟩ := Abs.All2.of_ex ih
    exact ⟨_, .con hk hm.len fun i x y hx hy => hm.at hx hy⟩
theorem So.cong {σ τ : ByteArray → Tm} {t u : Tm} (h : So σ t u) : (∀ s, Oc s t → σ s = τ s) → So τ t u := by
  induction h with
  | var => intro hs; rw [hs _ .var]; exact .var
  | con hk hl h ih => intro hs; exact .con hk hl fun i x y hx hy => ih i x y hx hy fun s ho => hs s (.kid hk (List.mem_of_getElem? hx) ho)
/-- What is put for itself. -/
theorem So.self {σ : ByteArray → Tm} {t : Tm} (h : Tyy t) : (∀ s, Oc s t → σ s = vN s) → So σ t t := by
  induction h with
  | var s => intro hs; have := So.var (σ := σ) (p := ⟨#[]⟩) (n := s) (N := 0) (l := []); rw [hs s .var] at this; exact this
  | con hk h ih =>
    intro hs
    refine .con hk rfl fun i x y hx hy => ?_
    rw [hx] at hy
    cases hy
    exact ih x (List.mem_of_getElem? hx) fun s ho => hs s (.kid hk (List.mem_of_getElem? hx) ho)
theorem So.trans {σ τ υ : ByteArray → Tm} {t u : Tm} (h : So σ t u) : ∀ {v : Tm}, So τ u v → (∀ s, Oc s t → So τ (σ s) (υ s)) → So υ t v := by
  induction h with
  | var => intro v hv hs; rw [hv.det (hs _ .var)]; exact .var
  | con hk hl h ih =>
    intro v hv hs
    cases hv with
    | var => exact absurd rfl hk
    | con _ hl' h' =>
      refine .con hk (by omega) fun i x z hx hz => ?_
      obtain ⟨y, hy⟩ := at_both hl hx
      exact ih i x y hx hy (h' i y z hy hz) fun s ho => hs s (.kid hk (List.mem_of_getElem? hx) ho)
/-- The size of a type does not fall where something is put. -/
theorem sum_le2 {f g : Tm → Nat} : ∀ {l m : List Tm}, l.length = m.length → (∀ (i : Nat) (x y : Tm), l[i]? = some x → m[i]? = some y → f x ≤ g y) → (l.map f).sum ≤ (m.map g).sum
  | [], [], _, _ => Nat.le_refl _
  | x :: l, y :: m, hl, h => by
    have h1 := h 0 x y rfl rfl
    have h2 := sum_le2 (l := l) (m := m) (by simpa using hl) fun i a b ha hb => h (i + 1) a b (by simpa using ha) (by simpa using hb)
    simp only [List.map_cons, List.sum_cons]
    omega
def cnt2 : Tm → Nat
  | .mk _ _ _ _ l => 1 + (l.attach.map fun ⟨x, _⟩ => cnt2 x).sum
theorem cnt2_eq (k N : Int) (p n : ByteArray) (l : List Tm) : cnt2 (.mk k p n N l) = 1 + (l.map cnt2).sum := by
  rw [cnt2]
  simp
theorem cnt2_pos (t : Tm) : 1 ≤ cnt2 t := by
  obtain ⟨k, p, n, N, l⟩ := t
  rw [cnt2_eq]; omega
theorem So.size {σ : ByteArray → Tm} {t u : Tm} (h : So σ t u) : Tyy t → cnt2 t ≤ cnt2 u := by
  induction h with
  | @var p n N l =>
    intro ht
    have := cnt2_pos (σ n)
    cases ht with
    | var s => rw [cnt2_eq]; simp; exact this
    | con hk _ => exact absurd rfl hk
  | con hk hl h ih =>
    intro ht
    rw [cnt2_eq, cnt2_eq]
    cases ht with
    | var => exact absurd rfl hk
    | con _ hx =>
      have := sum_le2 hl fun i x y hx1 hy1 => ih i x y hx1 hy1 (hx x (List.mem_of_getElem? hx1))
      omega
/-- A most general solution with the earliest names. -/
structure Mgu (ns : List ByteArray) (ix : ByteArray → Nat) (σ : ByteArray → Tm) : Prop where
  ty : ∀ n ∈ ns, Tyy (σ n)
  oc : ∀ n ∈ ns, ∀ m, Oc m (σ n) → m ∈ ns ∧ σ m = vN m
  ix : ∀ n ∈ ns, ∀ m, σ n = vN m → ix m ≤ ix n
/-- There is one alone. -/
theorem mgu_one {ns : List ByteArray} {ix : ByteArray → Nat} (hix : ∀ n ∈ ns, ∀ m ∈ ns, ix n = ix m → n = m) {σ τ : ByteArray → Tm} (hσ : Mgu ns ix σ) (hτ : Mgu ns ix τ)
    (h1 : ∀ n ∈ ns, So τ (σ n) (τ n)) (h2 : ∀ n ∈ ns, So σ (τ n) (σ n)) : ∀ n ∈ ns, σ n = τ n := by
  intro n hn
  have key : ∀ m, Oc m (σ n) → τ m = vN m := by
    intro m hm
    obtain ⟨hmn, hm1⟩ := hσ.oc n hn m hm
    have h3 := h2 m hmn
    rw [hm1] at h3
    have ht := hτ.ty m hmn
    generalize e : τ m = t at *
    cases ht with
    | con hk _ =>
      rcases h3.inv rfl with ⟨e1, _⟩ | ⟨_, m', e1, _⟩
      · exact absurd e1 hk
      · injection e1 with e1; exact absurd e1.symm hk
    | var k =>
      have hk := hτ.oc m hmn k (by rw [e]; exact .var)
      have h4 : σ k = vN m := by
        have h5 : So σ (vN k) (σ k) := .var
        exact h5.det h3
      have i1 := hσ.ix k hk.1 m h4
      have i2 := hτ.ix m hmn k e
      rw [hix k hk.1 m hmn (by omega)]
  exact (So.self (hσ.ty n hn) key).det (h1 n hn)
/-- Solutions. -/
def SolE (E : List (Tm × Tm)) (σ : ByteArray → Tm) : Prop := ∀ e ∈ E, ∃ u, So σ e.1 u ∧ So σ e.2 u
namespace Abs
/-- A store's type that is this term, its variables being those of a table. -/
inductive Repr (A : Abs) (ρ : ByteArray → Option Nat) : Nat → Tm → Prop
  | var {i : Nat} {p n : ByteArray} {N : Int} {l : List Tm} (h : ρ n = some i) : Repr A ρ i (.mk 1 p n N l)
  | con {i : Nat} {x : Inf} {k : Int} {p n : ByteArray} {l : List Tm} (hx : A.l[i]? = some x) (h1 : k ≠ 1) (h5 : k ≠ 5) (ek : x.k = k) (ep : x.p = p) (en : x.n = n) (hl : x.kids.length = l.length) (h : ∀ (j y : Nat) (t : Tm), x.kids[j]? = some y → l[j]? = some t → Repr A ρ y t) : Repr A ρ i (.mk k p n 0 l)
theorem Repr.mod {A : Abs} {ρ : ByteArray → Option Nat} {θ : Nat → Tm} (hm : A.Mod θ) {σ : ByteArray → Tm} (hσ : ∀ n i, ρ n = some i → θ i = σ n) {i : Nat} {t : Tm} (h : Repr A ρ i t) : So σ t (θ i) := by
  induction h with
  | var h => rw [hσ _ _ h]; exact .var
  | @con i x k p n l hx h1 h5 ek ep en hl h ih =>
    rw [hm.2 i x hx (by rw [ek]; exact h1) (by rw [ek]; exact h5), ek, ep, en]
    refine .con h1 (by rw [List.length_map, hl]) fun j t u ht hu => ?_
    rw [List.getElem?_map] at hu
    cases hy : x.kids[j]? with
    | none => rw [hy] at hu; cases hu
    | some y =>
      rw [hy] at hu
      obtain rfl : θ y = u := by simpa using hu
      exact ih j y t hy ht
/-- Two trees of one type, by what is put for its variables. -/
theorem Unf.so {A : Abs} {f g : Nat → Tm} {σ : ByteArray → Tm} (hf : ∀ (z : Nat) (x : Inf), A.l[z]? = some x → A.r z = z → x.k = 1 → ∃ s, f z = vN s ∧ g z = σ s) (h5 : A.NoRig) (hA : A.Ok) {i : Nat} {t : Tm} (h : Unf A f i t) : ∀ {u : Tm}, Unf A g i u → So σ t u := by
  induction h with
  | @leaf i x h hk =>
    intro u hu
    have hk1 : x.k = 1 := hk.resolve_right (h5 _ x h)
    obtain ⟨s, e1, e2⟩ := hf _ x h (hA.idem i) hk1
    cases hu with
    | leaf _ _ => rw [e1, e2]; exact .var
    | node h' h1 _ _ _ => rw [h] at h'; cases h'; exact absurd hk1 h1
  | @node i x ts h h1 h5 hl hk ih =>
    intro u hu
    cases hu with
    | leaf h' hk' => rw [h] at h'; cases h'; omega
    | @node _ x' us h' _ _ hl' hk' =>
      rw [h] at h'
      cases h'
      refine .con h1 (by omega) fun j a b ha hb => ?_
      obtain ⟨y, hy⟩ := at_both hl.symm ha
      exact ih j y a hy ha (hk' j y b hy hb)
/-- The trees that a store's types come to, with names for its variables, are types. -/
theorem Unf.ty {A : Abs} {f : Nat → Tm} (hf : ∀ z, ∃ s, f z = vN s) {i : Nat} {t : Tm} (h : Unf A f i t) : Tyy t := by
  induction h with
  | leaf h hk => obtain ⟨s, e⟩ := hf (A.r _); rw [e]; exact .var s
  | @node i x ts h h1 h5 hl hk ih =>
    refine .con h1 fun t ht => ?_
    obtain ⟨j, hj, rfl⟩ := List.getElem_of_mem ht
    obtain ⟨y, hy⟩ := at_both hl.symm (List.getElem?_eq_getElem hj)
    exact ih j y _ hy (List.getElem?_eq_getElem hj)
/-- A variable in such a tree is one that has become nothing. -/
theorem Unf.occ {A : Abs} (hA : A.Ok) (h5 : A.NoRig) {nm : Nat → ByteArray} {i : Nat} {t : Tm} (h : Unf A (fun z => vN (nm z)) i t) : ∀ {s : ByteArray}, Oc s t → ∃ z x, A.l[z]? = some x ∧ x.k = 1 ∧ A.r z = z ∧ nm z = s := by
  induction h with
  | @leaf i x h hk =>
    intro s ho
    cases ho with
    | var => exact ⟨A.r i, x, h, hk.resolve_right (h5 _ x h), hA.idem i, rfl⟩
    | kid hk' _ _ => exact absurd rfl hk'
  | @node i x ts h h1 h5 hl hk ih =>
    intro s ho
    rcases ho.inv rfl with ⟨e1, _⟩ | ⟨_, t, hx, ho⟩
    · exact absurd e1 h1
    · obtain ⟨j, hj, rfl⟩ := List.getElem_of_mem hx
      obtain ⟨y, hy⟩ := at_both hl.symm (List.getElem?_eq_getElem hj)
      exact ih j y _ hy (List.getElem?_eq_getElem hj) ho
end Abs
end Go.Proofs.YtncebhddcokkoaaDoor
