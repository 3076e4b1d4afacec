/- Texts in a row: Xb La Lb. -/
import Derived.Test.YtncebhddcokkoaaDoorZT13
import Derived.Test.YtncebhddcokkoaaDoorZT10
import Derived.Test.YtncebhddcokkoaaDoorZT12
/- What Match goes through (mathematics). -/
namespace Go.Proofs.YtncebhddcokkoaaDoor
open Go.RowKit
/-- A term is at most so deep. -/
def Dp : Nat → Tm → Prop
  | 0, _ => False
  | d + 1, .mk _ _ _ _ kids => ∀ x ∈ kids, Dp d x
theorem IsT.dp {w : World} : ∀ {d : Nat} {v : Value} {t : Tm}, IsT w d v t → Dp d t := by
  intro d
  induction d with
  | zero => intro v t h; cases h
  | succ d ih =>
    intro v t h
    obtain ⟨k, p, n, N, kids⟩ := t
    obtain ⟨q, c, _, _, _, _, h5⟩ := h
    intro x hx
    obtain ⟨i, hi, hxi⟩ := List.getElem_of_mem hx
    obtain ⟨_, _, _, _, _, _, _, _, _, ht⟩ := h5 i x (by rw [List.getElem?_eq_getElem hi, hxi])
    exact ih ht
theorem Sm.all : ∀ {d : Nat} {t : Tm}, Dp d t → Sm d t → ∀ d', Sm d' t := by
  intro d
  induction d with
  | zero => intro t h; cases h
  | succ d ih =>
    intro t h hs d'
    cases d' with
    | zero => trivial
    | succ d' =>
      obtain ⟨k, p, n, N, kids⟩ := t
      exact ⟨hs.1, fun x hx => ih (h x hx) (hs.2 x hx) d'⟩
theorem foldl_congr1 (f g : Tm → Nat) (l : List Tm) (h : ∀ x ∈ l, f x = g x) (a : Nat) : l.foldl (fun n t => n + f t) a = l.foldl (fun n t => n + g t) a := by
  induction l generalizing a with
  | nil => rfl
  | cons x l ih =>
    simp only [List.foldl_cons]
    rw [h x (by simp), ih fun y hy => h y (by simp [hy])]
theorem tsz_dp : ∀ {d : Nat} {t : Tm}, Dp d t → ∀ d', d ≤ d' → tszN d' t = tszN d t := by
  intro d
  induction d with
  | zero => intro t h; cases h
  | succ d ih =>
    intro t h d' hd
    obtain ⟨e, rfl⟩ : ∃ e, d' = e + 1 := ⟨d' - 1, by omega⟩
    obtain ⟨k, p, n, N, kids⟩ := t
    exact foldl_congr1 _ _ kids (fun x hx => ih (h x hx) e (by omega)) 1
theorem tsz_pos {d : Nat} {t : Tm} (h : Dp d t) : 1 ≤ tszN d t := by
  cases d with
  | zero => cases h
  | succ d =>
    obtain ⟨k, p, n, N, kids⟩ := t
    show 1 ≤ kids.foldl (fun n t => n + tszN d t) 1
    rw [foldl_add]
    omega
/-- What Match says of the pairs that are to be gone through, where so much is put. -/
inductive Mt : List (Tm × Tm) → (ByteArray → Option Tm) → Bool → Prop
  | done {P : ByteArray → Option Tm} : Mt [] P true
  | old {p n : ByteArray} {N : Int} {l : List Tm} {s : Tm} {rest : List (Tm × Tm)} {P : ByteArray → Option Tm} {r : Bool} : P n = some s → Mt rest P r → Mt ((.mk 1 p n N l, s) :: rest) P r
  | clash {p n : ByteArray} {N : Int} {l : List Tm} {s y : Tm} {rest : List (Tm × Tm)} {P : ByteArray → Option Tm} : P n = some y → y ≠ s → Mt ((.mk 1 p n N l, s) :: rest) P false
  | new {p n : ByteArray} {N : Int} {l : List Tm} {s : Tm} {rest : List (Tm × Tm)} {P : ByteArray → Option Tm} {r : Bool} : P n = none → Mt rest (upV P n s) r → Mt ((.mk 1 p n N l, s) :: rest) P r
  | differ {k k2 N N2 : Int} {p n p2 n2 : ByteArray} {l m : List Tm} {rest : List (Tm × Tm)} {P : ByteArray → Option Tm} : k ≠ 1 → ¬ (k = k2 ∧ p = p2 ∧ n = n2 ∧ N = N2 ∧ l.length = m.length) → Mt ((.mk k p n N l, .mk k2 p2 n2 N2 m) :: rest) P false
  | go {k N : Int} {p n : ByteArray} {l m : List Tm} {rest : List (Tm × Tm)} {P : ByteArray → Option Tm} {r : Bool} : k ≠ 1 → l.length = m.length → Mt ((l.zip m).reverse ++ rest) P r → Mt ((.mk k p n N l, .mk k p n N m) :: rest) P r
theorem Mt.det {st : List (Tm × Tm)} {P : ByteArray → Option Tm} {r : Bool} (h : Mt st P r) : ∀ {r' : Bool}, Mt st P r' → r = r' := by
  induction h with
  | done => intro r' h; cases h; rfl
  | old h1 h2 ih =>
    intro r' h
    cases h with
    | old h3 h4 => exact ih h4
    | clash h3 h4 => rw [h1] at h3; exact absurd (Option.some.inj h3).symm h4
    | new h3 h4 => rw [h1] at h3; cases h3
    | differ h3 _ => exact absurd rfl h3
    | go h3 _ _ => exact absurd rfl h3
  | clash h1 h2 =>
    intro r' h
    cases h with
    | old h3 h4 => rw [h1] at h3; exact absurd (Option.some.inj h3) h2
    | clash h3 h4 => rfl
    | new h3 h4 => rw [h1] at h3; cases h3
    | differ h3 _ => rfl
    | go h3 _ _ => exact absurd rfl h3
  | new h1 h2 ih =>
    intro r' h
    cases h with
    | old h3 h4 => rw [h1] at h3; cases h3
    | clash h3 h4 => rw [h1] at h3; cases h3
    | new h3 h4 => exact ih h4
    | differ h3 _ => exact absurd rfl h3
    | go h3 _ _ => exact absurd rfl h3
  | differ h1 h2 =>
    intro r' h
    cases h with
    | old => exact absurd rfl h1
    | clash => rfl
    | new => exact absurd rfl h1
    | differ => rfl
    | go h3 h4 _ => exact absurd ⟨rfl, rfl, rfl, rfl, h4⟩ h2
  | go h1 h2 h5 ih =>
    intro r' h
    cases h with
    | old => exact absurd rfl h1
    | clash => exact absurd rfl h1
    | new => exact absurd rfl h1
    | differ _ h4 => exact absurd ⟨rfl, rfl, rfl, rfl, h2⟩ h4
    | go _ _ h6 => exact ih h6
/-- Types of one kind and name: as their parts, as tuples. -/
theorem Mt.parts {k : Int} {p n e : ByteArray} {la lb : List Tm} {P : ByteArray → Option Tm} {r r' : Bool} (hk : k ≠ 1) (h : Mt [(.mk k p n 0 la, .mk k p n 0 lb)] P r) (h' : Mt [(.mk 4 e e 0 la, .mk 4 e e 0 lb)] P r') : r = r' := by
  by_cases hl : la.length = lb.length
  · cases h with
    | old => exact absurd rfl hk
    | clash => exact absurd rfl hk
    | new => exact absurd rfl hk
    | differ _ h4 => exact absurd ⟨rfl, rfl, rfl, rfl, hl⟩ h4
    | go _ _ h6 => exact (Mt.go (by decide) hl h6).det h'
  · exact (Mt.differ hk (fun h => hl h.2.2.2.2)).det h |>.symm.trans ((Mt.differ (by decide) fun h => hl h.2.2.2.2).det h')
end Go.Proofs.YtncebhddcokkoaaDoor
/- Terms come into a store: what is kept, and what is there; a variable more. -/
namespace Go.Proofs.YtncebhddcokkoaaDoor
open Go.RowKit
set_option linter.unusedSimpArgs false
set_option linter.unusedVariables false
/-- A type, as the document's statements know them. -/
inductive Typ : Tm → Prop
  | var (s : ByteArray) : Typ (vN s)
  | con {k : Int} {p n : ByteArray} {l : List Tm} (hk : k = 2 ∨ k = 3 ∨ k = 4) (h : ∀ x ∈ l, Typ x) : Typ (.mk k p n 0 l)
theorem Typ.inv {t : Tm} (h : Typ t) : ∀ {k N : Int} {p n : ByteArray} {l : List Tm}, t = .mk k p n N l → (k = 1 ∧ p = ⟨#[]⟩ ∧ N = 0 ∧ l = []) ∨ ((k = 2 ∨ k = 3 ∨ k = 4) ∧ N = 0 ∧ ∀ x ∈ l, Typ x) := by
  cases h with
  | var s => intro k N p n l e; injection e with e1 e2 e3 e4 e5; exact .inl ⟨e1.symm, e2.symm, e4.symm, e5.symm⟩
  | con hk h => intro k N p n l e; injection e with e1 e2 e3 e4 e5; subst e1 e2 e3 e4 e5; exact .inr ⟨hk, rfl, h⟩
/-- All stays but a store's own, and a map. -/
structure KpM (c : Cfg) (M : Nat) (w w' : World) : Prop where
  below : Below c.b0 w w'
  size : w.heap.size ≤ w'.heap.size
  block : ∀ (k : Nat) (x : Obj), w.heap[k]? = some x → k ≠ c.B → k ≠ M → (∀ cs fr, x ≠ .cells cs 90 fr) → w'.heap[k]? = some x
theorem KpM.refl (c : Cfg) (M : Nat) (w : World) : KpM c M w w := ⟨Below.refl _ _, Nat.le_refl _, fun _ _ h _ _ _ => h⟩
theorem KpM.trans {c : Cfg} {M : Nat} {w w1 w2 : World} (h : KpM c M w w1) (k : KpM c M w1 w2) : KpM c M w w2 :=
  ⟨h.below.trans k.below, Nat.le_trans h.size k.size, fun g x h1 h2 h4 h3 => k.block g x (h.block g x h1 h2 h4 h3) h2 h4 h3⟩
theorem Kp.m {c : Cfg} {M : Nat} {w w' : World} (h : Kp c w w') : KpM c M w w' := ⟨h.below, h.size, fun g x h1 h2 _ h3 => h.block g x h1 h2 h3⟩
theorem KpM.of_below {c : Cfg} {M : Nat} {w w' : World} (hb : c.b0 ≤ w.heap.size) (h : Below w.heap.size w w') : KpM c M w w' := (Kp.of_below hb h).m
theorem KpM.kept {c : Cfg} {M b : Nat} {w w' : World} {cs : Array Value} {t : TypeId} {fr : Nat × Nat} (h : KpM c M w w') (hb : w.heap[b]? = some (.cells cs t fr)) (h1 : b ≠ c.B) (h2 : b ≠ M) (h3 : t ≠ 90) : w'.heap[b]? = some (.cells cs t fr) :=
  h.block b _ hb h1 h2 (fun cs' fr' e => by injection e with _ e _; exact h3 e)
theorem KpM.of_turned {c : Cfg} {M : Nat} {w w' : World} (ht : w.mapTurned w' M) (hM : c.b0 ≤ M) (hb : c.b0 ≤ w.heap.size) : KpM c M w w' :=
  ⟨(Below.refl _ _).grown ht.grown hb (fun k hk => by cases hk; exact hM), ht.grown.size, fun g x h1 _ h2 _ => hb_grown h1 ht.grown (fun e => h2 (Option.some.inj e))⟩
/-- A store is cells alone. -/
theorem St.cells {c : Cfg} {A : Abs} {w w' : World} (h : St c A w) (hk : ∀ (g : Nat) (cs : Array Value) (t : TypeId) (fr : Nat × Nat), w.heap[g]? = some (.cells cs t fr) → w'.heap[g]? = some (.cells cs t fr)) : St c A w' := by
  obtain ⟨v, L, rk, p1, p2, p3⟩ := h
  refine ⟨v, L, rk, ⟨p1.hb, p1.ne, hk _ _ _ _ p1.blk, ?_, fun x hx => ?_, p1.few⟩, p2, p3⟩
  · rcases p1.row with h1 | ⟨g, cap, cur, h1, h2, h3, h4⟩
    · exact .inl h1
    · exact .inr ⟨g, cap, cur, h1, h2, hk _ _ _ _ h3, h4⟩
  · obtain ⟨q, cc, h1, h2⟩ := p1.kid x hx
    refine ⟨q, cc, h1, ?_⟩
    rcases h2 with h2 | ⟨g, o, cs, fr, e, hg, hB, hc⟩
    · exact .inl h2
    · exact .inr ⟨g, o, cs, fr, e, hk _ _ _ _ hg, hB, hc⟩
/-- None of a store's rows of Kids lies in these blocks. -/
def Avd (X : Nat → Prop) (L : List Nd) : Prop := ∀ x ∈ L, x.i.kids ≠ [] → ∀ g o n cc, x.ks = .slice (some ⟨g, o, none⟩) n cc → ¬ X g
def StA (X : Nat → Prop) (c : Cfg) (A : Abs) (w : World) : Prop := ∃ v L rk, StL c v L w ∧ Rep rk L A ∧ Ex c L A ∧ Avd X L
theorem StA.st {X : Nat → Prop} {c : Cfg} {A : Abs} {w : World} (h : StA X c A w) : St c A w := by
  obtain ⟨v, L, rk, h1, h2, h3, _⟩ := h
  exact ⟨v, L, rk, h1, h2, h3⟩
theorem StA.below {X : Nat → Prop} {c : Cfg} {A : Abs} {w w' : World} (h : StA X c A w) (hb : Below w.heap.size w w') : StA X c A w' := by
  obtain ⟨v, L, rk, h1, h2, h3, h4⟩ := h
  exact ⟨v, L, rk, h1.below hb, h2, h3, h4⟩
theorem StA.weak {X Y : Nat → Prop} {c : Cfg} {A : Abs} {w : World} (h : StA X c A w) (hXY : ∀ g, Y g → X g) : StA Y c A w := by
  obtain ⟨v, L, rk, h1, h2, h3, h4⟩ := h
  exact ⟨v, L, rk, h1, h2, h3, fun x hx hne g o n cc e hy => h4 x hx hne g o n cc e (hXY g hy)⟩
theorem StL.cells {c : Cfg} {v : Value} {L : List Nd} {w w' : World} (p1 : StL c v L w) (hk : ∀ (g : Nat) (cs : Array Value) (t : TypeId) (fr : Nat × Nat), w.heap[g]? = some (.cells cs t fr) → w'.heap[g]? = some (.cells cs t fr)) : StL c v L w' := by
  refine ⟨p1.hb, p1.ne, hk _ _ _ _ p1.blk, ?_, fun x hx => ?_, p1.few⟩
  · rcases p1.row with h1 | ⟨g, cap, cur, h1, h2, h3, h4⟩
    · exact .inl h1
    · exact .inr ⟨g, cap, cur, h1, h2, hk _ _ _ _ h3, h4⟩
  · obtain ⟨q, cc, h1, h2⟩ := p1.kid x hx
    refine ⟨q, cc, h1, ?_⟩
    rcases h2 with h2 | ⟨g, o, cs, fr, e, hg, hB, hc⟩
    · exact .inl h2
    · exact .inr ⟨g, o, cs, fr, e, hk _ _ _ _ hg, hB, hc⟩
theorem StA.cells {X : Nat → Prop} {c : Cfg} {A : Abs} {w w' : World} (h : StA X c A w) (hk : ∀ (g : Nat) (cs : Array Value) (t : TypeId) (fr : Nat × Nat), w.heap[g]? = some (.cells cs t fr) → w'.heap[g]? = some (.cells cs t fr)) : StA X c A w' := by
  obtain ⟨v, L, rk, h1, h2, h3, h4⟩ := h
  exact ⟨v, L, rk, h1.cells hk, h2, h3, h4⟩
theorem StA.cellsB {X : Nat → Prop} {c : Cfg} {A : Abs} {w w' : World} (h : StA X c A w) (hk : ∀ (g : Nat) (cs : Array Value) (t : TypeId) (fr : Nat × Nat), w.heap[g]? = some (.cells cs t fr) → (g = c.B ∨ t = 90 ∨ t = 3) → w'.heap[g]? = some (.cells cs t fr)) : StA X c A w' := by
  obtain ⟨v, L, rk, p1, h2, h3, h4⟩ := h
  refine ⟨v, L, rk, ⟨p1.hb, p1.ne, hk _ _ _ _ p1.blk (.inl rfl), ?_, fun x hx => ?_, p1.few⟩, h2, h3, h4⟩
  · rcases p1.row with h1 | ⟨g, cap, cur, h1, h2, h3, h4⟩
    · exact .inl h1
    · exact .inr ⟨g, cap, cur, h1, h2, hk _ _ _ _ h3 (.inr (.inl rfl)), h4⟩
  · obtain ⟨q, cc, h1, h2⟩ := p1.kid x hx
    refine ⟨q, cc, h1, ?_⟩
    rcases h2 with h2 | ⟨g, o, cs, fr, e, hg, hB, hc⟩
    · exact .inl h2
    · exact .inr ⟨g, o, cs, fr, e, hk _ _ _ _ hg (.inr (.inr rfl)), hB, hc⟩
/-- A new block is none of theirs. -/
theorem StA.add {X : Nat → Prop} {c : Cfg} {A : Abs} {w w' : World} (h : StA X c A w) (hb : Below w.heap.size w w') {n : Nat} (hn : w.heap.size ≤ n) : StA (fun g => X g ∨ g = n) c A w' := by
  obtain ⟨v, L, rk, h1, h2, h3, h4⟩ := h
  refine ⟨v, L, rk, h1.below hb, h2, h3, fun x hx hne g o m cc e hy => ?_⟩
  rcases hy with hy | rfl
  · exact h4 x hx hne g o m cc e hy
  · obtain ⟨q, c', e', hk⟩ := h1.kid x hx
    rw [e] at e'
    injection e' with e1 e2 _
    subst e1
    rcases hk with hk | ⟨g', o', cs, fr, e3, hg, _⟩
    · exact hne hk
    · injection e3 with e3
      injection e3 with e3
      subst e3
      have := hb_lt hg
      omega
/-- A cell of such a block is stored. -/
theorem StA.put {X : Nat → Prop} {c : Cfg} {A : Abs} {w : World} (h : StA X c A w) {n : Nat} (hn : X n) {cs : Array Value} {fr : Nat × Nat} (hc : w.heap[n]? = some (.cells cs 3 fr)) (hB : n ≠ c.B) (i : Nat) (u : Value) : StA X c A (w.setCell ⟨n, i, none⟩ u) := by
  obtain ⟨v, L, rk, p1, h2, h3, h4⟩ := h
  refine ⟨v, L, rk, ⟨p1.hb, p1.ne, hb_set_other p1.blk u (fun e => hB e.symm), ?_, fun x hx => ?_, p1.few⟩, h2, h3, h4⟩
  · rcases p1.row with h1 | ⟨g, cap, cur, h1, h2, h3, h4⟩
    · exact .inl h1
    · exact .inr ⟨g, cap, cur, h1, h2, hb_set_other h3 u (fun e => type_ne h3 hc (by decide) e), h4⟩
  · obtain ⟨q, cc, e1, e2⟩ := p1.kid x hx
    refine ⟨q, cc, e1, ?_⟩
    by_cases hne : x.i.kids = []
    · exact .inl hne
    rcases e2 with e2 | ⟨g, o, cs', fr', e, hg, hB', hc'⟩
    · exact .inl e2
    · refine .inr ⟨g, o, cs', fr', e, hb_set_other hg u (fun e5 => ?_), hB', hc'⟩
      have e5 : g = n := e5
      subst e5
      exact h4 x hx hne g o _ _ (by rw [e1, e]) hn
theorem turned_cells {M : Nat} {w w' : World} (ht : w.mapTurned w' M) (g : Nat) (cs : Array Value) (t : TypeId) (fr : Nat × Nat) (h : w.heap[g]? = some (.cells cs t fr)) : w'.heap[g]? = some (.cells cs t fr) := by
  refine hb_grown h ht.grown (fun e => ?_)
  obtain rfl := Option.some.inj e
  obtain ⟨es, cl, _, _, hm, _⟩ := ht
  rw [hm] at h
  cases h
theorem inN_iffL {n : ByteArray} {ns : List ByteArray} : inN n ns = true ↔ n ∈ ns := by
  unfold inN
  simp
namespace Abs
theorem flat_mod_app {l m : List Inf} {θ : Nat → Tm} (h : (flat (l ++ m)).Mod θ) : (flat l).Mod θ :=
  ⟨fun i hi => rfl, fun i x hx => h.2 i x (by have hx : l[i]? = some x := hx; show (l ++ m)[i]? = some x; rw [List.getElem?_append_left (List.getElem?_eq_some_iff.1 hx).1]; exact hx)⟩
theorem Tab.lt {l : List Inf} {ns : List ByteArray} {ρ : ByteArray → Option Nat} (h : Tab l ns ρ) {n : ByteArray} {i : Nat} (hn : ρ n = some i) : i < l.length := by
  obtain ⟨x, hx, _⟩ := h.at_ n i hn
  exact (List.getElem?_eq_some_iff.1 hx).1
theorem app_at {l : List Inf} {x : Inf} {i : Nat} {y : Inf} (h : (l ++ [x])[i]? = some y) : (i < l.length ∧ l[i]? = some y) ∨ (i = l.length ∧ y = x) := by
  by_cases hi : i < l.length
  · rw [List.getElem?_append_left hi] at h; exact .inl ⟨hi, h⟩
  · rw [List.getElem?_append_right (by omega)] at h
    have : i - l.length = 0 := by
      have := (List.getElem?_eq_some_iff.1 h).1
      simp at this
      omega
    rw [this] at h
    have h : some x = some y := h
    exact .inr ⟨by omega, (Option.some.inj h).symm⟩
theorem at_app {l : List Inf} {m : List Inf} {i : Nat} {y : Inf} (h : l[i]? = some y) : (l ++ m)[i]? = some y := by
  rw [List.getElem?_append_left (List.getElem?_eq_some_iff.1 h).1]; exact h
theorem Tab.con {l : List Inf} {ns : List ByteArray} {ρ : ByteArray → Option Nat} (h : Tab l ns ρ) {x : Inf} (hx : x.k ≠ 1) : Tab (l ++ [x]) ns ρ := by
  refine ⟨h.dom, fun n i hn => ?_, fun i y hy hk => ?_, h.ord⟩
  · obtain ⟨y, hy, hk⟩ := h.at_ n i hn
    exact ⟨y, at_app hy, hk⟩
  · rcases app_at hy with ⟨_, hy⟩ | ⟨_, rfl⟩
    · exact h.var i y hy hk
    · exact absurd hk hx
def varI : Inf := ⟨1, ⟨#[]⟩, ⟨#[]⟩, []⟩
theorem Tab.new {l : List Inf} {ns : List ByteArray} {ρ : ByteArray → Option Nat} (h : Tab l ns ρ) {n : ByteArray} (hn : ρ n = none) : Tab (l ++ [varI]) (ns ++ [n]) (fun m => if m = n then some l.length else ρ m) := by
  have hns : n ∉ ns := fun hm => by
    obtain ⟨i, hi⟩ := (h.dom n).1 hm
    rw [hn] at hi; cases hi
  refine ⟨fun m => ?_, fun m i hm => ?_, fun i y hy hk => ?_, fun j j' a b i i' ha hb hi hi' hjj => ?_⟩
  · by_cases e : m = n
    · subst e
      simp
    · simp only [if_neg e]
      rw [← h.dom m]
      simp [e]
  · try dsimp only at hm
    by_cases e : m = n
    · rw [if_pos e] at hm
      obtain rfl := Option.some.inj hm
      exact ⟨varI, by rw [List.getElem?_append_right (Nat.le_refl _), Nat.sub_self]; rfl, rfl⟩
    · rw [if_neg e] at hm
      obtain ⟨y, hy, hk⟩ := h.at_ m i hm
      exact ⟨y, at_app hy, hk⟩
  · rcases app_at hy with ⟨_, hy⟩ | ⟨e, rfl⟩
    · obtain ⟨m, hm⟩ := h.var i y hy hk
      refine ⟨m, ?_⟩
      have : m ≠ n := by rintro rfl; rw [hn] at hm; cases hm
      try dsimp only
      rw [if_neg this, hm]
    · exact ⟨n, by rw [if_pos rfl, e]⟩
  · have key : ∀ (j : Nat) (a : ByteArray), (ns ++ [n])[j]? = some a → (j < ns.length ∧ ns[j]? = some a ∧ a ≠ n) ∨ (j = ns.length ∧ a = n) := by
      intro j a ha
      by_cases hj : j < ns.length
      · rw [List.getElem?_append_left hj] at ha
        exact .inl ⟨hj, ha, fun e => hns (e ▸ List.mem_of_getElem? ha)⟩
      · rw [List.getElem?_append_right (by omega)] at ha
        have h1 := (List.getElem?_eq_some_iff.1 ha).1
        simp at h1
        have e : j - ns.length = 0 := by omega
        rw [e] at ha
        have ha : some n = some a := ha
        exact .inr ⟨by omega, (Option.some.inj ha).symm⟩
    try dsimp only at hi hi'
    rcases key j a ha with ⟨h1, h2, h3⟩ | ⟨h1, h2⟩
    · rw [if_neg h3] at hi
      rcases key j' b hb with ⟨g1, g2, g3⟩ | ⟨g1, g2⟩
      · rw [if_neg g3] at hi'
        exact h.ord j j' a b i i' h2 g2 hi hi' hjj
      · rw [if_pos g2] at hi'
        obtain rfl := Option.some.inj hi'
        exact h.lt hi
    · rcases key j' b hb with ⟨g1, g2, g3⟩ | ⟨g1, g2⟩ <;> omega
theorem Wf.app {l : List Inf} (h : Wf l) {x : Inf} (hk : ∀ y ∈ x.kids, y < l.length) (hl : (x.k = 1 ∨ x.k = 5) → x.kids = []) : Wf (l ++ [x]) := by
  refine ⟨fun i y hy => ?_, fun i y hy => ?_⟩
  · rcases app_at hy with ⟨_, hy⟩ | ⟨e, rfl⟩
    · exact h.kid i y hy
    · rw [e]; exact hk
  · rcases app_at hy with ⟨_, hy⟩ | ⟨e, rfl⟩
    · exact h.leaf i y hy
    · exact hl
theorem Repr.mono {l m : List Inf} {ρ ρ' : ByteArray → Option Nat} (hρ : ∀ n i, ρ n = some i → ρ' n = some i) {i : Nat} {t : Tm} (h : Repr (flat l) ρ i t) : Repr (flat (l ++ m)) ρ' i t := by
  induction h with
  | var h => exact .var (hρ _ _ h)
  | con hx h1 h5 ek ep en hl h ih => exact .con (at_app hx) h1 h5 ek ep en hl ih
/-- How much a store's types weigh. -/
def wt (l : List Inf) : Nat := (l.map fun x => x.kids.length + 1).sum
theorem wt_app (l m : List Inf) : wt (l ++ m) = wt l + wt m := by
  unfold wt
  rw [List.map_append, List.sum_append]
end Abs
/-- A type more in a store in which nothing has become another one. -/
theorem St.more {X : Nat → Prop} {c : Cfg} {l : List Inf} {v : Value} {L : List Nd} {rk : Nat → Nat} {w' : World} {x : Inf} {ks : Value} {pl : Bool} (h : StL c v (L ++ [⟨x, ks, 0, false, -1, pl, 0⟩]) w') (hr : Rep rk L (Abs.flat l)) (he : Ex c L (Abs.flat l)) (hav : Avd X L) (hks : ∀ g o m cc, ks = .slice (some ⟨g, o, none⟩) m cc → ¬ X g) (hw : 0 ≤ c.wks)
    (hpl : pl = true → x.k ≠ 1 ∧ x.k ≠ 5 ∧ ∀ y ∈ x.kids, ∃ z, L[y]? = some z ∧ z.pl = true) : StA X c (Abs.flat (l ++ [x])) w' := by
  have hl : l.length = L.length := hr.len
  have key : ∀ (i : Nat) (z : Nd), (L ++ [(⟨x, ks, 0, false, -1, pl, 0⟩ : Nd)])[i]? = some z → (i < L.length ∧ L[i]? = some z) ∨ (i = L.length ∧ z = ⟨x, ks, 0, false, -1, pl, 0⟩) := by
    intro i z hz
    by_cases hi : i < L.length
    · rw [List.getElem?_append_left hi] at hz; exact .inl ⟨hi, hz⟩
    · rw [List.getElem?_append_right (by omega)] at hz
      have h1 := (List.getElem?_eq_some_iff.1 hz).1
      simp at h1
      have e : i - L.length = 0 := by omega
      rw [e] at hz
      have hz : some _ = some z := hz
      exact .inr ⟨by omega, (Option.some.inj hz).symm⟩
  refine ⟨v, _, rk, h, ⟨?_, fun i z hz => ?_, fun i z hz => ?_⟩, ⟨fun i z hz hp θ θ' m m' => ?_, fun z hz => ?_⟩, fun z hz => ?_⟩
  · have := hr.l
    show l ++ [x] = _
    rw [List.map_append, ← this]
    rfl
  · rcases key i z hz with ⟨_, hz⟩ | ⟨_, rfl⟩
    · exact hr.lv i z hz
    · rfl
  · left
    rcases key i z hz with ⟨_, hz⟩ | ⟨_, rfl⟩
    · rcases hr.be i z hz with ⟨h1, _⟩ | ⟨j, h1, h2, h3, h4⟩
      · exact ⟨h1, rfl⟩
      · have h3 : j = i := h3
        subst h3
        omega
    · exact ⟨by show (-1 : Int) < 0; decide, rfl⟩
  · rcases key i z hz with ⟨_, hz⟩ | ⟨e, rfl⟩
    · exact he.pl i z hz hp θ θ' (Abs.flat_mod_app m) (Abs.flat_mod_app m')
    · obtain ⟨h1, h5, hk⟩ := hpl hp
      have hx : (Abs.flat (l ++ [x])).l[i]? = some x := by
        show (l ++ [x])[i]? = some x
        rw [List.getElem?_append_right (by omega), e, hl, Nat.sub_self]
        rfl
      rw [m.2 i x hx h1 h5, m'.2 i x hx h1 h5]
      congr 1
      apply List.map_congr_left
      intro y hy
      obtain ⟨z, hz, hzp⟩ := hk y hy
      exact he.pl y z hz hzp θ θ' (Abs.flat_mod_app m) (Abs.flat_mod_app m')
  · rcases List.mem_append.1 hz with hz | hz
    · exact he.wk z hz
    · cases List.mem_singleton.1 hz
      exact hw
  · rcases List.mem_append.1 hz with hz | hz
    · exact hav z hz
    · cases List.mem_singleton.1 hz
      exact fun _ => hks
/-- What newSolver's closure makes. -/
theorem fresh_any {X : Nat → Prop} {c : Cfg} {bx : Nat} {l : List Inf} {w : World} (h : StA X c (Abs.flat l) w) (hx : w.heap[bx]? = some (.cells #[.pointer (some ⟨c.B, 0, none⟩)] 68 (0, 0))) (hl : l.length < 100000) (hf : c.full = false) (hb : (100000 : Int) ≤ c.bud) (hw : 0 ≤ c.wks) :
    Calls Tryd.prog 66 #[.pointer (some ⟨bx, 0, none⟩)] w fun e w' => e = .returned (.int .i64 (l.length : Nat)) ∧ StA X c (Abs.flat (l ++ [Abs.varI])) w' ∧ Kp c w w' := by
  obtain ⟨v, L, rk, p1, p2, p3, p4⟩ := h
  have hlen : l.length = L.length := p2.len
  have HV := Lib.hid (var_any c v L w 0 p1 (by omega) hf (by omega))
  have b0 := hb_at hx 0 rfl
  rw [hlen]
  have P2 := Lib.hid p2
  have P3 := Lib.hid p3
  have P4 := Lib.hid p4
  clear p1 p2 p3 p4 hx
  go_enter Tryd.func66, Tryd.ntmps66
  go_wp2_with (go_at_call 25; (with_reducible refine HV.out.mono ?_); rintro e w1 ⟨rfl, v1, h1, k1⟩; have H1 := Lib.hid h1; have K1 := Lib.hid k1; clear h1 k1)
  all_goals
    go_ret
    exact ⟨rfl, St.more H1.out P2.out P3.out P4.out (fun g o m cc e => by cases e) hw (fun h => by cases h), K1.out⟩
end Go.Proofs.YtncebhddcokkoaaDoor
/- A name's type: the one that it has, or a new one. -/
namespace Go.Proofs.YtncebhddcokkoaaDoor
open Go.RowKit
set_option linter.unusedSimpArgs false
set_option linter.unusedVariables false
/-- A store that terms come into. -/
structure IS (c : Cfg) (bx M : Nat) (X : Nat → Prop) (l : List Inf) (ns : List ByteArray) (ρ : ByteArray → Option Nat) (w : World) : Prop where
  st : StA X c (Abs.flat l) w
  box : w.heap[bx]? = some (.cells #[.pointer (some ⟨c.B, 0, none⟩)] 68 (0, 0))
  map : PMap w M ns.length fun n => (ρ n).map Int.ofNat
  tab : Abs.Tab l ns ρ
  wf : Abs.Wf l
  kd : ∀ (i : Nat) (x : Inf), l[i]? = some x → x.k ≠ 5
  b0 : c.b0 ≤ M
  bB : bx ≠ c.B
  sm : (∀ x ∈ l, x.p.size ≤ maxLen ∧ x.n.size ≤ maxLen ∧ x.kids.length ≤ 50000) ∧ ∀ n ∈ ns, n.size ≤ maxLen
/-- It may go on. -/
structure Cf (c : Cfg) : Prop where
  full : c.full = false
  bud : (100000 : Int) ≤ c.bud
  wks : 0 ≤ c.wks
theorem IS.sz {c : Cfg} {bx M : Nat} {X : Nat → Prop} {l : List Inf} {ns : List ByteArray} {ρ : ByteArray → Option Nat} {w : World} (h : IS c bx M X l ns ρ w) : c.b0 ≤ w.heap.size ∧ c.B < w.heap.size ∧ M < w.heap.size ∧ bx < w.heap.size := by
  have h1 := h.st.st.lt
  have h2 := h.map.lt
  have h3 := hb_lt h.box
  omega
theorem IS.below {c : Cfg} {bx M : Nat} {X : Nat → Prop} {l : List Inf} {ns : List ByteArray} {ρ : ByteArray → Option Nat} {w w' : World} (h : IS c bx M X l ns ρ w) (hb : Below w.heap.size w w') : IS c bx M X l ns ρ w' :=
  ⟨h.st.below hb, hb_below h.box hb (hb_lt h.box), h.map.below hb, h.tab, h.wf, h.kd, h.b0, h.bB, h.sm⟩
theorem Abs.Tab.ge {l : List Inf} {ns : List ByteArray} {ρ : ByteArray → Option Nat} (h : Abs.Tab l ns ρ) : ∀ (j : Nat) (n : ByteArray) (i : Nat), ns[j]? = some n → ρ n = some i → j ≤ i
  | 0, _, _, _, _ => Nat.zero_le _
  | j + 1, n, i, hj, hi => by
    have hlt := (List.getElem?_eq_some_iff.1 hj).1
    have hm : ns[j]? = some (ns[j]'(by omega)) := List.getElem?_eq_getElem _
    obtain ⟨i', hi'⟩ := (h.dom _).1 (List.mem_of_getElem? hm)
    have h1 := Abs.Tab.ge h j _ i' hm hi'
    have h2 := h.ord j (j + 1) _ n i' i hm hj hi' hi (Nat.lt_succ_self j)
    omega
theorem Abs.Tab.len {l : List Inf} {ns : List ByteArray} {ρ : ByteArray → Option Nat} (h : Abs.Tab l ns ρ) : ns.length ≤ l.length := by
  cases e : ns.length with
  | zero => omega
  | succ k =>
    have hm : ns[k]? = some (ns[k]'(by omega)) := List.getElem?_eq_getElem _
    obtain ⟨i, hi⟩ := (h.dom _).1 (List.mem_of_getElem? hm)
    have := h.ge k _ i hm hi
    have := h.lt hi
    omega
theorem IS.kpM {c : Cfg} {bx M : Nat} {X : Nat → Prop} {l : List Inf} {ns : List ByteArray} {ρ : ByteArray → Option Nat} {w w' : World} (h : IS c bx M X l ns ρ w) (k : Kp c w w') : PMap w' M ns.length (fun n => (ρ n).map Int.ofNat) ∧ w'.heap[bx]? = some (.cells #[.pointer (some ⟨c.B, 0, none⟩)] 68 (0, 0)) := by
  obtain ⟨es, cl, hm⟩ := h.map.heap
  obtain ⟨v, L, rk, p1, _, _⟩ := h.st.st
  have hne : M ≠ c.B := by
    intro e
    have := p1.blk
    rw [← e, hm] at this
    cases this
  refine ⟨h.map.same ?_, k.block _ _ h.box h.bB (fun cs fr e => by injection e with _ e _; exact absurd e (by decide))⟩
  rw [hm]
  exact k.block _ _ hm hne (fun cs fr e => by cases e)
/-- More than before. -/
structure Grew (l l' : List Inf) (ρ ρ' : ByteArray → Option Nat) : Prop where
  l : ∃ m, l' = l ++ m
  ρ : ∀ n i, ρ n = some i → ρ' n = some i
theorem Grew.refl (l : List Inf) (ρ : ByteArray → Option Nat) : Grew l l ρ ρ := ⟨⟨[], by simp⟩, fun _ _ h => h⟩
theorem Grew.trans {l l1 l2 : List Inf} {ρ ρ1 ρ2 : ByteArray → Option Nat} (h : Grew l l1 ρ ρ1) (k : Grew l1 l2 ρ1 ρ2) : Grew l l2 ρ ρ2 := by
  obtain ⟨m, rfl⟩ := h.l
  obtain ⟨m', rfl⟩ := k.l
  exact ⟨⟨m ++ m', by simp⟩, fun n i hn => k.ρ n i (h.ρ n i hn)⟩
theorem Grew.repr {l l' : List Inf} {ρ ρ' : ByteArray → Option Nat} (h : Grew l l' ρ ρ') {i : Nat} {t : Tm} (hr : Abs.Repr (Abs.flat l) ρ i t) : Abs.Repr (Abs.flat l') ρ' i t := by
  obtain ⟨m, rfl⟩ := h.l
  exact hr.mono h.ρ
theorem Grew.len {l l' : List Inf} {ρ ρ' : ByteArray → Option Nat} (h : Grew l l' ρ ρ') : l.length ≤ l'.length := by
  obtain ⟨m, rfl⟩ := h.l
  simp
/-- What comes of a term that comes into a store. -/
def ImpQ (c : Cfg) (bx M : Nat) (X : Nat → Prop) (l : List Inf) (ns' : List ByteArray) (ρ : ByteArray → Option Nat) (w : World) (N : Nat) (t : Tm) (e : Ending) (w' : World) : Prop :=
  ∃ (i : Nat) (l' : List Inf) (ρ' : ByteArray → Option Nat), e = .returned (.int .i64 (i : Nat)) ∧ IS c bx M X l' ns' ρ' w' ∧ KpM c M w w' ∧ Grew l l' ρ ρ' ∧ Abs.wt l' + 1 ≤ Abs.wt l + 2 * N ∧ l'.length ≤ l.length + N ∧ i < l'.length ∧ Abs.Repr (Abs.flat l') ρ' i t
theorem one_int (w : World) (i : Int) : Ints (w.alloc (.cells #[.int .i64 i] 3)) (some ⟨w.heap.size, 0, none⟩) [i] := by
  intro j y hy
  match j, hy with
  | 0, hy => obtain rfl := Option.some.inj hy; exact ⟨_, _, rfl, hb_at (hb_new _ _) 0 rfl⟩
  | j + 1, hy => simp at hy
/-- One number: is it a type's? -/
theorem has_one {c : Cfg} {A : Abs} {w : World} (h : St c A w) (hf : c.full = false) {i : Nat} (hi : i < A.l.length) :
    Calls Tryd.prog 50 #[.pointer (some ⟨c.B, 0, none⟩), .slice (some ⟨w.heap.size, 0, none⟩) 1 1] (w.alloc (.cells #[.int .i64 (i : Nat)] 3)) fun e w' => e = .returned (.bool true) ∧ Below w.heap.size w w' := by
  have hb := below_alloc w (.cells #[.int .i64 (i : Nat)] 3)
  obtain ⟨v, L, rk, p1, p2, p3⟩ := h.below hb
  have h1 := has_any c v L _ (some ⟨w.heap.size, 0, none⟩) [(i : Int)] 1 p1 (one_int w i) (by simp)
  have hl := p2.len
  refine h1.mono ?_
  rintro e w' ⟨⟨r, rfl, hr⟩, hb2⟩
  refine ⟨?_, hb.trans (hb2.mono hb.size)⟩
  rw [hr.2 ⟨hf, fun j hj => by
    obtain rfl := List.mem_singleton.1 hj
    exact ⟨Int.natCast_nonneg i, by omega⟩⟩]
theorem has_none {c : Cfg} {A : Abs} {w : World} (h : St c A w) (hf : c.full = false) :
    Calls Tryd.prog 50 #[.pointer (some ⟨c.B, 0, none⟩), .slice none 0 0] w fun e w' => e = .returned (.bool true) ∧ Below w.heap.size w w' := by
  obtain ⟨v, L, rk, p1, p2, p3⟩ := h
  have h1 := has_any c v L w none [] 0 p1 (fun j y hy => by simp at hy) (by simp)
  refine h1.mono ?_
  rintro e w' ⟨⟨r, rfl, hr⟩, hb2⟩
  refine ⟨?_, hb2⟩
  rw [hr.2 ⟨hf, fun j hj => by cases hj⟩]
set_option maxRecDepth 100000 in
set_option maxHeartbeats 1000000 in
theorem variable_any {c : Cfg} {bx M : Nat} {X : Nat → Prop} {l : List Inf} {ns : List ByteArray} {ρ : ByteArray → Option Nat} {w : World} (h : IS c bx M X l ns ρ w) (hc : Cf c) (n : ByteArray) (hn : n.size ≤ maxLen) (hl : l.length + 1 ≤ 50000) :
    Calls Tryd.prog 85 #[.pointer (some ⟨c.B, 0, none⟩), .string n, .map (some M), .func (.func 66) #[] #[.pointer (some ⟨bx, 0, none⟩)]] w (ImpQ c bx M X l (put1 ns 1 n) ρ w 1 (vN n)) := by
  cases hρ : ρ n with
  | some i =>
    have hi1 : ((ρ n).map Int.ofNat).getD 0 = (i : Int) := by rw [hρ]; rfl
    have hi2 : ((ρ n).map Int.ofNat).isSome = true := by rw [hρ]; rfl
    have hin : inN n ns = true := inN_iffL.2 ((h.tab.dom n).2 ⟨i, hρ⟩)
    have hp1 : put1 ns 1 n = ns := by unfold put1; rw [hin]; simp
    rw [hp1]
    have H := Lib.hid h
    have HM := Lib.hid h.map
    have HR := Lib.hid hρ
    clear h hρ hin hp1
    go_enter Tryd.func85, Tryd.ntmps85
    go_wp2_with (with_reducible refine wpList_pm_look rfl _ _ rfl rfl HM.out _ rfl hn _ _ hi1 hi2 ?_)
    go_ret
    have HT := H.out.tab.lt HR.out
    exact ⟨i, l, ρ, rfl, H.out, KpM.refl _ _ _, Grew.refl _ _, by omega, by omega, HT, .var HR.out⟩
  | none =>
    have hi1 : ((ρ n).map Int.ofNat).getD 0 = 0 := by rw [hρ]; rfl
    have hi2 : ((ρ n).map Int.ofNat).isSome = false := by rw [hρ]; rfl
    have hns : n ∉ ns := fun hm => by obtain ⟨i, hi⟩ := (h.tab.dom n).1 hm; rw [hρ] at hi; cases hi
    have hin : inN n ns = false := by
      cases e : inN n ns with
      | false => rfl
      | true => exact absurd (inN_iffL.1 e) hns
    have hp1 : put1 ns 1 n = ns ++ [n] := by unfold put1; rw [hin]; simp
    rw [hp1]
    have hnl : ns.length < maxLen := by have := h.tab.len; unfold maxLen; omega
    have hwf : (Lit.int .i64 (l.length : Nat)).wf = true := WalkArith.wf_i64 (by omega)
    have H := Lib.hid h
    have HM := Lib.hid h.map
    have HR := Lib.hid hρ
    have HFR := Lib.hid (fresh_any h.st h.box (by omega) hc.full hc.bud hc.wks)
    have HH := Lib.hid fun (W : World) (hW : StA X c (Abs.flat (l ++ [Abs.varI])) W) => has_one hW.st hc.full (i := l.length) (by show _ < (l ++ [Abs.varI]).length; simp)
    clear h hρ hin hp1
    go_enter Tryd.func85, Tryd.ntmps85
    go_wp2_with (first
      | (with_reducible refine wpList_pm_look rfl _ _ rfl rfl HM.out _ rfl hn _ _ hi1 hi2 ?_)
      | (go_at_call 66; (with_reducible refine HFR.out.mono ?_); rintro e w1 ⟨rfl, h1, k1⟩; have H1 := Lib.hid h1; have K1 := Lib.hid k1; clear h1 k1)
      | (go_at_call 50; (with_reducible refine (HH.out _ H1.out).mono ?_); rintro e w2 ⟨rfl, hb2⟩; have HB2 := Lib.hid hb2; have HM2 := Lib.hid ((H.out.kpM K1.out).1.below hb2); clear hb2)
      | (with_reducible refine wpList_pm_put rfl _ _ _ rfl rfl HM2.out hnl _ rfl hn _ hwf rfl ?_; intro w3 hm3 ht3; have HM3 := Lib.hid hm3; have HT3 := Lib.hid ht3; clear hm3 ht3))
    all_goals
      go_ret
      have hsz := H.out.sz
      have hk12 : Kp c w w2 := K1.out.trans (Kp.of_below (by have := K1.out.size; omega) HB2.out)
      have hkm : KpM c M w2 w3 := KpM.of_turned HT3.out H.out.b0 (by have := hk12.size; omega)
      refine ⟨l.length, l ++ [Abs.varI], _, rfl, ⟨(H1.out.below HB2.out).cells (turned_cells HT3.out), turned_cells HT3.out _ _ _ _ (hb_below (H.out.kpM K1.out).2 HB2.out (hb_lt (H.out.kpM K1.out).2)), ?_, H.out.tab.new HR.out, H.out.wf.app (fun y hy => by cases hy) (fun _ => rfl), fun i x hx => ?_, H.out.b0, H.out.bB, ⟨fun x hx => ?_, fun m hm => ?_⟩⟩, hk12.m.trans hkm, ⟨⟨_, rfl⟩, fun m i hm => ?_⟩, ?_, by simp, by simp, .var ?_⟩
      · have e : (fun m => (if m = n then some l.length else ρ m).map Int.ofNat) = fun t => if t = n then some (l.length : Int) else (ρ t).map Int.ofNat := by
          funext t
          by_cases e : t = n
          · rw [if_pos e, if_pos e]; rfl
          · rw [if_neg e, if_neg e]
        rw [e, List.length_append]
        exact HM3.out
      · rcases Abs.app_at hx with ⟨_, hx⟩ | ⟨_, rfl⟩
        · exact H.out.kd i x hx
        · show (1 : Int) ≠ 5; decide
      · rcases List.mem_append.1 hx with hx | hx
        · exact H.out.sm.1 x hx
        · cases List.mem_singleton.1 hx; exact ⟨Nat.zero_le _, Nat.zero_le _, Nat.zero_le _⟩
      · rcases List.mem_append.1 hm with hm | hm
        · exact H.out.sm.2 m hm
        · cases List.mem_singleton.1 hm; exact hn
      · have : m ≠ n := by rintro rfl; rw [HR.out] at hm; cases hm
        show (if m = n then some l.length else ρ m) = some i
        rw [if_neg this, hm]
      · rw [Abs.wt_app]
        have : Abs.wt [Abs.varI] = 1 := rfl
        omega
      · show (if n = n then some l.length else ρ n) = some l.length
        rw [if_pos rfl]
end Go.Proofs.YtncebhddcokkoaaDoor
