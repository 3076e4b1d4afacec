/- Texts in a row: Th Mp Sa. -/
import Derived.Test.YtncebhddcokkoaaDoorZD1
import Derived.ProofKit
import Derived.LaidMore
import Derived.OpenShut
import Derived.ShutString
import Derived.ChangeOld
import Derived.ChangeSlices
import Derived.Lib.SmallJoins
import Derived.Stop.Joined
import Derived.Test.YtncebhddcokkoaaDoorZD30
import Derived.Test.YtncebhddcokkoaaDoorZD7
import Derived.Test.YtncebhddcokkoaaDoorZD8
import Derived.Maps.AppendAt
/- Arguments by value: a term; what the row assumes of the listed variables is met by the door's own heap. -/
namespace Go.Proofs.YtncebhddcokkoaaDoor
open Go.ChangeShapes Go.WideShapes Go.ChangeAt Go.RowKit
theorem ownKn : ownKnob Tryd.prog.godebug = none := by kernel_rfl
set_option maxRecDepth 100000
section
variable {H : Type} {enc : TypeId × Value → H} {W : World} {base : Nat} {v : Value} {d : DataW H} {p : List MemPlace}
end
end Go.Proofs.YtncebhddcokkoaaDoor
/- An argument that is a row of equations. -/
namespace Go.Proofs.YtncebhddcokkoaaDoor
open Go.ChangeShapes Go.WideShapes Go.ChangeAt Go.RowKit
set_option linter.unusedSimpArgs false
set_option linter.unusedVariables false
section
set_option maxRecDepth 100000
variable {H : Type} {enc : TypeId × Value → H} {W : World} {base : Nat} {v : Value} {d : DataW H} {p : List MemPlace}
theorem pickE {α : Type} {P : Nat → α → Prop} : ∀ n : Nat, (∀ i, i < n → ∃ t, P i t) → ∃ l : List α, l.length = n ∧ ∀ i t, l[i]? = some t → P i t
  | 0, _ => ⟨[], rfl, fun i t h => by simp at h⟩
  | n + 1, h => by
    obtain ⟨l, hl, hp⟩ := pickE n fun i hi => h i (by omega)
    obtain ⟨t, ht⟩ := h n (by omega)
    refine ⟨l ++ [t], by simp [hl], fun i y hy => ?_⟩
    by_cases hi : i < l.length
    · rw [List.getElem?_append_left hi] at hy
      exact hp i y hy
    · have h1 := (List.getElem?_eq_some_iff.1 hy).1
      simp at h1
      have e : i = l.length := by omega
      subst e
      rw [List.getElem?_concat_length] at hy
      obtain rfl := Option.some.inj hy
      rw [hl]
      exact ht
end
end Go.Proofs.YtncebhddcokkoaaDoor
/- Rows of equations of one's own: made by appends, turned in place. -/
namespace Go.Proofs.YtncebhddcokkoaaDoor
open Go.RowKit Go.ChangeShapes Go.WideShapes Go.ChangeAt
set_option linter.unusedSimpArgs false
set_option linter.unusedVariables false
abbrev TEq := T5 × T5
def e10 (t : TEq) : List Value := [.int .i64 t.1.1, .string t.1.2.1, .string t.1.2.2.1, .int .i64 t.1.2.2.2.1, t.1.2.2.2.2, .int .i64 t.2.1, .string t.2.2.1, .string t.2.2.2.1, .int .i64 t.2.2.2.2.1, t.2.2.2.2.2]
def flatE (l : List TEq) : List Value := l.flatMap e10
theorem e10_len (t : TEq) : (e10 t).length = 10 := rfl
theorem flatE_cons (t : TEq) (l : List TEq) : flatE (t :: l) = e10 t ++ flatE l := by simp [flatE]
theorem flatE_app (l m : List TEq) : flatE (l ++ m) = flatE l ++ flatE m := by simp [flatE]
theorem flatE_length (l : List TEq) : (flatE l).length = l.length * 10 := by
  induction l with
  | nil => rfl
  | cons t l ih => rw [flatE_cons, List.length_append, ih, e10_len, List.length_cons]; omega
theorem flatE_at : ∀ {l : List TEq} {i r : Nat} {t : TEq}, l[i]? = some t → r < 10 → (flatE l)[i * 10 + r]? = (e10 t)[r]? := by
  intro l
  induction l with
  | nil => intro i r t h; simp at h
  | cons x l ih =>
    intro i r t h hr
    rw [flatE_cons]
    cases i with
    | zero =>
      cases h
      rw [List.getElem?_append_left (by rw [e10_len]; omega)]
      simp
    | succ i =>
      rw [List.getElem?_append_right (by rw [e10_len]; omega)]
      have h2 : (i + 1) * 10 + r - (e10 x).length = i * 10 + r := by rw [e10_len]; omega
      rw [h2]
      exact ih h hr
theorem info43e : ∃ i z, Tryd.prog.info? 43 = some i ∧ i.zero = some z ∧ i.size = 10 ∧ i.bytes = 144 ∧ z.cells.size = 10 := by
  have h : (Tryd.prog.info? 43).map (fun i => (i.zero, i.size, i.bytes)) = some (some (.agg #[.int .i64 0, .string ⟨#[]⟩, .string ⟨#[]⟩, .int .i64 0, .slice none 0 0, .int .i64 0, .string ⟨#[]⟩, .string ⟨#[]⟩, .int .i64 0, .slice none 0 0]), 10, 144) := by kernel_rfl
  obtain ⟨i, hi, e⟩ := Option.map_eq_some_iff.1 h
  injection e with e1 e2
  injection e2 with e2 e3
  exact ⟨i, _, hi, e1, e2, e3, rfl⟩
/-- What a list of equations is in memory. -/
theorem EqAt.open {w : World} {d : Nat} {v : Value} {E : List (Tm × Tm)} (h : EqAt w d v E) : ∃ (q : Option Addr) (c : Nat) (ts : List TEq), v = .slice q E.length c ∧ ts.length = E.length ∧ (∀ (i : Nat) (x : Tm × Tm), E[i]? = some x → ∃ t, ts[i]? = some t ∧ IsT w d (t5v t.1) x.1 ∧ IsT w d (t5v t.2) x.2) ∧ (∀ u ∈ flatE ts, u.oneCell' = true) ∧
    (E ≠ [] → ∃ g o, q = some ⟨g, o, none⟩ ∧ g < w.heap.size ∧ ∀ j u, (flatE ts)[j]? = some u → w.cell? ⟨g, o + j, none⟩ = some u) := by
  obtain ⟨q, c, rfl, h⟩ := h
  obtain ⟨ts, h1, h2⟩ := pickE (P := fun i (t : TEq) => ∃ x g o, E[i]? = some x ∧ q = some ⟨g, o, none⟩ ∧ TAt w g (o + i * 10) t.1.1 t.1.2.1 t.1.2.2.1 t.1.2.2.2.1 t.1.2.2.2.2 ∧ TAt w g (o + i * 10 + 5) t.2.1 t.2.2.1 t.2.2.2.1 t.2.2.2.2.1 t.2.2.2.2.2 ∧ IsT w d (t5v t.1) x.1 ∧ IsT w d (t5v t.2) x.2) E.length (fun i hi => by
    have hx := List.getElem?_eq_getElem hi
    obtain ⟨g, o, k, p, n, N, s, k', p', n', N', s', e1, ⟨e2, e3⟩, e4, e5⟩ := h i _ hx
    exact ⟨((k, p, n, N, s), (k', p', n', N', s')), E[i], g, o, hx, e1, e2, e4, e3, e5⟩)
  refine ⟨q, c, ts, rfl, h1, fun i x hx => ?_, fun u hu => ?_, fun hne => ?_⟩
  · have hi := (List.getElem?_eq_some_iff.1 hx).1
    have ht := List.getElem?_eq_getElem (l := ts) (i := i) (by omega)
    obtain ⟨y, g, o, e0, _, _, _, e4, e5⟩ := h2 i _ ht
    rw [hx] at e0
    cases e0
    exact ⟨_, ht, e4, e5⟩
  · unfold flatE at hu
    obtain ⟨t, ht, hu⟩ := List.mem_flatMap.1 hu
    obtain ⟨i, hi⟩ := List.getElem?_of_mem ht
    obtain ⟨y, g, o, _, _, _, _, e4, e5⟩ := h2 i _ hi
    obtain ⟨q4, l4, c4, e6⟩ := e4.spell
    obtain ⟨q5, l5, c5, e7⟩ := e5.spell
    unfold e10 at hu
    rw [e6, e7] at hu
    simp only [List.mem_cons, List.not_mem_nil, or_false] at hu
    rcases hu with rfl | rfl | rfl | rfl | rfl | rfl | rfl | rfl | rfl | rfl <;> rfl
  · obtain ⟨x, hx⟩ := List.exists_mem_of_ne_nil E hne
    obtain ⟨i, hi⟩ := List.getElem?_of_mem hx
    obtain ⟨g, o, k, p, n, N, s, k', p', n', N', s', e1, ⟨e2, e3⟩, e4, e5⟩ := h i x hi
    subst e1
    refine ⟨g, o, rfl, e2.lt, fun j u hj => ?_⟩
    have hlt := (List.getElem?_eq_some_iff.1 hj).1
    rw [flatE_length] at hlt
    obtain ⟨i, r, rfl, hr⟩ : ∃ i r, j = i * 10 + r ∧ r < 10 := ⟨j / 10, j % 10, by omega, by omega⟩
    have ht := List.getElem?_eq_getElem (l := ts) (i := i) (by omega)
    obtain ⟨y, g', o', _, e1, ⟨a0, a1, a2, a3, a4⟩, ⟨b0, b1, b2, b3, b4⟩, _⟩ := h2 i _ ht
    cases e1
    rw [flatE_at ht hr] at hj
    generalize ts[i] = t at *
    rw [← Nat.add_assoc]
    match r, hr with
    | 0, _ => cases hj; exact a0
    | 1, _ => cases hj; exact a1
    | 2, _ => cases hj; exact a2
    | 3, _ => cases hj; exact a3
    | 4, _ => cases hj; exact a4
    | 5, _ => cases hj; exact b0
    | 6, _ => cases hj; exact b1
    | 7, _ => cases hj; exact b2
    | 8, _ => cases hj; exact b3
    | 9, _ => cases hj; exact b4
/-- A row of one's own. -/
structure EqO (w : World) (E : List (Tm × Tm)) (d : Nat) (v : Value) (ts : List TEq) (wr : World) : Prop where
  row : wr.ownsRow w.heap.size 43 10 v E.length (flatE ts)
  len : ts.length = E.length
  bel : Below w.heap.size w wr
  trm : ∀ (i : Nat) (x : Tm × Tm), E[i]? = some x → ∃ t, ts[i]? = some t ∧ IsT w d (t5v t.1) x.1 ∧ IsT w d (t5v t.2) x.2
theorem EqO.below {w wr w' : World} {E : List (Tm × Tm)} {d : Nat} {v : Value} {ts : List TEq} (h : EqO w E d v ts wr) (hb : Below wr.heap.size wr w') : EqO w E d v ts w' :=
  ⟨own_kept h.row fun g x hg hx => hb_below hx hb (hb_lt hx), h.len, h.bel.trans (hb.mono h.bel.size), h.trm⟩
theorem EqO.eqAt {w wr : World} {E : List (Tm × Tm)} {d : Nat} {v : Value} {ts : List TEq} (h : EqO w E d v ts wr) : EqAt wr d v E := by
  obtain ⟨hfl, ⟨rfl, h0⟩ | ⟨g, cap, cur, rfl, hbg, hh, _, _, _, htk⟩⟩ := h.row
  · have : E = [] := List.eq_nil_of_length_eq_zero h0
    subst this
    exact ⟨none, 0, rfl, fun i x hx => by simp at hx⟩
  · refine ⟨some ⟨g, 0, none⟩, cap, rfl, fun i x hx => ?_⟩
    obtain ⟨t, ht, h1, h2⟩ := h.trm i x hx
    have hi := (List.getElem?_eq_some_iff.1 hx).1
    have hcell : ∀ j, j < 10 → wr.cell? ⟨g, 0 + i * 10 + j, none⟩ = (e10 t)[j]? := fun j hj => by
      rw [hb_cell hh, ← flatE_at ht hj, ← htk, List.getElem?_take, if_pos (by omega), Array.getElem?_toList, Nat.zero_add]
    refine ⟨g, 0, t.1.1, t.1.2.1, t.1.2.2.1, t.1.2.2.2.1, t.1.2.2.2.2, t.2.1, t.2.2.1, t.2.2.2.1, t.2.2.2.2.1, t.2.2.2.2.2, rfl, ⟨⟨?_, ?_, ?_, ?_, ?_⟩, h1.below h.bel⟩, ⟨?_, ?_, ?_, ?_, ?_⟩, h2.below h.bel⟩
    · have := hcell 0 (by omega); exact this
    · have := hcell 1 (by omega); exact this
    · have := hcell 2 (by omega); exact this
    · have := hcell 3 (by omega); exact this
    · have := hcell 4 (by omega); exact this
    · have := hcell 5 (by omega); exact this
    · have := hcell 6 (by omega); exact this
    · have := hcell 7 (by omega); exact this
    · have := hcell 8 (by omega); exact this
    · have := hcell 9 (by omega); exact this
theorem EqO.at {w wr : World} {E : List (Tm × Tm)} {d g n c : Nat} {ts : List TEq} (h : EqO w E d (.slice (some ⟨g, 0, none⟩) n c) ts wr) {j : Nat} {t : TEq} (ht : ts[j]? = some t) : TAt wr g (j * 10) t.1.1 t.1.2.1 t.1.2.2.1 t.1.2.2.2.1 t.1.2.2.2.2 ∧ TAt wr g (j * 10 + 5) t.2.1 t.2.2.1 t.2.2.2.1 t.2.2.2.2.1 t.2.2.2.2.2 := by
  have hj := (List.getElem?_eq_some_iff.1 ht).1
  rw [h.len] at hj
  obtain ⟨hfl, ⟨e, _⟩ | ⟨g', cap, cur, e, hbg, hh, _, _, _, htk⟩⟩ := h.row
  · cases e
  injection e with e1 e2 e3
  injection e1 with e1
  injection e1 with e1
  subst e1 e2 e3
  have hcell : ∀ r, r < 10 → wr.cell? ⟨g, j * 10 + r, none⟩ = (e10 t)[r]? := fun r hr => by
    rw [hb_cell hh, ← flatE_at ht hr, ← htk, List.getElem?_take, if_pos (by omega), Array.getElem?_toList]
  refine ⟨⟨?_, ?_, ?_, ?_, ?_⟩, ⟨?_, ?_, ?_, ?_, ?_⟩⟩
  · have := hcell 0 (by omega); exact this
  · have := hcell 1 (by omega); exact this
  · have := hcell 2 (by omega); exact this
  · have := hcell 3 (by omega); exact this
  · have := hcell 4 (by omega); exact this
  · have := hcell 5 (by omega); exact this
  · have := hcell 6 (by omega); exact this
  · have := hcell 7 (by omega); exact this
  · have := hcell 8 (by omega); exact this
  · have := hcell 9 (by omega); exact this
/-- Some of a list of equations are appended. -/
theorem EqO.app {w wr : World} {d : Nat} {v : Value} {F : List (Tm × Tm)} {ts : List TEq} (h : EqO w F d v ts wr) {G : List (Tm × Tm)} {us : List TEq} {g o c : Nat} (hu : us.length = G.length) (hone : ∀ u ∈ flatE us, u.oneCell' = true) (hcell : ∀ j u, (flatE us)[j]? = some u → w.cell? ⟨g, o + j, none⟩ = some u)
    (htrm : ∀ (i : Nat) (x : Tm × Tm), G[i]? = some x → ∃ t, us[i]? = some t ∧ IsT w d (t5v t.1) x.1 ∧ IsT w d (t5v t.2) x.2) (hn : F.length + G.length ≤ 100000) :
    ∃ v' w', (Builtin.append_ #[22, 22] 22 #[v, .slice (some ⟨g, o, none⟩) G.length c]).run Tryd.prog wr = .ok v' w' ∧ EqO w (F ++ G) d v' (ts ++ us) w' ∧ (∀ b, b < w.heap.size → w'.heap[b]? = wr.heap[b]?) := by
  obtain ⟨i, z, hi, hz, hs, hby, hzc⟩ := info43e
  have hlt := h.row.lt
  obtain ⟨v', w', r1, r2, r3, _, r5⟩ := run_append_own_at (P := Tryd.prog) (w := wr) w.heap.size 22 22 43 i z 10 144 (by kernel_rfl) hi hz hs hby hzc (by decide) v F.length (flatE ts) h.row ⟨g, o, none⟩ G.length c (flatE us) (by rw [flatE_length, hu])
    (fun j u hj => by rw [Addr.add_lit]; exact keep_cell h.bel (hcell j u hj)) hone (by unfold maxLen; omega) (by omega) h.bel.size
  refine ⟨v', w', r1, ⟨by rw [List.length_append, flatE_app]; exact r2, by rw [List.length_append, List.length_append, h.len, hu], h.bel.grown r3 h.bel.size (fun j hj => (hlt j hj).1), fun i x hx => ?_⟩, fun b hb => r3.block b (by have := h.bel.size; omega) (fun e => by have := (hlt b e.symm).1; omega)⟩
  rw [List.getElem?_append] at hx
  split at hx
  · rename_i hi
    obtain ⟨t, e1, e2⟩ := h.trm i x hx
    exact ⟨t, by rw [List.getElem?_append_left (by rw [h.len]; exact hi)]; exact e1, e2⟩
  · rename_i hi
    obtain ⟨t, e1, e2⟩ := htrm _ x hx
    exact ⟨t, by rw [List.getElem?_append_right (by rw [h.len]; omega), h.len]; exact e1, e2⟩
section
variable {H : Type} {enc : TypeId × Value → H} {W : World} {base : Nat} {v : Value} {d : DataW H} {p : List MemPlace}
end
end Go.Proofs.YtncebhddcokkoaaDoor
