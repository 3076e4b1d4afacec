/- Lists of names and terms: as they lie, as they are made. -/
import Derived.Test.YtknbhnicmgglbaaDoorPm
import Derived.Test.YtknbhnicmgglbaaDoorXh
import Derived.Maps.AppendAt
namespace Go.Proofs.YtknbhnicmgglbaaDoor
open Go.RowKit
set_option linter.unusedSimpArgs false
set_option linter.unusedVariables false
abbrev V6 := ByteArray × T5
def v6C (t : V6) : List Value := [.string t.1, .int .i64 t.2.1, .string t.2.2.1, .string t.2.2.2.1, .int .i64 t.2.2.2.2.1, t.2.2.2.2.2]
def flatV (l : List V6) : List Value := l.flatMap v6C
theorem flatV_length (l : List V6) : (flatV l).length = l.length * 6 := by
  induction l with
  | nil => rfl
  | cons t l ih => simp only [flatV, List.flatMap_cons, List.length_append, List.length_cons] at ih ⊢; rw [ih]; simp [v6C]; omega
theorem flatV_snoc (l : List V6) (t : V6) : flatV (l ++ [t]) = flatV l ++ v6C t := by simp [flatV]
theorem flatV_at : ∀ {l : List V6} {i r : Nat} {t : V6}, l[i]? = some t → r < 6 → (flatV l)[i * 6 + r]? = (v6C t)[r]? := by
  intro l
  induction l with
  | nil => intro i r t h; simp at h
  | cons x l ih =>
    intro i r t h hr
    have e : flatV (x :: l) = v6C x ++ flatV l := rfl
    cases i with
    | zero =>
      cases h
      rw [e, List.getElem?_append_left (by simp [v6C]; omega)]
      simp
    | succ i =>
      rw [e, List.getElem?_append_right (by simp [v6C]; omega)]
      have h2 : (i + 1) * 6 + r - (v6C x).length = i * 6 + r := by simp [v6C]; omega
      rw [h2]
      exact ih h hr
/-- A list of names and terms. -/
def VAt (w : World) (d : Nat) (v : Value) (L : List NT) : Prop := ∃ q c, v = .slice q L.length c ∧ L.length ≤ 100000 ∧ ∀ (i : Nat) (x : NT), L[i]? = some x → ∃ g k p n N s, q = some ⟨g, 0, none⟩ ∧ w.cell? ⟨g, i * 6, none⟩ = some (.string x.1) ∧ x.1.size ≤ maxLen ∧ TAt w g (i * 6 + 1) k p n N s ∧ IsT w d (tv k p n N s) x.2
theorem VAt.below {w w' : World} {d : Nat} {v : Value} {L : List NT} (h : VAt w d v L) (hb : Below w.heap.size w w') : VAt w' d v L := by
  obtain ⟨q, c, e, hl, h⟩ := h
  refine ⟨q, c, e, hl, fun i x hx => ?_⟩
  obtain ⟨g, k, p, n, N, s, h1, h2, h3, h4, h5⟩ := h i x hx
  exact ⟨g, k, p, n, N, s, h1, by rw [hb.cell (block_lt_of_cell h2), h2], h3, h4.below hb h4.lt, h5.below hb⟩
theorem VAt.nil (w : World) (d : Nat) : VAt w d (.slice none 0 0) [] := ⟨none, 0, rfl, Nat.zero_le _, fun i x h => by simp at h⟩
theorem VAt.shape {w : World} {d : Nat} {v : Value} {L : List NT} (h : VAt w d v L) : ∃ q c, v = .slice q L.length c := by
  obtain ⟨q, c, e, _⟩ := h
  exact ⟨q, c, e⟩
theorem VAt.open {w : World} {d : Nat} {v : Value} {L : List NT} (h : VAt w d v L) : ∃ l : List V6, l.length = L.length ∧ (∀ (i : Nat) (x : NT), L[i]? = some x → ∃ t : V6, l[i]? = some t ∧ t.1 = x.1 ∧ x.1.size ≤ maxLen ∧ IsT w d (t5v t.2) x.2) ∧ (∀ u ∈ flatV l, u.oneCell' = true) ∧
    (L ≠ [] → ∃ g c, v = .slice (some ⟨g, 0, none⟩) L.length c ∧ ∀ j u, (flatV l)[j]? = some u → w.cell? ⟨g, j, none⟩ = some u) := by
  obtain ⟨q, c, rfl, hl, h⟩ := h
  obtain ⟨l, h1, h2⟩ := pick_list (P := fun i (t : V6) => ∃ x g, L[i]? = some x ∧ q = some ⟨g, 0, none⟩ ∧ t.1 = x.1 ∧ x.1.size ≤ maxLen ∧ w.cell? ⟨g, i * 6, none⟩ = some (.string t.1) ∧ TAt w g (i * 6 + 1) t.2.1 t.2.2.1 t.2.2.2.1 t.2.2.2.2.1 t.2.2.2.2.2 ∧ IsT w d (t5v t.2) x.2) L.length (fun i hi => by
    have hx := List.getElem?_eq_getElem hi
    obtain ⟨g, k, p, n, N, s, e1, e2, e3, e4, e5⟩ := h i _ hx
    exact ⟨(L[i].1, k, p, n, N, s), L[i], g, hx, e1, rfl, e3, e2, e4, e5⟩)
  refine ⟨l, h1, fun i x hx => ?_, fun u hu => ?_, fun hne => ?_⟩
  · have hi := (List.getElem?_eq_some_iff.1 hx).1
    have ht := List.getElem?_eq_getElem (l := l) (i := i) (by omega)
    obtain ⟨y, g, e0, _, e1, e2, _, _, e5⟩ := h2 i _ ht
    rw [hx] at e0
    cases e0
    exact ⟨_, ht, e1, e2, e5⟩
  · unfold flatV at hu
    obtain ⟨t, ht, hu⟩ := List.mem_flatMap.1 hu
    obtain ⟨i, hi⟩ := List.getElem?_of_mem ht
    obtain ⟨y, g, _, _, _, _, _, _, e5⟩ := h2 i _ hi
    obtain ⟨q', l', c', e⟩ := e5.spell
    unfold v6C at hu
    rw [e] at hu
    simp only [List.mem_cons, List.not_mem_nil, or_false] at hu
    rcases hu with rfl | rfl | rfl | rfl | rfl | rfl <;> rfl
  · obtain ⟨x, hx⟩ := List.exists_mem_of_ne_nil L hne
    obtain ⟨i, hi⟩ := List.getElem?_of_mem hx
    obtain ⟨g, _, _, _, _, _, e1, _⟩ := h i x hi
    subst e1
    refine ⟨g, c, rfl, fun j u hj => ?_⟩
    have hlt := (List.getElem?_eq_some_iff.1 hj).1
    rw [flatV_length] at hlt
    obtain ⟨i, r, rfl, hr⟩ : ∃ i r, j = i * 6 + r ∧ r < 6 := ⟨j / 6, j % 6, by omega, by omega⟩
    have ht := List.getElem?_eq_getElem (l := l) (i := i) (by omega)
    obtain ⟨y, g', _, e1, _, _, e3, ⟨a0, a1, a2, a3, a4⟩, _⟩ := h2 i _ ht
    cases e1
    rw [flatV_at ht hr] at hj
    generalize l[i] = t at *
    match r, hr with
    | 0, _ => cases hj; exact e3
    | 1, _ => cases hj; exact a0
    | 2, _ => cases hj; exact a1
    | 3, _ => cases hj; exact a2
    | 4, _ => cases hj; exact a3
    | 5, _ => cases hj; exact a4
/-- What a list that is being made holds. -/
def MadeV (base : Nat) (w : World) (d : Nat) (sv : Value) (L : List NT) : Prop :=
  ∃ l : List V6, l.length = L.length ∧ w.ownsRow base 34 6 sv l.length (flatV l) ∧ ∀ (i : Nat) (x : NT), L[i]? = some x → ∃ t : V6, l[i]? = some t ∧ t.1 = x.1 ∧ x.1.size ≤ maxLen ∧ IsX (fun b => some b ≠ sv.ownBlock) w d (t5v t.2) x.2
theorem MadeV.nil (base : Nat) (w : World) (d : Nat) : MadeV base w d (.slice none 0 0) [] := ⟨[], rfl, World.ownsRow_nil _ _ _ _, fun i x h => by simp at h⟩
theorem MadeV.shape {base : Nat} {w : World} {d : Nat} {sv : Value} {L : List NT} (h : MadeV base w d sv L) : ∃ q c, sv = .slice q L.length c := by
  obtain ⟨l, hl, ho, _⟩ := h
  obtain ⟨_, ⟨rfl, h0⟩ | ⟨g, cap, cur, rfl, _⟩⟩ := ho
  · exact ⟨none, 0, by rw [← hl, h0]⟩
  · exact ⟨_, cap, by rw [hl]⟩
/-- One more: made behind w, and appended. -/
theorem MadeV.next {base : Nat} {w w3 w4 w5 : World} {d : Nat} {sv sv4 : Value} {L : List NT} {nm : ByteArray} {x : Tm} {k N : Int} {p n : ByteArray} {q : Option Addr} {ln c : Nat} {l : List V6} (hl : l.length = L.length)
    (hown : w.ownsRow base 34 6 sv l.length (flatV l)) (hd : ∀ (i : Nat) (x : NT), L[i]? = some x → ∃ t : V6, l[i]? = some t ∧ t.1 = x.1 ∧ x.1.size ≤ maxLen ∧ IsX (fun b => some b ≠ sv.ownBlock) w d (t5v t.2) x.2)
    (hb : Below w.heap.size w w3) (hn : nm.size ≤ maxLen) (hx : IsX (fun b => some b ≠ sv.ownBlock) w3 d (tv k p n N (.slice q ln c)) x) (hw5 : ∀ b, b < w3.heap.size → w5.heap[b]? = w3.heap[b]?) (hz5 : w3.heap.size ≤ w5.heap.size)
    (ho4 : w4.ownsRow base 34 6 sv4 (l.length + 1) (flatV l ++ [.string nm, .int .i64 k, .string p, .string n, .int .i64 N, .slice q ln c])) (hg : w5.grownBy w4 sv.ownBlock) (hblk : sv4.ownBlock = sv.ownBlock ∨ sv4.ownBlock = some w5.heap.size) : MadeV base w4 d sv4 (L ++ [(nm, x)]) := by
  have hsz := hb.size
  have hstep : ∀ b, b < w3.heap.size → some b ≠ sv.ownBlock → w4.heap[b]? = w3.heap[b]? := fun b h1 h2 => by rw [hg.block b (by omega) h2, hw5 b h1]
  have hnew : ∀ b, b < w3.heap.size → some b ≠ sv.ownBlock → some b ≠ sv4.ownBlock := fun b h1 h2 e => by
    rcases hblk with h | h
    · exact h2 (e.trans h)
    · rw [h] at e; have := Option.some.inj e; omega
  refine ⟨l ++ [(nm, k, p, n, N, .slice q ln c)], by simp [hl], by rw [List.length_append, flatV_snoc]; exact ho4, fun i y hy => ?_⟩
  rw [List.getElem?_append] at hy
  split at hy
  · rename_i hi
    obtain ⟨t, h1, h2, h3, h4⟩ := hd i y hy
    refine ⟨t, by rw [List.getElem?_append_left (by omega)]; exact h1, h2, h3, ?_⟩
    exact h4.move fun b hX hl2 => ⟨hnew b (by omega) hX, by rw [hstep b (by omega) hX, hb.block b hl2]⟩
  · rename_i hi
    have hi2 : i - L.length = 0 := by
      have := (List.getElem?_eq_some_iff.1 hy).1
      simp at this
      omega
    rw [hi2] at hy
    obtain rfl : (nm, x) = y := by simpa using hy
    have hil : i = l.length := by omega
    refine ⟨_, by rw [hil]; exact List.getElem?_concat_length, rfl, hn, ?_⟩
    exact hx.move fun b hX hl2 => ⟨hnew b hl2 hX, hstep b hl2 hX⟩
theorem MadeV.all {base : Nat} {w : World} {d : Nat} {sv : Value} {L : List NT} (h : MadeV base w d sv L) (hk : L.length ≤ 100000) : VAt w d sv L := by
  obtain ⟨l, hl, ho, hd⟩ := h
  obtain ⟨hfl, ⟨rfl, h0⟩ | ⟨g, cap, cur, rfl, hbg, hh, _, _, _, htk⟩⟩ := ho
  · have : L = [] := List.eq_nil_of_length_eq_zero (by omega)
    subst this
    exact VAt.nil _ _
  · refine ⟨some ⟨g, 0, none⟩, cap, by rw [hl], hk, fun i x hx => ?_⟩
    obtain ⟨t, h1, h2, h3, h4⟩ := hd i x hx
    have hi : i < l.length := (List.getElem?_eq_some_iff.1 h1).1
    have hcell : ∀ j (hj : j < 6), w.cell? ⟨g, i * 6 + j, none⟩ = (v6C t)[j]? := fun j hj => by
      have h5 : w.cell? ⟨g, i * 6 + j, none⟩ = cur[i * 6 + j]? := hb_cell hh _
      rw [h5, ← flatV_at h1 hj, ← htk, List.getElem?_take, if_pos (by omega), Array.getElem?_toList]
    have c0 := hcell 0 (by omega)
    rw [Nat.add_zero] at c0
    exact ⟨g, _, _, _, _, _, rfl, by rw [c0, ← h2]; rfl, h3, ⟨hcell 1 (by omega), hcell 2 (by omega), hcell 3 (by omega), hcell 4 (by omega), hcell 5 (by omega)⟩, h4.isT⟩
theorem MadeV.move {base : Nat} {w w' : World} {d : Nat} {sv : Value} {L : List NT} (h : MadeV base w d sv L) (hb : Below w.heap.size w w') : MadeV base w' d sv L := by
  obtain ⟨l, hl, ho, hd⟩ := h
  exact ⟨l, hl, own_below ho hb, fun i x hx => by
    obtain ⟨t, h1, h2, h3, h4⟩ := hd i x hx
    exact ⟨t, h1, h2, h3, h4.below hb⟩⟩
/-- A list behind an empty one of one's own, without room. -/
theorem append0V (w0 W : World) (base g d : Nat) (vx : Value) (L : List NT) (hg : W.heap[g]? = some (.cells #[] 34 (0, 0))) (hbg : base ≤ g) (hr : VAt w0 d vx L) (hb0 : Below w0.heap.size w0 W) (hgt : base ≤ W.heap.size) :
    ∃ v' W', (Builtin.append_ #[27, 27] 27 #[.slice (some ⟨g, 0, none⟩) 0 0, vx]).run Tryd.prog W = .ok v' W' ∧ (∃ l : List V6, l.length = L.length ∧ W'.ownsRow base 34 6 v' l.length (flatV l) ∧ ∀ (i : Nat) (x : NT), L[i]? = some x → ∃ t : V6, l[i]? = some t ∧ t.1 = x.1 ∧ x.1.size ≤ maxLen ∧ IsT w0 d (t5v t.2) x.2) ∧ Below W.heap.size W W' ∧ (v'.ownBlock = some g ∨ v'.ownBlock = some W.heap.size) := by
  have hgl := hb_lt hg
  obtain ⟨z, hz, hzc⟩ := info43
  obtain ⟨i0, hi, hz0, hz1, hz2⟩ := info_parts hz
  obtain ⟨l, h1, h2, h3, h4⟩ := hr.open
  have hown : W.ownsRow base 34 6 (.slice (some ⟨g, 0, none⟩) 0 0) 0 [] :=
    ⟨rfl, .inr ⟨g, 0, #[], rfl, hbg, hg, Nat.le_refl _, Nat.zero_le _, rfl, rfl⟩⟩
  by_cases hl : L = []
  · subst hl
    obtain ⟨q, c, rfl, _⟩ := hr
    obtain rfl : l = [] := List.eq_nil_of_length_eq_zero h1
    have hrun : (Builtin.append_ #[27, 27] 27 #[.slice (some ⟨g, 0, none⟩) 0 0, .slice q ([] : List NT).length c]).run Tryd.prog W = .ok (.slice (some ⟨g, 0, none⟩) 0 0) W := by
      simp [Builtin.append_, run_underlying Tryd.underlying27, sizeOf, typeInfo, hi, Builtin.lenOf, Builtin.firstCells, storeCells, loadCells, loadCellsFrom]
      cases q <;> simp [storeCells, loadCells, loadCellsFrom, Builtin.firstCells]
    exact ⟨_, W, hrun, ⟨[], rfl, hown, fun i x h => by simp at h⟩, Below.refl _ _, .inl rfl⟩
  · obtain ⟨ga, c, rfl, hcells⟩ := h4 hl
    have hlen := hr.choose_spec.choose_spec.2.1
    have hpos : 0 < L.length := List.length_pos_iff.2 hl
    have hcells' : ∀ j u, (flatV l)[j]? = some u → W.cell? ((⟨ga, 0, none⟩ : Addr).add j) = some u := fun j u hu => by rw [add_zero_none]; exact keep_cell hb0 (hcells j u hu)
    have hfl : (flatV l).length = L.length * 6 := by rw [flatV_length, h1]
    obtain ⟨v', W', r1, r2, r3, _, r5⟩ := run_append_own_at (P := Tryd.prog) W base 27 27 34 i0 z 6 88 Tryd.underlying27 hi hz0 hz1 hz2 hzc (by decide) (.slice (some ⟨g, 0, none⟩) 0 0) 0 [] hown ⟨ga, 0, none⟩ L.length c (flatV l) (by rw [hfl]) hcells' h3 (by unfold maxLen; omega) (by omega) hgt
    have hrun := run_append_grow (P := Tryd.prog) W 27 27 34 i0 _ Tryd.underlying27 hi hz0 ⟨g, 0, none⟩ 0 0 [] (by simp) (fun j v h => by simp at h) ⟨ga, 0, none⟩ L.length c (flatV l) (by rw [hfl, hz1]) hcells' (by omega) (by omega) (growslice_fits (by omega) (by rw [hz2]; omega))
    rw [hrun] at r1
    cases r1
    refine ⟨_, _, hrun, ⟨l, h1, by simpa [h1] using r2, h2⟩, ((Below.refl _ W).drew).alloc (Nat.le_refl _) _, ?_⟩
    rcases r5 with h | h
    · exact .inl h
    · exact .inr h
end Go.Proofs.YtknbhnicmgglbaaDoor
