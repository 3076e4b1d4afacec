/- Texts in a row: Zn Pm Pv. -/
import Derived.Test.YtncebhddcokkoaaDoorZR19
import Derived.Test.YtncebhddcokkoaaDoorZR20
import Derived.Test.YtncebhddcokkoaaDoorZR21
import Derived.Laws.MakeOwn
import Derived.Test.YtncebhddcokkoaaDoorZR22
import Derived.Maps.AppendAt
/- Canonical forms tell which types are the same; what SchemeOrder puts in (mathematics). -/
namespace Go.Proofs.YtncebhddcokkoaaDoor
open Go.RowKit
set_option linter.unusedVariables false
theorem put1_nodup {ns : List ByteArray} {k : Int} {n : ByteArray} (h : ns.Nodup) : (put1 ns k n).Nodup := by
  unfold put1
  split
  · rename_i hc
    rw [List.nodup_append]
    refine ⟨h, by simp, fun a ha b hb e => ?_⟩
    rw [List.mem_singleton.1 hb] at e
    have := inN_iff.2 (e ▸ ha)
    rw [hc.2] at this
    cases this
  · exact h
theorem vars_nodup : ∀ {d : Nat} {t : Tm} {ns : List ByteArray}, ns.Nodup → (varsT d ns t).Nodup := by
  intro d
  induction d with
  | zero => intro t ns h; exact h
  | succ d ih =>
    intro t ns h
    obtain ⟨k, p, n, N, kids⟩ := t
    have key : ∀ (l : List Tm) (ns : List ByteArray), ns.Nodup → (l.foldl (varsT d) ns).Nodup := by
      intro l
      induction l with
      | nil => intro ns h; exact h
      | cons x l ihl => intro ns h; exact ihl _ (ih h)
    exact key kids _ (put1_nodup h)
theorem vars_mem {d : Nat} {t : Tm} {v : ByteArray} (h : hasV d t v) : v ∈ varsT d [] t := inN_iff.1 ((inN_varsT d [] t).2 (.inr h))
theorem nodup_le : ∀ {l m : List ByteArray}, l.Nodup → (∀ x ∈ l, x ∈ m) → l.length ≤ m.length := by
  intro l
  induction l with
  | nil => intro m _ _; simp
  | cons x l ih =>
    intro m hn hs
    rw [List.nodup_cons] at hn
    have hx := hs x (by simp)
    obtain ⟨a, b, rfl⟩ := List.append_of_mem hx
    have h1 := ih (m := a ++ b) hn.2 fun y hy => by
      have h3 := hs y (by simp [hy])
      have hne : y ≠ x := fun e => hn.1 (by rw [← e]; exact hy)
      simp only [List.mem_append, List.mem_cons] at h3 ⊢
      rcases h3 with h3 | h3 | h3
      · exact .inl h3
      · exact absurd h3 hne
      · exact .inr h3
    simp only [List.length_cons, List.length_append] at h1 ⊢
    omega
/-- A type that may be gone through: so deep, so large, so many names. -/
structure Gd (d : Nat) (t : Tm) (z v : Nat) : Prop where
  ty : Ty d t
  sm : Sm d t
  sz : tszN d t ≤ z
  vs : (varsT d [] t).length ≤ v
theorem Gd.more {d z v : Nat} {t : Tm} (h : Gd d t z v) {d' z' v' : Nat} (hd : d ≤ d') (hz : z ≤ z') (hv : v ≤ v') : Gd d' t z' v' := by
  refine ⟨h.ty.more _ hd, Sm.all h.ty.dp h.sm _, by rw [tsz_dp h.ty.dp d' hd]; exact Nat.le_trans h.sz hz, ?_⟩
  have h1 := nodup_le (l := varsT d' [] t) (m := varsT d [] t) (vars_nodup (by simp)) fun x hx => by
    have h2 := (inN_varsT d' [] t).1 (inN_mem hx)
    rcases h2 with h2 | h2
    · simp [inN] at h2
    · exact vars_mem (hasV_le h.ty.dp _ h2)
  have := h.vs
  omega
/-- Two types put in the place of two variables. -/
def putT (d : Nat) (t x y : Tm) : Tm := sub (byOf (fg [⟨#[97]⟩, ⟨#[98]⟩] 2) [x, y]) d t
theorem Gd.put {d : Nat} {t x y : Tm} (h : Gd d t 40 600) (hx : Gd d x 600 600) (hy : Gd d y 600 600) : Gd (d + d) (putT d t x y) 24000 2600 := by
  have hm : ∀ z ∈ [x, y], Gd d z 600 600 := by
    intro z hz
    rcases List.mem_cons.1 hz with rfl | hz
    · exact hx
    · rw [List.mem_singleton.1 hz]; exact hy
  refine ⟨Ty.sub (fun n z e => (hm z (byOf_mem e)).ty) h.ty, sub_sm (fun n z e => Sm.all (hm z (byOf_mem e)).ty.dp (hm z (byOf_mem e)).sm) h.ty.dp h.sm _, ?_, ?_⟩
  · have h1 := tszN_sub (σ := byOf (fg [⟨#[97]⟩, ⟨#[98]⟩] 2) [x, y]) (K := 600) (by omega) (fun n z e D => Nat.le_trans (tszN_le (hm z (byOf_mem e)).ty.dp D) (hm z (byOf_mem e)).sz) h.ty.dp (d + d)
    have h2 := h.sz
    unfold putT
    omega
  · have h1 := nodup_le (l := varsT (d + d) [] (putT d t x y)) (m := varsT d [] t ++ [x, y].foldl (varsT d) []) (vars_nodup (by simp)) fun v hv => by
      rcases vars_new (e := d) h.ty.dp (fun z hz => (hm z hz).ty.dp) hv with h2 | h2
      · exact List.mem_append_left _ (inN_iff.1 h2)
      · exact List.mem_append_right _ (inN_iff.1 h2)
    have h2 : ([x, y].foldl (varsT d) []).length ≤ 1200 := by
      have e1 := varsT_length d [] x
      have e2 := varsT_length d (varsT d [] x) y
      have e3 := hx.sz
      have e4 := hy.sz
      simp only [List.foldl_cons, List.foldl_nil]
      simp at e1
      omega
    have h3 := h.vs
    rw [List.length_append] at h1
    omega
end Go.Proofs.YtncebhddcokkoaaDoor
/- What Match finds, of the program and of the document (mathematics). -/
namespace Go.Proofs.YtncebhddcokkoaaDoor
open Go.RowKit
set_option linter.unusedVariables false
abbrev NT := ByteArray × Tm
end Go.Proofs.YtncebhddcokkoaaDoor
/- Lists of names and terms: as they lie, as they are made. -/
namespace Go.Proofs.YtncebhddcokkoaaDoor
open Go.RowKit
set_option linter.unusedSimpArgs false
set_option linter.unusedVariables false
abbrev V6 := ByteArray × T5
def v6C (t : V6) : List Value := [.string t.1, .int .i64 t.2.1, .string t.2.2.1, .string t.2.2.2.1, .int .i64 t.2.2.2.2.1, t.2.2.2.2.2]
def flatV (l : List V6) : List Value := l.flatMap v6C
theorem flatV_length (l : List V6) : (flatV l).length = l.length * 6 := by
  induction l with
  | nil => rfl
  | cons t l ih => simp only [flatV, List.flatMap_cons, List.length_append, List.length_cons] at ih ⊢; rw [ih]; simp [v6C]; omega
theorem flatV_snoc (l : List V6) (t : V6) : flatV (l ++ [t]) = flatV l ++ v6C t := by simp [flatV]
theorem flatV_at : ∀ {l : List V6} {i r : Nat} {t : V6}, l[i]? = some t → r < 6 → (flatV l)[i * 6 + r]? = (v6C t)[r]? := by
  intro l
  induction l with
  | nil => intro i r t h; simp at h
  | cons x l ih =>
    intro i r t h hr
    have e : flatV (x :: l) = v6C x ++ flatV l := rfl
    cases i with
    | zero =>
      cases h
      rw [e, List.getElem?_append_left (by simp [v6C]; omega)]
      simp
    | succ i =>
      rw [e, List.getElem?_append_right (by simp [v6C]; omega)]
      have h2 : (i + 1) * 6 + r - (v6C x).length = i * 6 + r := by simp [v6C]; omega
      rw [h2]
      exact ih h hr
/-- A list of names and terms. -/
def VAt (w : World) (d : Nat) (v : Value) (L : List NT) : Prop := ∃ q c, v = .slice q L.length c ∧ L.length ≤ 100000 ∧ ∀ (i : Nat) (x : NT), L[i]? = some x → ∃ g k p n N s, q = some ⟨g, 0, none⟩ ∧ w.cell? ⟨g, i * 6, none⟩ = some (.string x.1) ∧ x.1.size ≤ maxLen ∧ TAt w g (i * 6 + 1) k p n N s ∧ IsT w d (tv k p n N s) x.2
theorem VAt.below {w w' : World} {d : Nat} {v : Value} {L : List NT} (h : VAt w d v L) (hb : Below w.heap.size w w') : VAt w' d v L := by
  obtain ⟨q, c, e, hl, h⟩ := h
  refine ⟨q, c, e, hl, fun i x hx => ?_⟩
  obtain ⟨g, k, p, n, N, s, h1, h2, h3, h4, h5⟩ := h i x hx
  exact ⟨g, k, p, n, N, s, h1, by rw [hb.cell (block_lt_of_cell h2), h2], h3, h4.below hb h4.lt, h5.below hb⟩
theorem VAt.nil (w : World) (d : Nat) : VAt w d (.slice none 0 0) [] := ⟨none, 0, rfl, Nat.zero_le _, fun i x h => by simp at h⟩
theorem VAt.shape {w : World} {d : Nat} {v : Value} {L : List NT} (h : VAt w d v L) : ∃ q c, v = .slice q L.length c := by
  obtain ⟨q, c, e, _⟩ := h
  exact ⟨q, c, e⟩
theorem VAt.open {w : World} {d : Nat} {v : Value} {L : List NT} (h : VAt w d v L) : ∃ l : List V6, l.length = L.length ∧ (∀ (i : Nat) (x : NT), L[i]? = some x → ∃ t : V6, l[i]? = some t ∧ t.1 = x.1 ∧ x.1.size ≤ maxLen ∧ IsT w d (t5v t.2) x.2) ∧ (∀ u ∈ flatV l, u.oneCell' = true) ∧
    (L ≠ [] → ∃ g c, v = .slice (some ⟨g, 0, none⟩) L.length c ∧ ∀ j u, (flatV l)[j]? = some u → w.cell? ⟨g, j, none⟩ = some u) := by
  obtain ⟨q, c, rfl, hl, h⟩ := h
  obtain ⟨l, h1, h2⟩ := pick_list (P := fun i (t : V6) => ∃ x g, L[i]? = some x ∧ q = some ⟨g, 0, none⟩ ∧ t.1 = x.1 ∧ x.1.size ≤ maxLen ∧ w.cell? ⟨g, i * 6, none⟩ = some (.string t.1) ∧ TAt w g (i * 6 + 1) t.2.1 t.2.2.1 t.2.2.2.1 t.2.2.2.2.1 t.2.2.2.2.2 ∧ IsT w d (t5v t.2) x.2) L.length (fun i hi => by
    have hx := List.getElem?_eq_getElem hi
    obtain ⟨g, k, p, n, N, s, e1, e2, e3, e4, e5⟩ := h i _ hx
    exact ⟨(L[i].1, k, p, n, N, s), L[i], g, hx, e1, rfl, e3, e2, e4, e5⟩)
  refine ⟨l, h1, fun i x hx => ?_, fun u hu => ?_, fun hne => ?_⟩
  · have hi := (List.getElem?_eq_some_iff.1 hx).1
    have ht := List.getElem?_eq_getElem (l := l) (i := i) (by omega)
    obtain ⟨y, g, e0, _, e1, e2, _, _, e5⟩ := h2 i _ ht
    rw [hx] at e0
    cases e0
    exact ⟨_, ht, e1, e2, e5⟩
  · unfold flatV at hu
    obtain ⟨t, ht, hu⟩ := List.mem_flatMap.1 hu
    obtain ⟨i, hi⟩ := List.getElem?_of_mem ht
    obtain ⟨y, g, _, _, _, _, _, _, e5⟩ := h2 i _ hi
    obtain ⟨q', l', c', e⟩ := e5.spell
    unfold v6C at hu
    rw [e] at hu
    simp only [List.mem_cons, List.not_mem_nil, or_false] at hu
    rcases hu with rfl | rfl | rfl | rfl | rfl | rfl <;> rfl
  · obtain ⟨x, hx⟩ := List.exists_mem_of_ne_nil L hne
    obtain ⟨i, hi⟩ := List.getElem?_of_mem hx
    obtain ⟨g, _, _, _, _, _, e1, _⟩ := h i x hi
    subst e1
    refine ⟨g, c, rfl, fun j u hj => ?_⟩
    have hlt := (List.getElem?_eq_some_iff.1 hj).1
    rw [flatV_length] at hlt
    obtain ⟨i, r, rfl, hr⟩ : ∃ i r, j = i * 6 + r ∧ r < 6 := ⟨j / 6, j % 6, by omega, by omega⟩
    have ht := List.getElem?_eq_getElem (l := l) (i := i) (by omega)
    obtain ⟨y, g', _, e1, _, _, e3, ⟨a0, a1, a2, a3, a4⟩, _⟩ := h2 i _ ht
    cases e1
    rw [flatV_at ht hr] at hj
    generalize l[i] = t at *
    match r, hr with
    | 0, _ => cases hj; exact e3
    | 1, _ => cases hj; exact a0
    | 2, _ => cases hj; exact a1
    | 3, _ => cases hj; exact a2
    | 4, _ => cases hj; exact a3
    | 5, _ => cases hj; exact a4
/-- What a list that is being made holds. -/
def MadeV (base : Nat) (w : World) (d : Nat) (sv : Value) (L : List NT) : Prop :=
  ∃ l : List V6, l.length = L.length ∧ w.ownsRow base 38 6 sv l.length (flatV l) ∧ ∀ (i : Nat) (x : NT), L[i]? = some x → ∃ t : V6, l[i]? = some t ∧ t.1 = x.1 ∧ x.1.size ≤ maxLen ∧ IsX (fun b => some b ≠ sv.ownBlock) w d (t5v t.2) x.2
theorem MadeV.nil (base : Nat) (w : World) (d : Nat) : MadeV base w d (.slice none 0 0) [] := ⟨[], rfl, World.ownsRow_nil _ _ _ _, fun i x h => by simp at h⟩
theorem MadeV.shape {base : Nat} {w : World} {d : Nat} {sv : Value} {L : List NT} (h : MadeV base w d sv L) : ∃ q c, sv = .slice q L.length c := by
  obtain ⟨l, hl, ho, _⟩ := h
  obtain ⟨_, ⟨rfl, h0⟩ | ⟨g, cap, cur, rfl, _⟩⟩ := ho
  · exact ⟨none, 0, by rw [← hl, h0]⟩
  · exact ⟨_, cap, by rw [hl]⟩
/-- One more: made behind w, and appended. -/
theorem MadeV.next {base : Nat} {w w3 w4 w5 : World} {d : Nat} {sv sv4 : Value} {L : List NT} {nm : ByteArray} {x : Tm} {k N : Int} {p n : ByteArray} {q : Option Addr} {ln c : Nat} {l : List V6} (hl : l.length = L.length)
    (hown : w.ownsRow base 38 6 sv l.length (flatV l)) (hd : ∀ (i : Nat) (x : NT), L[i]? = some x → ∃ t : V6, l[i]? = some t ∧ t.1 = x.1 ∧ x.1.size ≤ maxLen ∧ IsX (fun b => some b ≠ sv.ownBlock) w d (t5v t.2) x.2)
    (hb : Below w.heap.size w w3) (hn : nm.size ≤ maxLen) (hx : IsX (fun b => some b ≠ sv.ownBlock) w3 d (tv k p n N (.slice q ln c)) x) (hw5 : ∀ b, b < w3.heap.size → w5.heap[b]? = w3.heap[b]?) (hz5 : w3.heap.size ≤ w5.heap.size)
    (ho4 : w4.ownsRow base 38 6 sv4 (l.length + 1) (flatV l ++ [.string nm, .int .i64 k, .string p, .string n, .int .i64 N, .slice q ln c])) (hg : w5.grownBy w4 sv.ownBlock) (hblk : sv4.ownBlock = sv.ownBlock ∨ sv4.ownBlock = some w5.heap.size) : MadeV base w4 d sv4 (L ++ [(nm, x)]) := by
  have hsz := hb.size
  have hstep : ∀ b, b < w3.heap.size → some b ≠ sv.ownBlock → w4.heap[b]? = w3.heap[b]? := fun b h1 h2 => by rw [hg.block b (by omega) h2, hw5 b h1]
  have hnew : ∀ b, b < w3.heap.size → some b ≠ sv.ownBlock → some b ≠ sv4.ownBlock := fun b h1 h2 e => by
    rcases hblk with h | h
    · exact h2 (e.trans h)
    · rw [h] at e; have := Option.some.inj e; omega
  refine ⟨l ++ [(nm, k, p, n, N, .slice q ln c)], by simp [hl], by rw [List.length_append, flatV_snoc]; exact ho4, fun i y hy => ?_⟩
  rw [List.getElem?_append] at hy
  split at hy
  · rename_i hi
    obtain ⟨t, h1, h2, h3, h4⟩ := hd i y hy
    refine ⟨t, by rw [List.getElem?_append_left (by omega)]; exact h1, h2, h3, ?_⟩
    exact h4.move fun b hX hl2 => ⟨hnew b (by omega) hX, by rw [hstep b (by omega) hX, hb.block b hl2]⟩
  · rename_i hi
    have hi2 : i - L.length = 0 := by
      have := (List.getElem?_eq_some_iff.1 hy).1
      simp at this
      omega
    rw [hi2] at hy
    obtain rfl : (nm, x) = y := by simpa using hy
    have hil : i = l.length := by omega
    refine ⟨_, by rw [hil]; exact List.getElem?_concat_length, rfl, hn, ?_⟩
    exact hx.move fun b hX hl2 => ⟨hnew b hl2 hX, hstep b hl2 hX⟩
theorem MadeV.all {base : Nat} {w : World} {d : Nat} {sv : Value} {L : List NT} (h : MadeV base w d sv L) (hk : L.length ≤ 100000) : VAt w d sv L := by
  obtain ⟨l, hl, ho, hd⟩ := h
  obtain ⟨hfl, ⟨rfl, h0⟩ | ⟨g, cap, cur, rfl, hbg, hh, _, _, _, htk⟩⟩ := ho
  · have : L = [] := List.eq_nil_of_length_eq_zero (by omega)
    subst this
    exact VAt.nil _ _
  · refine ⟨some ⟨g, 0, none⟩, cap, by rw [hl], hk, fun i x hx => ?_⟩
    obtain ⟨t, h1, h2, h3, h4⟩ := hd i x hx
    have hi : i < l.length := (List.getElem?_eq_some_iff.1 h1).1
    have hcell : ∀ j (hj : j < 6), w.cell? ⟨g, i * 6 + j, none⟩ = (v6C t)[j]? := fun j hj => by
      have h5 : w.cell? ⟨g, i * 6 + j, none⟩ = cur[i * 6 + j]? := hb_cell hh _
      rw [h5, ← flatV_at h1 hj, ← htk, List.getElem?_take, if_pos (by omega), Array.getElem?_toList]
    have c0 := hcell 0 (by omega)
    rw [Nat.add_zero] at c0
    exact ⟨g, _, _, _, _, _, rfl, by rw [c0, ← h2]; rfl, h3, ⟨hcell 1 (by omega), hcell 2 (by omega), hcell 3 (by omega), hcell 4 (by omega), hcell 5 (by omega)⟩, h4.isT⟩
theorem MadeV.move {base : Nat} {w w' : World} {d : Nat} {sv : Value} {L : List NT} (h : MadeV base w d sv L) (hb : Below w.heap.size w w') : MadeV base w' d sv L := by
  obtain ⟨l, hl, ho, hd⟩ := h
  exact ⟨l, hl, own_below ho hb, fun i x hx => by
    obtain ⟨t, h1, h2, h3, h4⟩ := hd i x hx
    exact ⟨t, h1, h2, h3, h4.below hb⟩⟩
end Go.Proofs.YtncebhddcokkoaaDoor
