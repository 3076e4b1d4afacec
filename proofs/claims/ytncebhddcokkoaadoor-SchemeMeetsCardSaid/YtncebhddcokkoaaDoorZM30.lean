/- Texts in a row: Pv Lk Lm. -/
import Derived.Test.YtncebhddcokkoaaDoorZM29
import Derived.Test.YtncebhddcokkoaaDoorZM8
import Derived.Maps.AppendAt
/- Lists of names and terms: as they lie, as they are made. -/
namespace Go.Proofs.YtncebhddcokkoaaDoor
open Go.RowKit
set_option linter.unusedSimpArgs false
set_option linter.unusedVariables false
abbrev V6 := ByteArray × T5
def v6C (t : V6) : List Value := [.string t.1, .int .i64 t.2.1, .string t.2.2.1, .string t.2.2.2.1, .int .i64 t.2.2.2.2.1, t.2.2.2.2.2]
def flatV (l : List V6) : List Value := l.flatMap v6C
theorem flatV_length (l : List V6) : (flatV l).length = l.length * 6 := by
  induction l with
  | nil => rfl
  | cons t l ih => simp only [flatV, List.flatMap_cons, List.length_append, List.length_cons] at ih ⊢; rw [ih]; simp [v6C]; omega
theorem flatV_snoc (l : List V6) (t : V6) : flatV (l ++ [t]) = flatV l ++ v6C t := by simp [flatV]
theorem flatV_at : ∀ {l : List V6} {i r : Nat} {t : V6}, l[i]? = some t → r < 6 → (flatV l)[i * 6 + r]? = (v6C t)[r]? := by
  intro l
  induction l with
  | nil => intro i r t h; simp at h
  | cons x l ih =>
    intro i r t h hr
    have e : flatV (x :: l) = v6C x ++ flatV l := rfl
    cases i with
    | zero =>
      cases h
      rw [e, List.getElem?_append_left (by simp [v6C]; omega)]
      simp
    | succ i =>
      rw [e, List.getElem?_append_right (by simp [v6C]; omega)]
      have h2 : (i + 1) * 6 + r - (v6C x).length = i * 6 + r := by simp [v6C]; omega
      rw [h2]
      exact ih h hr
/-- A list of names and terms. -/
def VAt (w : World) (d : Nat) (v : Value) (L : List NT) : Prop := ∃ q c, v = .slice q L.length c ∧ L.length ≤ 100000 ∧ ∀ (i : Nat) (x : NT), L[i]? = some x → ∃ g k p n N s, q = some ⟨g, 0, none⟩ ∧ w.cell? ⟨g, i * 6, none⟩ = some (.string x.1) ∧ x.1.size ≤ maxLen ∧ TAt w g (i * 6 + 1) k p n N s ∧ IsT w d (tv k p n N s) x.2
theorem VAt.below {w w' : World} {d : Nat} {v : Value} {L : List NT} (h : VAt w d v L) (hb : Below w.heap.size w w') : VAt w' d v L := by
  obtain ⟨q, c, e, hl, h⟩ := h
  refine ⟨q, c, e, hl, fun i x hx => ?_⟩
  obtain ⟨g, k, p, n, N, s, h1, h2, h3, h4, h5⟩ := h i x hx
  exact ⟨g, k, p, n, N, s, h1, by rw [hb.cell (block_lt_of_cell h2), h2], h3, h4.below hb h4.lt, h5.below hb⟩
theorem VAt.nil (w : World) (d : Nat) : VAt w d (.slice none 0 0) [] := ⟨none, 0, rfl, Nat.zero_le _, fun i x h => by simp at h⟩
theorem VAt.shape {w : World} {d : Nat} {v : Value} {L : List NT} (h : VAt w d v L) : ∃ q c, v = .slice q L.length c := by
  obtain ⟨q, c, e, _⟩ := h
  exact ⟨q, c, e⟩
theorem VAt.open {w : World} {d : Nat} {v : Value} {L : List NT} (h : VAt w d v L) : ∃ l : List V6, l.length = L.length ∧ (∀ (i : Nat) (x : NT), L[i]? = some x → ∃ t : V6, l[i]? = some t ∧ t.1 = x.1 ∧ x.1.size ≤ maxLen ∧ IsT w d (t5v t.2) x.2) ∧ (∀ u ∈ flatV l, u.oneCell' = true) ∧
    (L ≠ [] → ∃ g c, v = .slice (some ⟨g, 0, none⟩) L.length c ∧ ∀ j u, (flatV l)[j]? = some u → w.cell? ⟨g, j, none⟩ = some u) := by
  obtain ⟨q, c, rfl, hl, h⟩ := h
  obtain ⟨l, h1, h2⟩ := pick_list (P := fun i (t : V6) => ∃ x g, L[i]? = some x ∧ q = some ⟨g, 0, none⟩ ∧ t.1 = x.1 ∧ x.1.size ≤ maxLen ∧ w.cell? ⟨g, i * 6, none⟩ = some (.string t.1) ∧ TAt w g (i * 6 + 1) t.2.1 t.2.2.1 t.2.2.2.1 t.2.2.2.2.1 t.2.2.2.2.2 ∧ IsT w d (t5v t.2) x.2) L.length (fun i hi => by
    have hx := List.getElem?_eq_getElem hi
    obtain ⟨g, k, p, n, N, s, e1, e2, e3, e4, e5⟩ := h i _ hx
    exact ⟨(L[i].1, k, p, n, N, s), L[i], g, hx, e1, rfl, e3, e2, e4, e5⟩)
  refine ⟨l, h1, fun i x hx => ?_, fun u hu => ?_, fun hne => ?_⟩
  · have hi := (List.getElem?_eq_some_iff.1 hx).1
    have ht := List.getElem?_eq_getElem (l := l) (i := i) (by omega)
    obtain ⟨y, g, e0, _, e1, e2, _, _, e5⟩ := h2 i _ ht
    rw [hx] at e0
    cases e0
    exact ⟨_, ht, e1, e2, e5⟩
  · unfold flatV at hu
    obtain ⟨t, ht, hu⟩ := List.mem_flatMap.1 hu
    obtain ⟨i, hi⟩ := List.getElem?_of_mem ht
    obtain ⟨y, g, _, _, _, _, _, _, e5⟩ := h2 i _ hi
    obtain ⟨q', l', c', e⟩ := e5.spell
    unfold v6C at hu
    rw [e] at hu
    simp only [List.mem_cons, List.not_mem_nil, or_false] at hu
    rcases hu with rfl | rfl | rfl | rfl | rfl | rfl <;> rfl
  · obtain ⟨x, hx⟩ := List.exists_mem_of_ne_nil L hne
    obtain ⟨i, hi⟩ := List.getElem?_of_mem hx
    obtain ⟨g, _, _, _, _, _, e1, _⟩ := h i x hi
    subst e1
    refine ⟨g, c, rfl, fun j u hj => ?_⟩
    have hlt := (List.getElem?_eq_some_iff.1 hj).1
    rw [flatV_length] at hlt
    obtain ⟨i, r, rfl, hr⟩ : ∃ i r, j = i * 6 + r ∧ r < 6 := ⟨j / 6, j % 6, by omega, by omega⟩
    have ht := List.getElem?_eq_getElem (l := l) (i := i) (by omega)
    obtain ⟨y, g', _, e1, _, _, e3, ⟨a0, a1, a2, a3, a4⟩, _⟩ := h2 i _ ht
    cases e1
    rw [flatV_at ht hr] at hj
    generalize l[i] = t at *
    match r, hr with
    | 0, _ => cases hj; exact e3
    | 1, _ => cases hj; exact a0
    | 2, _ => cases hj; exact a1
    | 3, _ => cases hj; exact a2
    | 4, _ => cases hj; exact a3
    | 5, _ => cases hj; exact a4
/-- What a list that is being made holds. -/
def MadeV (base : Nat) (w : World) (d : Nat) (sv : Value) (L : List NT) : Prop :=
  ∃ l : List V6, l.length = L.length ∧ w.ownsRow base 38 6 sv l.length (flatV l) ∧ ∀ (i : Nat) (x : NT), L[i]? = some x → ∃ t : V6, l[i]? = some t ∧ t.1 = x.1 ∧ x.1.size ≤ maxLen ∧ IsX (fun b => some b ≠ sv.ownBlock) w d (t5v t.2) x.2
theorem MadeV.nil (base : Nat) (w : World) (d : Nat) : MadeV base w d (.slice none 0 0) [] := ⟨[], rfl, World.ownsRow_nil _ _ _ _, fun i x h => by simp at h⟩
theorem MadeV.shape {base : Nat} {w : World} {d : Nat} {sv : Value} {L : List NT} (h : MadeV base w d sv L) : ∃ q c, sv = .slice q L.length c := by
  obtain ⟨l, hl, ho, _⟩ := h
  obtain ⟨_, ⟨rfl, h0⟩ | ⟨g, cap, cur, rfl, _⟩⟩ := ho
  · exact ⟨none, 0, by rw [← hl, h0]⟩
  · exact ⟨_, cap, by rw [hl]⟩
/-- One more: made behind w, and appended. -/
theorem MadeV.next {base : Nat} {w w3 w4 w5 : World} {d : Nat} {sv sv4 : Value} {L : List NT} {nm : ByteArray} {x : Tm} {k N : Int} {p n : ByteArray} {q : Option Addr} {ln c : Nat} {l : List V6} (hl : l.length = L.length)
    (hown : w.ownsRow base 38 6 sv l.length (flatV l)) (hd : ∀ (i : Nat) (x : NT), L[i]? = some x → ∃ t : V6, l[i]? = some t ∧ t.1 = x.1 ∧ x.1.size ≤ maxLen ∧ IsX (fun b => some b ≠ sv.ownBlock) w d (t5v t.2) x.2)
    (hb : Below w.heap.size w w3) (hn : nm.size ≤ maxLen) (hx : IsX (fun b => some b ≠ sv.ownBlock) w3 d (tv k p n N (.slice q ln c)) x) (hw5 : ∀ b, b < w3.heap.size → w5.heap[b]? = w3.heap[b]?) (hz5 : w3.heap.size ≤ w5.heap.size)
    (ho4 : w4.ownsRow base 38 6 sv4 (l.length + 1) (flatV l ++ [.string nm, .int .i64 k, .string p, .string n, .int .i64 N, .slice q ln c])) (hg : w5.grownBy w4 sv.ownBlock) (hblk : sv4.ownBlock = sv.ownBlock ∨ sv4.ownBlock = some w5.heap.size) : MadeV base w4 d sv4 (L ++ [(nm, x)]) := by
  have hsz := hb.size
  have hstep : ∀ b, b < w3.heap.size → some b ≠ sv.ownBlock → w4.heap[b]? = w3.heap[b]? := fun b h1 h2 => by rw [hg.block b (by omega) h2, hw5 b h1]
  have hnew : ∀ b, b < w3.heap.size → some b ≠ sv.ownBlock → some b ≠ sv4.ownBlock := fun b h1 h2 e => by
    rcases hblk with h | h
    · exact h2 (e.trans h)
    · rw [h] at e; have := Option.some.inj e; omega
  refine ⟨l ++ [(nm, k, p, n, N, .slice q ln c)], by simp [hl], by rw [List.length_append, flatV_snoc]; exact ho4, fun i y hy => ?_⟩
  rw [List.getElem?_append] at hy
  split at hy
  · rename_i hi
    obtain ⟨t, h1, h2, h3, h4⟩ := hd i y hy
    refine ⟨t, by rw [List.getElem?_append_left (by omega)]; exact h1, h2, h3, ?_⟩
    exact h4.move fun b hX hl2 => ⟨hnew b (by omega) hX, by rw [hstep b (by omega) hX, hb.block b hl2]⟩
  · rename_i hi
    have hi2 : i - L.length = 0 := by
      have := (List.getElem?_eq_some_iff.1 hy).1
      simp at this
      omega
    rw [hi2] at hy
    obtain rfl : (nm, x) = y := by simpa using hy
    have hil : i = l.length := by omega
    refine ⟨_, by rw [hil]; exact List.getElem?_concat_length, rfl, hn, ?_⟩
    exact hx.move fun b hX hl2 => ⟨hnew b hl2 hX, hstep b hl2 hX⟩
theorem MadeV.all {base : Nat} {w : World} {d : Nat} {sv : Value} {L : List NT} (h : MadeV base w d sv L) (hk : L.length ≤ 100000) : VAt w d sv L := by
  obtain ⟨l, hl, ho, hd⟩ := h
  obtain ⟨hfl, ⟨rfl, h0⟩ | ⟨g, cap, cur, rfl, hbg, hh, _, _, _, htk⟩⟩ := ho
  · have : L = [] := List.eq_nil_of_length_eq_zero (by omega)
    subst this
    exact VAt.nil _ _
  · refine ⟨some ⟨g, 0, none⟩, cap, by rw [hl], hk, fun i x hx => ?_⟩
    obtain ⟨t, h1, h2, h3, h4⟩ := hd i x hx
    have hi : i < l.length := (List.getElem?_eq_some_iff.1 h1).1
    have hcell : ∀ j (hj : j < 6), w.cell? ⟨g, i * 6 + j, none⟩ = (v6C t)[j]? := fun j hj => by
      have h5 : w.cell? ⟨g, i * 6 + j, none⟩ = cur[i * 6 + j]? := hb_cell hh _
      rw [h5, ← flatV_at h1 hj, ← htk, List.getElem?_take, if_pos (by omega), Array.getElem?_toList]
    have c0 := hcell 0 (by omega)
    rw [Nat.add_zero] at c0
    exact ⟨g, _, _, _, _, _, rfl, by rw [c0, ← h2]; rfl, h3, ⟨hcell 1 (by omega), hcell 2 (by omega), hcell 3 (by omega), hcell 4 (by omega), hcell 5 (by omega)⟩, h4.isT⟩
theorem MadeV.move {base : Nat} {w w' : World} {d : Nat} {sv : Value} {L : List NT} (h : MadeV base w d sv L) (hb : Below w.heap.size w w') : MadeV base w' d sv L := by
  obtain ⟨l, hl, ho, hd⟩ := h
  exact ⟨l, hl, own_below ho hb, fun i x hx => by
    obtain ⟨t, h1, h2, h3, h4⟩ := hd i x hx
    exact ⟨t, h1, h2, h3, h4.below hb⟩⟩
end Go.Proofs.YtncebhddcokkoaaDoor
/- What a solver has found is told. -/
namespace Go.Proofs.YtncebhddcokkoaaDoor
open Go.RowKit Go.Maps
set_option linter.unusedSimpArgs false
set_option linter.unusedVariables false
set_option maxRecDepth 100000 in
set_option maxHeartbeats 1000000 in
theorem told46_any {c : Cfg} {N : Nat} {A : Abs} {ns : List ByteArray} {ρ : ByteArray → Option Nat} {sv nv : Value} {M P : Nat} {f : Nat → Tm} (hN : Nms A ρ f) {i : Nat} {t : Tm} {w : World} (hu : Abs.Unf A f i t) (h : SV (fun _ => False) c N A ns ρ sv nv M P w) (hi : i < A.l.length) :
    Calls Tryd.prog 46 #[.pointer (some ⟨c.B, 0, none⟩), .int .i64 (i : Nat)] w (TellQ c N A ns ρ sv nv M P t w) := by
  have hsz := h.st.st.lt
  have hbw : c.b0 ≤ w.heap.size := by omega
  have hb2 := below2 w (.cells #[.pointer (some ⟨c.B, 0, none⟩)] 68) (.cells #[.int .i64 0, .string ⟨#[]⟩, .string ⟨#[]⟩, .int .i64 0, .slice none 0 0] 36)
  have h2 : ((w.alloc (.cells #[.pointer (some ⟨c.B, 0, none⟩)] 68)).alloc (.cells #[.int .i64 0, .string ⟨#[]⟩, .string ⟨#[]⟩, .int .i64 0, .slice none 0 0] 36)).heap[w.heap.size]? = some (.cells #[.pointer (some ⟨c.B, 0, none⟩)] 68 (0, 0)) := hb_alloc (hb_new _ _) _
  have h4 : ((w.alloc (.cells #[.pointer (some ⟨c.B, 0, none⟩)] 68)).alloc (.cells #[.int .i64 0, .string ⟨#[]⟩, .string ⟨#[]⟩, .int .i64 0, .slice none 0 0] 36)).heap[w.heap.size + 1]? = some (.cells #[.int .i64 0, .string ⟨#[]⟩, .string ⟨#[]⟩, .int .i64 0, .slice none 0 0] 36 (0, 0)) := by
    simpa using hb_new (w.alloc (.cells #[.pointer (some ⟨c.B, 0, none⟩)] 68)) (.cells #[.int .i64 0, .string ⟨#[]⟩, .string ⟨#[]⟩, .int .i64 0, .slice none 0 0] 36)
  have hsz2 : ((w.alloc (.cells #[.pointer (some ⟨c.B, 0, none⟩)] 68)).alloc (.cells #[.int .i64 0, .string ⟨#[]⟩, .string ⟨#[]⟩, .int .i64 0, .slice none 0 0] 36)).heap.size = w.heap.size + 2 := by simp
  have hsv := h.mono hb2 (h.st.below hb2)
  have HC := Lib.hid (tell_any hN hu hsv h2 (by omega) hi)
  have q0 := hb_at h2 0 rfl
  have H4 := Lib.hid h4
  have HB2 := Lib.hid hb2
  clear h h2 h4 hsv hb2
  go_enter Tryd.func46, Tryd.ntmps46
  go_upto_region 1 with (fail)
  generalize (w.alloc (.cells #[.pointer (some ⟨c.B, 0, none⟩)] 68)).alloc (.cells #[.int .i64 0, .string ⟨#[]⟩, .string ⟨#[]⟩, .int .i64 0, .slice none 0 0] 36) = W2 at *
  go_wp2_with (go_at_call 58; (with_reducible refine HC.out.mono ?_); rintro e w6 ⟨k, I, p, m, q, l, cc, rfl, g1, g2, g3⟩; have G1 := Lib.hid g1; have G2 := Lib.hid g2; have G3 := Lib.hid g3; have h6 := g2.block _ _ H4.out (by omega) (fun cs fr e => by injection e with _ e _; exact absurd e (by decide)); have y0 := hb_at h6 0 rfl; have y1 := hb_at h6 1 rfl; have y2 := hb_at h6 2 rfl; have y3 := hb_at h6 3 rfl; have y4 := hb_at h6 4 rfl; have f0 := hb_free h6 0; have f1 := hb_free h6 1; have f2 := hb_free h6 2; have f3 := hb_free h6 3; have f4 := hb_free h6 4; have H6 := Lib.hid h6; clear g1 g2 g3 h6)
  all_goals
    have hk6 : KpM c (w.heap.size + 1) w w6 := (KpM.of_below hbw HB2.out).trans G2.out.m
    refine bodyPost_ret (v := .tuple #[tv k p m I (.slice q l cc), .bool (decide (cnt2 t ≤ 1000))]) (by simp [results, Tryd.results46, go_sem, y0, y1, y2, y3, y4]) rfl ⟨k, I, p, m, q, l, cc, rfl, G1.out.put5 H6.out (by omega) (.int .i64 k) (.string p) (.string m) (.int .i64 I) (.slice q l cc), (hk6.put5 (n := w.heap.size + 1) (by omega) hbw (.int .i64 k) (.string p) (.string m) (.int .i64 I) (.slice q l cc)).kp (by omega), fun hcn D hD => ?_⟩
    refine (G3.out hcn D hD).move fun b hX hbl => ?_
    obtain ⟨g1, g2, cs, fr, hbb⟩ := hX
    have e := put5_other hbb (show b ≠ w.heap.size + 1 by omega) (.int .i64 k) (.string p) (.string m) (.int .i64 I) (.slice q l cc)
    exact ⟨⟨by omega, g2, cs, fr, e⟩, e.trans hbb.symm⟩
theorem info38 : ∃ i z, Tryd.prog.info? 38 = some i ∧ i.zero = some z ∧ i.size = 6 ∧ i.bytes = 88 ∧ z.cells.size = 6 := by
  have h : (Tryd.prog.info? 38).map (fun i => (i.zero, i.size, i.bytes)) = some (some (.agg #[.string ⟨#[]⟩, .int .i64 0, .string ⟨#[]⟩, .string ⟨#[]⟩, .int .i64 0, .slice none 0 0]), 6, 88) := by kernel_rfl
  obtain ⟨i, hi, e⟩ := Option.map_eq_some_iff.1 h
  injection e with e1 e2
  injection e2 with e2 e3
  exact ⟨i, _, hi, e1, e2, e3, rfl⟩
/-- Blocks of terms. -/
def Tz (c : Cfg) (w : World) (b : Nat) : Prop := b ≠ c.B ∧ ∃ cs fr, w.heap[b]? = some (.cells cs 36 fr)
/-- What of a row is these names and terms. -/
def DnV (c : Cfg) (w : World) (l : List V6) (done : List NT) : Prop :=
  l.length = done.length ∧ ∀ (i : Nat) (x : NT), done[i]? = some x → ∃ t : V6, l[i]? = some t ∧ t.1 = x.1 ∧ x.1.size ≤ maxLen ∧ ∀ D, cnt2 x.2 ≤ D → IsX (Tz c w) w D (t5v t.2) x.2
theorem DnV.kp {c : Cfg} {w w' : World} {l : List V6} {done : List NT} (h : DnV c w l done) (k : Kp c w w') : DnV c w' l done := by
  refine ⟨h.1, fun i x hx => ?_⟩
  obtain ⟨t, h1, h2, h3, h4⟩ := h.2 i x hx
  refine ⟨t, h1, h2, h3, fun D hD => (h4 D hD).move fun b hX hl => ?_⟩
  obtain ⟨g1, cs, fr, hb⟩ := hX
  have := k.block b _ hb g1 (fun cs fr e => by injection e with _ e _; exact absurd e (by decide))
  exact ⟨⟨g1, cs, fr, this⟩, this.trans hb.symm⟩
end Go.Proofs.YtncebhddcokkoaaDoor
/- A solver is made: what is in it, ahead of its equations. -/
namespace Go.Proofs.YtncebhddcokkoaaDoor
open Go.RowKit Go.Maps
set_option linter.unusedSimpArgs false
set_option linter.unusedVariables false
/-- Equations in memory. -/
def EqAt (w : World) (d : Nat) (v : Value) (E : List (Tm × Tm)) : Prop := ∃ q cc, v = .slice q E.length cc ∧ ∀ (i : Nat) (x : Tm × Tm), E[i]? = some x → ∃ g o k p n N s k' p' n' N' s', q = some ⟨g, o, none⟩ ∧
  (TAt w g (o + i * 10) k p n N s ∧ IsT w d (tv k p n N s) x.1) ∧ (TAt w g (o + i * 10 + 5) k' p' n' N' s' ∧ IsT w d (tv k' p' n' N' s') x.2)
theorem EqAt.below {w w' : World} {d : Nat} {v : Value} {E : List (Tm × Tm)} (h : EqAt w d v E) (hb : Below w.heap.size w w') : EqAt w' d v E := by
  obtain ⟨q, cc, e, h⟩ := h
  refine ⟨q, cc, e, fun i x hx => ?_⟩
  obtain ⟨g, o, k, p, n, N, s, k', p', n', N', s', e, ⟨h1, h2⟩, h3, h4⟩ := h i x hx
  exact ⟨g, o, k, p, n, N, s, k', p', n', N', s', e, ⟨h1.below hb h1.lt, h2.below hb⟩, h3.below hb h3.lt, h4.below hb⟩
/-- Both sides, one behind the other. -/
def two : List (Tm × Tm) → List Tm
  | [] => []
  | x :: l => x.1 :: x.2 :: two l
theorem two_app : ∀ (l m : List (Tm × Tm)), two (l ++ m) = two l ++ two m
  | [], m => rfl
  | x :: l, m => by simp [two, two_app l m]
theorem two_len : ∀ l : List (Tm × Tm), (two l).length = 2 * l.length
  | [] => rfl
  | x :: l => by simp [two, two_len l]; omega
/-- How many terms they have. -/
def tot (d : Nat) (E : List (Tm × Tm)) : Nat := (two E).foldl (fun n t => n + tszN d t) 0
theorem tot_app (d : Nat) (l m : List (Tm × Tm)) : tot d (l ++ m) = tot d l + tot d m := by
  unfold tot
  rw [two_app, List.foldl_append, foldl_add (tszN d) (two m)]
theorem tot_one (d : Nat) (x : Tm × Tm) : tot d [x] = tszN d x.1 + tszN d x.2 := by
  unfold tot two two
  simp
/-- The names of the first ones. -/
def nmsE (d : Nat) (E : List (Tm × Tm)) : List ByteArray := (two E).foldl (varsT d) []
theorem nmsE_snoc (d : Nat) (E : List (Tm × Tm)) (x : Tm × Tm) : nmsE d (E ++ [x]) = varsT d (varsT d (nmsE d E) x.1) x.2 := by
  unfold nmsE
  rw [two_app, List.foldl_append]
  rfl
/-- Two terms are appended. -/
theorem append_tt {w : World} {base : Nat} {v : Value} {l : List T5} (hown : w.ownsRow base 36 5 v l.length (flatC l)) (hbase : base ≤ w.heap.size) {k N k' N' : Int} {p n p' n' : ByteArray} {q q' : Option Addr} {ln c ln' c' : Nat} (hn : l.length ≤ 100000) :
    ∃ v' w', (Builtin.append_ #[34, 34] 34 #[v, .slice (some ⟨w.heap.size, 0, none⟩) 2 2]).run Tryd.prog (w.alloc (.cells #[.int .i64 k, .string p, .string n, .int .i64 N, .slice q ln c, .int .i64 k', .string p', .string n', .int .i64 N', .slice q' ln' c'] 36)) = .ok v' w' ∧
      w'.ownsRow base 36 5 v' (l ++ [(k, p, n, N, Value.slice q ln c), (k', p', n', N', Value.slice q' ln' c')]).length (flatC (l ++ [(k, p, n, N, Value.slice q ln c), (k', p', n', N', Value.slice q' ln' c')])) ∧
      (w.alloc (.cells #[.int .i64 k, .string p, .string n, .int .i64 N, .slice q ln c, .int .i64 k', .string p', .string n', .int .i64 N', .slice q' ln' c'] 36)).grownBy w' v.ownBlock := by
  obtain ⟨z, hz, hzc⟩ := info24
  obtain ⟨i0, hi, hz0, hz1, hz2⟩ := info_parts hz
  have hnew := hb_new w (.cells #[.int .i64 k, .string p, .string n, .int .i64 N, .slice q ln c, .int .i64 k', .string p', .string n', .int .i64 N', .slice q' ln' c'] 36)
  obtain ⟨v', w', r1, r2, r3, _, r5⟩ := run_append_own_at (P := Tryd.prog) (w := w.alloc (.cells #[.int .i64 k, .string p, .string n, .int .i64 N, .slice q ln c, .int .i64 k', .string p', .string n', .int .i64 N', .slice q' ln' c'] 36)) base 34 34 36 i0 z 5 72 Tryd.underlying34 hi hz0 hz1 hz2 hzc (by decide) v l.length (flatC l) (hown.alloc _) ⟨w.heap.size, 0, none⟩ 2 2
    [.int .i64 k, .string p, .string n, .int .i64 N, .slice q ln c, .int .i64 k', .string p', .string n', .int .i64 N', .slice q' ln' c'] rfl
    (fun j u hu => by
      rw [add_zero_none, hb_cell hnew]
      match j, hu with
      | 0, hu => exact hu
      | 1, hu => exact hu
      | 2, hu => exact hu
      | 3, hu => exact hu
      | 4, hu => exact hu
      | 5, hu => exact hu
      | 6, hu => exact hu
      | 7, hu => exact hu
      | 8, hu => exact hu
      | 9, hu => exact hu
      | j + 10, hu => simp at hu)
    (fun u hu => by
      simp only [List.mem_cons, List.not_mem_nil, or_false] at hu
      rcases hu with rfl | rfl | rfl | rfl | rfl | rfl | rfl | rfl | rfl | rfl <;> rfl)
    (by unfold maxLen; omega) (by omega) (by simp; omega)
  refine ⟨v', w', r1, ?_, r3⟩
  have e : flatC (l ++ [(k, p, n, N, Value.slice q ln c), (k', p', n', N', Value.slice q' ln' c')]) = flatC l ++ [.int .i64 k, .string p, .string n, .int .i64 N, .slice q ln c, .int .i64 k', .string p', .string n', .int .i64 N', .slice q' ln' c'] := by simp [flatC]
  rw [List.length_append, e]
  exact r2
/-- A solver's place. -/
def cfgN (w : World) (sv : Value) : Cfg := ⟨w.heap.size, w.heap.size + 1 + 1, 86, [sv, .slice none 0 0, .map (some w.heap.size), .map (some (w.heap.size + 1))], 9223372036854775807, false, 0⟩
theorem cfgN_cf (w : World) (sv : Value) : Cf (cfgN w sv) := ⟨rfl, by show (100000 : Int) ≤ 9223372036854775807; decide, by show (0 : Int) ≤ 0; decide⟩
/-- What a store says, but for its types, is stored. -/
theorem StA.rest {X : Nat → Prop} {c : Cfg} {A : Abs} {w : World} (h : StA X c A w) {i : Nat} {u : Value} {r : List Value} (hr : ∀ v : Value, (v :: .int .i64 c.bud :: .bool true :: .bool c.full :: .int .i64 c.wks :: c.rest).toArray.setIfInBounds i u = (v :: .int .i64 c.bud :: .bool true :: .bool c.full :: .int .i64 c.wks :: r).toArray) :
    StA X { c with rest := r } A (w.setCell ⟨c.B, i, none⟩ u) := by
  obtain ⟨v, L, rk, p1, p2, p3, p4⟩ := h
  have hB := p1.blk
  refine ⟨v, L, rk, ⟨p1.hb, p1.ne, ?_, ?_, fun x hx => ?_, p1.few⟩, ⟨p2.l, p2.lv, p2.be⟩, ⟨p3.pl, p3.wk⟩, p4⟩
  · have := hb_set_same hB i u
    rw [hr v] at this
    exact this
  · rcases p1.row with h1 | ⟨g, cap, cur, h1, h2, h3, h4⟩
    · exact .inl h1
    · exact .inr ⟨g, cap, cur, h1, h2, hb_set_other h3 u (fun e => type_ne h3 hB (fun e => p1.ne e.symm) e), h4⟩
  · obtain ⟨q, cc, e1, e2⟩ := p1.kid x hx
    refine ⟨q, cc, e1, ?_⟩
    rcases e2 with e2 | ⟨g, o, cs', fr', e, hg, hB', hc'⟩
    · exact .inl e2
    · exact .inr ⟨g, o, cs', fr', e, hb_set_other hg u (fun e5 => hB' e5), hB', hc'⟩
theorem IS.rest {c : Cfg} {bx M : Nat} {X : Nat → Prop} {l : List Inf} {ns : List ByteArray} {ρ : ByteArray → Option Nat} {w : World} (h : IS c bx M X l ns ρ w) {i : Nat} {u : Value} {r : List Value} (hr : ∀ v : Value, (v :: .int .i64 c.bud :: .bool true :: .bool c.full :: .int .i64 c.wks :: c.rest).toArray.setIfInBounds i u = (v :: .int .i64 c.bud :: .bool true :: .bool c.full :: .int .i64 c.wks :: r).toArray) (hM : M ≠ c.B) :
    IS { c with rest := r } bx M X l ns ρ (w.setCell ⟨c.B, i, none⟩ u) :=
  ⟨h.st.rest hr, hb_set_other h.box u (fun e => h.bB e), h.map.same (Below.heap_setCell w _ u M (fun e => hM e)), h.tab, h.wf, h.kd, h.b0, h.bB, h.sm⟩
theorem IS.grown {c : Cfg} {bx M : Nat} {X : Nat → Prop} {l : List Inf} {ns : List ByteArray} {ρ : ByteArray → Option Nat} {w w' : World} {row : Option Nat} (h : IS c bx M X l ns ρ w) (hg : w.grownBy w' row) {T : TypeId} (hT : T ≠ 90 ∧ T ≠ 3 ∧ T ≠ 68) (hr : ∀ g, row = some g → g ≠ c.B ∧ ∃ cs, w.heap[g]? = some (.cells cs T (0, 0))) : IS c bx M X l ns ρ w' := by
  refine ⟨h.st.cellsB fun g cs t fr hgg hc => hb_grown hgg hg (fun e => ?_), hb_grown h.box hg (fun e => ?_), h.map.same ?_, h.tab, h.wf, h.kd, h.b0, h.bB, h.sm⟩
  · obtain ⟨h1, cs', h2⟩ := hr g e.symm
    rcases hc with rfl | rfl | rfl
    · exact h1 rfl
    · exact type_ne hgg h2 (fun e => hT.1 e.symm) rfl
    · exact type_ne hgg h2 (fun e => hT.2.1 e.symm) rfl
  · obtain ⟨h1, cs', h2⟩ := hr _ e.symm
    exact type_ne h.box h2 (fun e => hT.2.2 e.symm) rfl
  · obtain ⟨es, cl, hm⟩ := h.map.heap
    rw [hm]
    refine hb_grown hm hg (fun e => ?_)
    obtain ⟨h1, cs', h2⟩ := hr _ e.symm
    rw [hm] at h2
    cases h2
theorem IS.b7 {c : Cfg} {bx M : Nat} {X : Nat → Prop} {l : List Inf} {ns : List ByteArray} {ρ : ByteArray → Option Nat} {w : World} (h : IS c bx M X l ns ρ w) {sv nv : Value} {m p : Value} (hr : c.rest = [sv, nv, m, p]) : w.cell? ⟨c.B, 5, none⟩ = some sv ∧ w.cell? ⟨c.B, 7, none⟩ = some m ∧ w.cell? ⟨c.B, 8, none⟩ = some p ∧ (∀ o, w.frozen? ⟨c.B, o, none⟩ = false) ∧ w.cell? ⟨c.B, 6, none⟩ = some nv := by
  obtain ⟨v, L, rk, p1, _, _, _⟩ := h.st
  have hblk := p1.blk
  rw [hr] at hblk
  exact ⟨hb_at hblk 5 rfl, hb_at hblk 7 rfl, hb_at hblk 8 rfl, fun o => hb_free hblk o, hb_at hblk 6 rfl⟩
/-- The state of a solver that equations come into. -/
structure NS (w : World) (E : List (Tm × Tm)) (d : Nat) (l : List Inf) (ρ : ByteArray → Option Nat) (sd : List (Nat × Nat)) (sv tv' : Value) (ts : List T5) (wr : World) : Prop where
  is : IS (cfgN w sv) (w.heap.size + 1 + 1 + 1) w.heap.size (fun _ => False) l (nmsE d E) ρ wr
  pl : IMap wr (w.heap.size + 1) 0 fun _ => none
  sides : PRow w.heap.size wr sv (sd.map fun s => (((s.1 : Nat) : Int), ((s.2 : Nat) : Int)))
  terms : wr.ownsRow w.heap.size 36 5 tv' ts.length (flatC ts)
  tlen : ts.length = (two E).length
  trm : ∀ (i : Nat) (x : Tm), (two E)[i]? = some x → ∃ t, ts[i]? = some t ∧ IsT w d (t5v t) x
  eqs : Abs.Eqs l ρ sd E
  wt : Abs.wt l ≤ 2 * tot d E
  ln : l.length ≤ tot d E
  bel : Below w.heap.size w wr
end Go.Proofs.YtncebhddcokkoaaDoor
