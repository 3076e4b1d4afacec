/- Texts in a row: Pm Pv Lk. -/
import Derived.Test.YtncebhddcokkoaaDoorZU14
import Derived.Test.YtncebhddcokkoaaDoorZU8
import Derived.Maps.AppendAt
import Derived.Test.YtncebhddcokkoaaDoorZU28
/- What Match finds, of the program and of the document (mathematics). -/
namespace Go.Proofs.YtncebhddcokkoaaDoor
open Go.RowKit
set_option linter.unusedVariables false
/-- What Match does with the pairs that are to be gone through, where so much is put: it ends with so much, or not. -/
inductive Mu : List (Tm × Tm) → (ByteArray → Option Tm) → Option (ByteArray → Option Tm) → Prop
  | done {P : ByteArray → Option Tm} : Mu [] P (some P)
  | old {p n : ByteArray} {N : Int} {l : List Tm} {s : Tm} {rest : List (Tm × Tm)} {P : ByteArray → Option Tm} {r : Option (ByteArray → Option Tm)} : P n = some s → Mu rest P r → Mu ((.mk 1 p n N l, s) :: rest) P r
  | clash {p n : ByteArray} {N : Int} {l : List Tm} {s y : Tm} {rest : List (Tm × Tm)} {P : ByteArray → Option Tm} : P n = some y → y ≠ s → Mu ((.mk 1 p n N l, s) :: rest) P none
  | new {p n : ByteArray} {N : Int} {l : List Tm} {s : Tm} {rest : List (Tm × Tm)} {P : ByteArray → Option Tm} {r : Option (ByteArray → Option Tm)} : P n = none → Mu rest (upV P n s) r → Mu ((.mk 1 p n N l, s) :: rest) P r
  | differ {k k2 N N2 : Int} {p n p2 n2 : ByteArray} {l m : List Tm} {rest : List (Tm × Tm)} {P : ByteArray → Option Tm} : k ≠ 1 → ¬ (k = k2 ∧ p = p2 ∧ n = n2 ∧ N = N2 ∧ l.length = m.length) → Mu ((.mk k p n N l, .mk k2 p2 n2 N2 m) :: rest) P none
  | go {k N : Int} {p n : ByteArray} {l m : List Tm} {rest : List (Tm × Tm)} {P : ByteArray → Option Tm} {r : Option (ByteArray → Option Tm)} : k ≠ 1 → l.length = m.length → Mu ((l.zip m).reverse ++ rest) P r → Mu ((.mk k p n N l, .mk k p n N m) :: rest) P r
theorem Mu.yes {st : List (Tm × Tm)} {P : ByteArray → Option Tm} {r : Option (ByteArray → Option Tm)} (h : Mu st P r) : ∀ {Q}, r = some Q → Ext P Q ∧ ∀ x ∈ st, Sol Q x.1 x.2 := by
  induction h with
  | done => intro Q e; cases e; exact ⟨Ext.refl _, fun x hx => by cases hx⟩
  | old h1 _ ih =>
    intro Q e
    obtain ⟨i1, i2⟩ := ih e
    refine ⟨i1, fun x hx => ?_⟩
    rcases List.mem_cons.1 hx with rfl | hx
    · exact .var (i1 _ _ h1)
    · exact i2 x hx
  | clash => intro Q e; cases e
  | new h1 _ ih =>
    intro Q e
    obtain ⟨i1, i2⟩ := ih e
    refine ⟨(Ext.up h1).trans i1, fun x hx => ?_⟩
    rcases List.mem_cons.1 hx with rfl | hx
    · exact .var (i1 _ _ (by unfold upV; rw [if_pos rfl]))
    · exact i2 x hx
  | differ => intro Q e; cases e
  | go h1 h2 _ ih =>
    intro Q e
    obtain ⟨i1, i2⟩ := ih e
    refine ⟨i1, fun x hx => ?_⟩
    rcases List.mem_cons.1 hx with rfl | hx
    · exact .con h1 h2 fun i x y hx hy => i2 (x, y) (List.mem_append_left _ (List.mem_reverse.2 (zip_mem hx hy)))
    · exact i2 x (List.mem_append_right _ hx)
abbrev NT := ByteArray × Tm
end Go.Proofs.YtncebhddcokkoaaDoor
/- Lists of names and terms: as they lie, as they are made. -/
namespace Go.Proofs.YtncebhddcokkoaaDoor
open Go.RowKit
set_option linter.unusedSimpArgs false
set_option linter.unusedVariables false
abbrev V6 := ByteArray × T5
def v6C (t : V6) : List Value := [.string t.1, .int .i64 t.2.1, .string t.2.2.1, .string t.2.2.2.1, .int .i64 t.2.2.2.2.1, t.2.2.2.2.2]
def flatV (l : List V6) : List Value := l.flatMap v6C
theorem flatV_length (l : List V6) : (flatV l).length = l.length * 6 := by
  induction l with
  | nil => rfl
  | cons t l ih => simp only [flatV, List.flatMap_cons, List.length_append, List.length_cons] at ih ⊢; rw [ih]; simp [v6C]; omega
theorem flatV_snoc (l : List V6) (t : V6) : flatV (l ++ [t]) = flatV l ++ v6C t := by simp [flatV]
theorem flatV_at : ∀ {l : List V6} {i r : Nat} {t : V6}, l[i]? = some t → r < 6 → (flatV l)[i * 6 + r]? = (v6C t)[r]? := by
  intro l
  induction l with
  | nil => intro i r t h; simp at h
  | cons x l ih =>
    intro i r t h hr
    have e : flatV (x :: l) = v6C x ++ flatV l := rfl
    cases i with
    | zero =>
      cases h
      rw [e, List.getElem?_append_left (by simp [v6C]; omega)]
      simp
    | succ i =>
      rw [e, List.getElem?_append_right (by simp [v6C]; omega)]
      have h2 : (i + 1) * 6 + r - (v6C x).length = i * 6 + r := by simp [v6C]; omega
      rw [h2]
      exact ih h hr
/-- A list of names and terms. -/
def VAt (w : World) (d : Nat) (v : Value) (L : List NT) : Prop := ∃ q c, v = .slice q L.length c ∧ L.length ≤ 100000 ∧ ∀ (i : Nat) (x : NT), L[i]? = some x → ∃ g k p n N s, q = some ⟨g, 0, none⟩ ∧ w.cell? ⟨g, i * 6, none⟩ = some (.string x.1) ∧ x.1.size ≤ maxLen ∧ TAt w g (i * 6 + 1) k p n N s ∧ IsT w d (tv k p n N s) x.2
theorem VAt.below {w w' : World} {d : Nat} {v : Value} {L : List NT} (h : VAt w d v L) (hb : Below w.heap.size w w') : VAt w' d v L := by
  obtain ⟨q, c, e, hl, h⟩ := h
  refine ⟨q, c, e, hl, fun i x hx => ?_⟩
  obtain ⟨g, k, p, n, N, s, h1, h2, h3, h4, h5⟩ := h i x hx
  exact ⟨g, k, p, n, N, s, h1, by rw [hb.cell (block_lt_of_cell h2), h2], h3, h4.below hb h4.lt, h5.below hb⟩
theorem VAt.nil (w : World) (d : Nat) : VAt w d (.slice none 0 0) [] := ⟨none, 0, rfl, Nat.zero_le _, fun i x h => by simp at h⟩
theorem VAt.shape {w : World} {d : Nat} {v : Value} {L : List NT} (h : VAt w d v L) : ∃ q c, v = .slice q L.length c := by
  obtain ⟨q, c, e, _⟩ := h
  exact ⟨q, c, e⟩
theorem VAt.open {w : World} {d : Nat} {v : Value} {L : List NT} (h : VAt w d v L) : ∃ l : List V6, l.length = L.length ∧ (∀ (i : Nat) (x : NT), L[i]? = some x → ∃ t : V6, l[i]? = some t ∧ t.1 = x.1 ∧ x.1.size ≤ maxLen ∧ IsT w d (t5v t.2) x.2) ∧ (∀ u ∈ flatV l, u.oneCell' = true) ∧
    (L ≠ [] → ∃ g c, v = .slice (some ⟨g, 0, none⟩) L.length c ∧ ∀ j u, (flatV l)[j]? = some u → w.cell? ⟨g, j, none⟩ = some u) := by
  obtain ⟨q, c, rfl, hl, h⟩ := h
  obtain ⟨l, h1, h2⟩ := pick_list (P := fun i (t : V6) => ∃ x g, L[i]? = some x ∧ q = some ⟨g, 0, none⟩ ∧ t.1 = x.1 ∧ x.1.size ≤ maxLen ∧ w.cell? ⟨g, i * 6, none⟩ = some (.string t.1) ∧ TAt w g (i * 6 + 1) t.2.1 t.2.2.1 t.2.2.2.1 t.2.2.2.2.1 t.2.2.2.2.2 ∧ IsT w d (t5v t.2) x.2) L.length (fun i hi => by
    have hx := List.getElem?_eq_getElem hi
    obtain ⟨g, k, p, n, N, s, e1, e2, e3, e4, e5⟩ := h i _ hx
    exact ⟨(L[i].1, k, p, n, N, s), L[i], g, hx, e1, rfl, e3, e2, e4, e5⟩)
  refine ⟨l, h1, fun i x hx => ?_, fun u hu => ?_, fun hne => ?_⟩
  · have hi := (List.getElem?_eq_some_iff.1 hx).1
    have ht := List.getElem?_eq_getElem (l := l) (i := i) (by omega)
    obtain ⟨y, g, e0, _, e1, e2, _, _, e5⟩ := h2 i _ ht
    rw [hx] at e0
    cases e0
    exact ⟨_, ht, e1, e2, e5⟩
  · unfold flatV at hu
    obtain ⟨t, ht, hu⟩ := List.mem_flatMap.1 hu
    obtain ⟨i, hi⟩ := List.getElem?_of_mem ht
    obtain ⟨y, g, _, _, _, _, _, _, e5⟩ := h2 i _ hi
    obtain ⟨q', l', c', e⟩ := e5.spell
    unfold v6C at hu
    rw [e] at hu
    simp only [List.mem_cons, List.not_mem_nil, or_false] at hu
    rcases hu with rfl | rfl | rfl | rfl | rfl | rfl <;> rfl
  · obtain ⟨x, hx⟩ := List.exists_mem_of_ne_nil L hne
    obtain ⟨i, hi⟩ := List.getElem?_of_mem hx
    obtain ⟨g, _, _, _, _, _, e1, _⟩ := h i x hi
    subst e1
    refine ⟨g, c, rfl, fun j u hj => ?_⟩
    have hlt := (List.getElem?_eq_some_iff.1 hj).1
    rw [flatV_length] at hlt
    obtain ⟨i, r, rfl, hr⟩ : ∃ i r, j = i * 6 + r ∧ r < 6 := ⟨j / 6, j % 6, by omega, by omega⟩
    have ht := List.getElem?_eq_getElem (l := l) (i := i) (by omega)
    obtain ⟨y, g', _, e1, _, _, e3, ⟨a0, a1, a2, a3, a4⟩, _⟩ := h2 i _ ht
    cases e1
    rw [flatV_at ht hr] at hj
    generalize l[i] = t at *
    match r, hr with
    | 0, _ => cases hj; exact e3
    | 1, _ => cases hj; exact a0
    | 2, _ => cases hj; exact a1
    | 3, _ => cases hj; exact a2
    | 4, _ => cases hj; exact a3
    | 5, _ => cases hj; exact a4
/-- What a list that is being made holds. -/
def MadeV (base : Nat) (w : World) (d : Nat) (sv : Value) (L : List NT) : Prop :=
  ∃ l : List V6, l.length = L.length ∧ w.ownsRow base 38 6 sv l.length (flatV l) ∧ ∀ (i : Nat) (x : NT), L[i]? = some x → ∃ t : V6, l[i]? = some t ∧ t.1 = x.1 ∧ x.1.size ≤ maxLen ∧ IsX (fun b => some b ≠ sv.ownBlock) w d (t5v t.2) x.2
theorem MadeV.nil (base : Nat) (w : World) (d : Nat) : MadeV base w d (.slice none 0 0) [] := ⟨[], rfl, World.ownsRow_nil _ _ _ _, fun i x h => by simp at h⟩
theorem MadeV.shape {base : Nat} {w : World} {d : Nat} {sv : Value} {L : List NT} (h : MadeV base w d sv L) : ∃ q c, sv = .slice q L.length c := by
  obtain ⟨l, hl, ho, _⟩ := h
  obtain ⟨_, ⟨rfl, h0⟩ | ⟨g, cap, cur, rfl, _⟩⟩ := ho
  · exact ⟨none, 0, by rw [← hl, h0]⟩
  · exact ⟨_, cap, by rw [hl]⟩
/-- One more: made behind w, and appended. -/
theorem MadeV.next {base : Nat} {w w3 w4 w5 : World} {d : Nat} {sv sv4 : Value} {L : List NT} {nm : ByteArray} {x : Tm} {k N : Int} {p n : ByteArray} {q : Option Addr} {ln c : Nat} {l : List V6} (hl : l.length = L.length)
    (hown : w.ownsRow base 38 6 sv l.length (flatV l)) (hd : ∀ (i : Nat) (x : NT), L[i]? = some x → ∃ t : V6, l[i]? = some t ∧ t.1 = x.1 ∧ x.1.size ≤ maxLen ∧ IsX (fun b => some b ≠ sv.ownBlock) w d (t5v t.2) x.2)
    (hb : Below w.heap.size w w3) (hn : nm.size ≤ maxLen) (hx : IsX (fun b => some b ≠ sv.ownBlock) w3 d (tv k p n N (.slice q ln c)) x) (hw5 : ∀ b, b < w3.heap.size → w5.heap[b]? = w3.heap[b]?) (hz5 : w3.heap.size ≤ w5.heap.size)
    (ho4 : w4.ownsRow base 38 6 sv4 (l.length + 1) (flatV l ++ [.string nm, .int .i64 k, .string p, .string n, .int .i64 N, .slice q ln c])) (hg : w5.grownBy w4 sv.ownBlock) (hblk : sv4.ownBlock = sv.ownBlock ∨ sv4.ownBlock = some w5.heap.size) : MadeV base w4 d sv4 (L ++ [(nm, x)]) := by
  have hsz := hb.size
  have hstep : ∀ b, b < w3.heap.size → some b ≠ sv.ownBlock → w4.heap[b]? = w3.heap[b]? := fun b h1 h2 => by rw [hg.block b (by omega) h2, hw5 b h1]
  have hnew : ∀ b, b < w3.heap.size → some b ≠ sv.ownBlock → some b ≠ sv4.ownBlock := fun b h1 h2 e => by
    rcases hblk with h | h
    · exact h2 (e.trans h)
    · rw [h] at e; have := Option.some.inj e; omega
  refine ⟨l ++ [(nm, k, p, n, N, .slice q ln c)], by simp [hl], by rw [List.length_append, flatV_snoc]; exact ho4, fun i y hy => ?_⟩
  rw [List.getElem?_append] at hy
  split at hy
  · rename_i hi
    obtain ⟨t, h1, h2, h3, h4⟩ := hd i y hy
    refine ⟨t, by rw [List.getElem?_append_left (by omega)]; exact h1, h2, h3, ?_⟩
    exact h4.move fun b hX hl2 => ⟨hnew b (by omega) hX, by rw [hstep b (by omega) hX, hb.block b hl2]⟩
  · rename_i hi
    have hi2 : i - L.length = 0 := by
      have := (List.getElem?_eq_some_iff.1 hy).1
      simp at this
      omega
    rw [hi2] at hy
    obtain rfl : (nm, x) = y := by simpa using hy
    have hil : i = l.length := by omega
    refine ⟨_, by rw [hil]; exact List.getElem?_concat_length, rfl, hn, ?_⟩
    exact hx.move fun b hX hl2 => ⟨hnew b hl2 hX, hstep b hl2 hX⟩
theorem MadeV.all {base : Nat} {w : World} {d : Nat} {sv : Value} {L : List NT} (h : MadeV base w d sv L) (hk : L.length ≤ 100000) : VAt w d sv L := by
  obtain ⟨l, hl, ho, hd⟩ := h
  obtain ⟨hfl, ⟨rfl, h0⟩ | ⟨g, cap, cur, rfl, hbg, hh, _, _, _, htk⟩⟩ := ho
  · have : L = [] := List.eq_nil_of_length_eq_zero (by omega)
    subst this
    exact VAt.nil _ _
  · refine ⟨some ⟨g, 0, none⟩, cap, by rw [hl], hk, fun i x hx => ?_⟩
    obtain ⟨t, h1, h2, h3, h4⟩ := hd i x hx
    have hi : i < l.length := (List.getElem?_eq_some_iff.1 h1).1
    have hcell : ∀ j (hj : j < 6), w.cell? ⟨g, i * 6 + j, none⟩ = (v6C t)[j]? := fun j hj => by
      have h5 : w.cell? ⟨g, i * 6 + j, none⟩ = cur[i * 6 + j]? := hb_cell hh _
      rw [h5, ← flatV_at h1 hj, ← htk, List.getElem?_take, if_pos (by omega), Array.getElem?_toList]
    have c0 := hcell 0 (by omega)
    rw [Nat.add_zero] at c0
    exact ⟨g, _, _, _, _, _, rfl, by rw [c0, ← h2]; rfl, h3, ⟨hcell 1 (by omega), hcell 2 (by omega), hcell 3 (by omega), hcell 4 (by omega), hcell 5 (by omega)⟩, h4.isT⟩
theorem MadeV.move {base : Nat} {w w' : World} {d : Nat} {sv : Value} {L : List NT} (h : MadeV base w d sv L) (hb : Below w.heap.size w w') : MadeV base w' d sv L := by
  obtain ⟨l, hl, ho, hd⟩ := h
  exact ⟨l, hl, own_below ho hb, fun i x hx => by
    obtain ⟨t, h1, h2, h3, h4⟩ := hd i x hx
    exact ⟨t, h1, h2, h3, h4.below hb⟩⟩
end Go.Proofs.YtncebhddcokkoaaDoor
/- What a solver has found is told. -/
namespace Go.Proofs.YtncebhddcokkoaaDoor
open Go.RowKit Go.Maps
set_option linter.unusedSimpArgs false
set_option linter.unusedVariables false
set_option maxRecDepth 100000 in
set_option maxHeartbeats 1000000 in
theorem told46_any {c : Cfg} {N : Nat} {A : Abs} {ns : List ByteArray} {ρ : ByteArray → Option Nat} {sv nv : Value} {M P : Nat} {f : Nat → Tm} (hN : Nms A ρ f) {i : Nat} {t : Tm} {w : World} (hu : Abs.Unf A f i t) (h : SV (fun _ => False) c N A ns ρ sv nv M P w) (hi : i < A.l.length) :
    Calls Tryd.prog 46 #[.pointer (some ⟨c.B, 0, none⟩), .int .i64 (i : Nat)] w (TellQ c N A ns ρ sv nv M P t w) := by
  have hsz := h.st.st.lt
  have hbw : c.b0 ≤ w.heap.size := by omega
  have hb2 := below2 w (.cells #[.pointer (some ⟨c.B, 0, none⟩)] 68) (.cells #[.int .i64 0, .string ⟨#[]⟩, .string ⟨#[]⟩, .int .i64 0, .slice none 0 0] 36)
  have h2 : ((w.alloc (.cells #[.pointer (some ⟨c.B, 0, none⟩)] 68)).alloc (.cells #[.int .i64 0, .string ⟨#[]⟩, .string ⟨#[]⟩, .int .i64 0, .slice none 0 0] 36)).heap[w.heap.size]? = some (.cells #[.pointer (some ⟨c.B, 0, none⟩)] 68 (0, 0)) := hb_alloc (hb_new _ _) _
  have h4 : ((w.alloc (.cells #[.pointer (some ⟨c.B, 0, none⟩)] 68)).alloc (.cells #[.int .i64 0, .string ⟨#[]⟩, .string ⟨#[]⟩, .int .i64 0, .slice none 0 0] 36)).heap[w.heap.size + 1]? = some (.cells #[.int .i64 0, .string ⟨#[]⟩, .string ⟨#[]⟩, .int .i64 0, .slice none 0 0] 36 (0, 0)) := by
    simpa using hb_new (w.alloc (.cells #[.pointer (some ⟨c.B, 0, none⟩)] 68)) (.cells #[.int .i64 0, .string ⟨#[]⟩, .string ⟨#[]⟩, .int .i64 0, .slice none 0 0] 36)
  have hsz2 : ((w.alloc (.cells #[.pointer (some ⟨c.B, 0, none⟩)] 68)).alloc (.cells #[.int .i64 0, .string ⟨#[]⟩, .string ⟨#[]⟩, .int .i64 0, .slice none 0 0] 36)).heap.size = w.heap.size + 2 := by simp
  have hsv := h.mono hb2 (h.st.below hb2)
  have HC := Lib.hid (tell_any hN hu hsv h2 (by omega) hi)
  have q0 := hb_at h2 0 rfl
  have H4 := Lib.hid h4
  have HB2 := Lib.hid hb2
  clear h h2 h4 hsv hb2
  go_enter Tryd.func46, Tryd.ntmps46
  go_upto_region 1 with (fail)
  generalize (w.alloc (.cells #[.pointer (some ⟨c.B, 0, none⟩)] 68)).alloc (.cells #[.int .i64 0, .string ⟨#[]⟩, .string ⟨#[]⟩, .int .i64 0, .slice none 0 0] 36) = W2 at *
  go_wp2_with (go_at_call 58; (with_reducible refine HC.out.mono ?_); rintro e w6 ⟨k, I, p, m, q, l, cc, rfl, g1, g2, g3⟩; have G1 := Lib.hid g1; have G2 := Lib.hid g2; have G3 := Lib.hid g3; have h6 := g2.block _ _ H4.out (by omega) (fun cs fr e => by injection e with _ e _; exact absurd e (by decide)); have y0 := hb_at h6 0 rfl; have y1 := hb_at h6 1 rfl; have y2 := hb_at h6 2 rfl; have y3 := hb_at h6 3 rfl; have y4 := hb_at h6 4 rfl; have f0 := hb_free h6 0; have f1 := hb_free h6 1; have f2 := hb_free h6 2; have f3 := hb_free h6 3; have f4 := hb_free h6 4; have H6 := Lib.hid h6; clear g1 g2 g3 h6)
  all_goals
    have hk6 : KpM c (w.heap.size + 1) w w6 := (KpM.of_below hbw HB2.out).trans G2.out.m
    refine bodyPost_ret (v := .tuple #[tv k p m I (.slice q l cc), .bool (decide (cnt2 t ≤ 1000))]) (by simp [results, Tryd.results46, go_sem, y0, y1, y2, y3, y4]) rfl ⟨k, I, p, m, q, l, cc, rfl, G1.out.put5 H6.out (by omega) (.int .i64 k) (.string p) (.string m) (.int .i64 I) (.slice q l cc), (hk6.put5 (n := w.heap.size + 1) (by omega) hbw (.int .i64 k) (.string p) (.string m) (.int .i64 I) (.slice q l cc)).kp (by omega), fun hcn D hD => ?_⟩
    refine (G3.out hcn D hD).move fun b hX hbl => ?_
    obtain ⟨g1, g2, cs, fr, hbb⟩ := hX
    have e := put5_other hbb (show b ≠ w.heap.size + 1 by omega) (.int .i64 k) (.string p) (.string m) (.int .i64 I) (.slice q l cc)
    exact ⟨⟨by omega, g2, cs, fr, e⟩, e.trans hbb.symm⟩
theorem info38 : ∃ i z, Tryd.prog.info? 38 = some i ∧ i.zero = some z ∧ i.size = 6 ∧ i.bytes = 88 ∧ z.cells.size = 6 := by
  have h : (Tryd.prog.info? 38).map (fun i => (i.zero, i.size, i.bytes)) = some (some (.agg #[.string ⟨#[]⟩, .int .i64 0, .string ⟨#[]⟩, .string ⟨#[]⟩, .int .i64 0, .slice none 0 0]), 6, 88) := by kernel_rfl
  obtain ⟨i, hi, e⟩ := Option.map_eq_some_iff.1 h
  injection e with e1 e2
  injection e2 with e2 e3
  exact ⟨i, _, hi, e1, e2, e3, rfl⟩
/-- Blocks of terms. -/
def Tz (c : Cfg) (w : World) (b : Nat) : Prop := b ≠ c.B ∧ ∃ cs fr, w.heap[b]? = some (.cells cs 36 fr)
/-- What of a row is these names and terms. -/
def DnV (c : Cfg) (w : World) (l : List V6) (done : List NT) : Prop :=
  l.length = done.length ∧ ∀ (i : Nat) (x : NT), done[i]? = some x → ∃ t : V6, l[i]? = some t ∧ t.1 = x.1 ∧ x.1.size ≤ maxLen ∧ ∀ D, cnt2 x.2 ≤ D → IsX (Tz c w) w D (t5v t.2) x.2
theorem DnV.kp {c : Cfg} {w w' : World} {l : List V6} {done : List NT} (h : DnV c w l done) (k : Kp c w w') : DnV c w' l done := by
  refine ⟨h.1, fun i x hx => ?_⟩
  obtain ⟨t, h1, h2, h3, h4⟩ := h.2 i x hx
  refine ⟨t, h1, h2, h3, fun D hD => (h4 D hD).move fun b hX hl => ?_⟩
  obtain ⟨g1, cs, fr, hb⟩ := hX
  have := k.block b _ hb g1 (fun cs fr e => by injection e with _ e _; exact absurd e (by decide))
  exact ⟨⟨g1, cs, fr, this⟩, this.trans hb.symm⟩
theorem append_v {w : World} {N : Nat} {kv : Value} {l : List V6} (h : w.ownsRow N 38 6 kv l.length (flatV l)) (hN : N ≤ w.heap.size) {nm : ByteArray} {k I : Int} {p m : ByteArray} {q : Option Addr} {ln cc : Nat} (hl : l.length ≤ 100000) :
    ∃ kv' w', (Builtin.append_ #[25, 25] 25 #[kv, .slice (some ⟨w.heap.size, 0, none⟩) 1 1]).run Tryd.prog (w.alloc (.cells #[.string nm, .int .i64 k, .string p, .string m, .int .i64 I, .slice q ln cc] 38)) = .ok kv' w' ∧
      w'.ownsRow N 38 6 kv' (l ++ [(nm, k, p, m, I, Value.slice q ln cc)]).length (flatV (l ++ [(nm, k, p, m, I, Value.slice q ln cc)])) ∧ (w.alloc (.cells #[.string nm, .int .i64 k, .string p, .string m, .int .i64 I, .slice q ln cc] 38)).grownBy w' kv.ownBlock := by
  obtain ⟨i, z, hi, hz, hs, hby, hzc⟩ := info38
  have hnew := hb_new w (.cells #[.string nm, .int .i64 k, .string p, .string m, .int .i64 I, .slice q ln cc] 38)
  obtain ⟨v', w', r1, r2, r3, _, r5⟩ := run_append_own_at (P := Tryd.prog) (w := w.alloc (.cells #[.string nm, .int .i64 k, .string p, .string m, .int .i64 I, .slice q ln cc] 38)) N 25 25 38 i z 6 88 (by kernel_rfl) hi hz hs hby hzc (by decide) kv l.length (flatV l) (h.alloc _) ⟨w.heap.size, 0, none⟩ 1 1 (v6C (nm, k, p, m, I, Value.slice q ln cc)) rfl
    (fun j u hu => by
      rw [add_zero_none, hb_cell hnew]
      match j, hu with
      | 0, hu => exact hu
      | 1, hu => exact hu
      | 2, hu => exact hu
      | 3, hu => exact hu
      | 4, hu => exact hu
      | 5, hu => exact hu
      | j + 6, hu => simp [v6C] at hu)
    (fun u hu => by
      simp only [v6C, List.mem_cons, List.not_mem_nil, or_false] at hu
      rcases hu with rfl | rfl | rfl | rfl | rfl | rfl <;> rfl)
    (by unfold maxLen; omega) (by omega) (by simp; omega)
  refine ⟨v', w', r1, ?_, r3⟩
  rw [List.length_append, flatV_snoc]
  exact r2
end Go.Proofs.YtncebhddcokkoaaDoor
