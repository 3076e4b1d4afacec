/- Slices of versions as lists; an argument that is one. -/
import Derived.Test.YtmgnbpgcbehidaaD0
import Derived.Test.YtmgnbpgcbehidaaG6
import Derived.Deep.Slices
import Derived.Deep.Fields
import Derived.ChangeSame
namespace Go.Proofs.Ytmgnbpgcbehidaa
open Go.ChangeShapes Go.WideShapes Go.ChangeAt Go.RowKit Go.Deep

def VAt (w : World) (b o : Nat) (x : Sv.V) : Prop := w.cell? ⟨b, o, none⟩ = some (.int .i64 x.a) ∧ w.cell? ⟨b, o + 1, none⟩ = some (.int .i64 x.b) ∧ w.cell? ⟨b, o + 2, none⟩ = some (.int .i64 x.c)
theorem VAt.of {w : World} {b o i : Nat} {x : Sv.V} (h0 : w.cell? (((⟨b, o, none⟩ : Addr).add (i * 3)).add 0) = some (.int .i64 x.a)) (h1 : w.cell? (((⟨b, o, none⟩ : Addr).add (i * 3)).add 1) = some (.int .i64 x.b))
    (h2 : w.cell? (((⟨b, o, none⟩ : Addr).add (i * 3)).add 2) = some (.int .i64 x.c)) : VAt w b (o + i * 3) x := by
  simp only [Addr.add_lit, Nat.add_zero] at h0 h1 h2
  exact ⟨h0, h1, h2⟩
theorem VAt.lt {w : World} {b o : Nat} {x : Sv.V} (h : VAt w b o x) : b < w.heap.size := block_lt_of_cell h.1
theorem VAt.keep {w w' : World} {b o : Nat} {x : Sv.V} (h : VAt w b o x) (hk : ∀ k, w'.cell? ⟨b, k, none⟩ = w.cell? ⟨b, k, none⟩) : VAt w' b o x := ⟨by rw [hk, h.1], by rw [hk, h.2.1], by rw [hk, h.2.2]⟩
theorem VAt.below {w w' : World} {b o n : Nat} {x : Sv.V} (h : VAt w b o x) (hb : Below n w w') (hn : b < n) : VAt w' b o x :=
  h.keep fun k => hb.cell (p := ⟨b, k, none⟩) hn
/-- A slice of versions, as a list. -/
def VRow (w : World) (v : Value) (l : List Sv.V) : Prop := ∃ q c, v = .slice q l.length c ∧ ∀ i x, l[i]? = some x → ∃ b o, q = some ⟨b, o, none⟩ ∧ VAt w b (o + i * 3) x
theorem VRow.below {w w' : World} {v : Value} {l : List Sv.V} (h : VRow w v l) (hb : Below w.heap.size w w') : VRow w' v l := by
  obtain ⟨q, c, rfl, h⟩ := h
  refine ⟨q, c, rfl, fun i x hx => ?_⟩
  obtain ⟨b, o, rfl, ha⟩ := h i x hx
  exact ⟨b, o, rfl, ha.below hb ha.lt⟩
theorem VRow.own {w : World} {base : Nat} {v : Value} {l : List Sv.V} (h : w.ownsRow base 23 3 v l.length (flatV l)) : VRow w v l := by
  obtain ⟨hl, ⟨rfl, h0⟩ | ⟨g, cap, cur, rfl, hb, hg, h1, h2, h3, h4⟩⟩ := h
  · have : l = [] := List.eq_nil_of_length_eq_zero h0
    subst this
    exact ⟨none, 0, rfl, fun i x hx => by simp at hx⟩
  · refine ⟨some ⟨g, 0, none⟩, cap, rfl, fun i x hx => ⟨g, 0, rfl, ?_⟩⟩
    obtain ⟨hi, rfl⟩ := List.getElem?_eq_some_iff.1 hx
    have hc : ∀ j, j < 3 → w.cell? ⟨g, i * 3 + j, none⟩ = (encL l[i])[j]? := fun j hj => by
      rw [hb_cell hg, ← flatV_get l i j hi hj, ← h4, List.getElem?_take_of_lt (by omega), Array.getElem?_toList]
    rw [Nat.zero_add]
    exact ⟨hc 0 (by omega), hc 1 (by omega), hc 2 (by omega)⟩
theorem pick_list {α : Type} {P : Nat → α → Prop} (n : Nat) (h : ∀ i, i < n → ∃ x, P i x) : ∃ l : List α, l.length = n ∧ ∀ i x, l[i]? = some x → P i x := by
  induction n with
  | zero => exact ⟨[], rfl, fun i x hx => by simp at hx⟩
  | succ n ih =>
    obtain ⟨l, hl, hp⟩ := ih fun i hi => h i (by omega)
    obtain ⟨x, hx⟩ := h n (by omega)
    refine ⟨l ++ [x], by simp [hl], fun i y hy => ?_⟩
    rcases Nat.lt_or_ge i l.length with hi | hi
    · rw [List.getElem?_append_left hi] at hy
      exact hp i y hy
    · rw [List.getElem?_append_right hi] at hy
      have e : i - l.length = 0 := by
        rcases Nat.eq_zero_or_pos (i - l.length) with h0 | h0
        · exact h0
        · rw [List.getElem?_eq_none (by simp; omega)] at hy
          cases hy
      rw [e] at hy
      obtain rfl := Option.some.inj hy
      have e2 : i = n := by omega
      subst e2
      exact hx
section
variable {H : Type} {enc : TypeId × Value → H} {W : World} {base : Nat} {v : Value} {d : DataW H} {p : List MemPlace}
theorem arg_ver (hval : Value.okWide Try.prog W .any base 23 v) (h : DataW.Trod enc Try.prog W 0 (fun _ => true) true 23 v d p) : ∃ x : Sv.V, v = vv x ∧ OkV x := by
  obtain ⟨v0, v1, v2, y0, y1, y2, n, rfl, _, _, t0, t1, t2⟩ := Go.Joins.open_agg3 Try.underlying23 (by kernel_rfl) (by kernel_rfl) hval h
  obtain ⟨a, ha, _, oa⟩ := DataW.trod_int Try.underlying3 t0
  obtain ⟨b, hb, _, ob⟩ := DataW.trod_int Try.underlying3 t1
  obtain ⟨c, hc, _, oc⟩ := DataW.trod_int Try.underlying3 t2
  simp only [List.cons.injEq, and_true] at ha hb hc
  subst ha hb hc
  exact ⟨⟨a, b, c⟩, rfl, oa, ob, oc⟩
theorem arg_row (hval : Value.okWide Try.prog W .any base 35 v) (h : DataW.Trod enc Try.prog W 0 (fun _ => true) true 35 v d p) :
    ∃ l : List Sv.V, VRow W v l ∧ (∀ x ∈ l, OkV x) ∧ l.length ≤ maxLen := by
  obtain ⟨a, len, cap, rfl⟩ := okWide_slice Try.underlying35 hval
  obtain ⟨fuel, hf⟩ := h
  rcases open_slice Try.underlying35 hf with ⟨hcs, _⟩ | ⟨b, len', cap', m, n, D, Pl, hcs, _, hl, hm, hmm, _, hi⟩
  · simp [Value.cells] at hcs
    obtain ⟨rfl, rfl, rfl⟩ := hcs
    exact ⟨[], ⟨none, 0, rfl, fun i x hx => by simp at hx⟩, by simp, Nat.zero_le _⟩
  · simp [Value.cells] at hcs
    obtain ⟨rfl, rfl, rfl⟩ := hcs
    have hm2 : m = cap := by simpa using hmm
    by_cases hz : len = 0
    · subst hz
      exact ⟨[], ⟨some b, cap, rfl, fun i x hx => by simp at hx⟩, by simp, Nat.zero_le _⟩
    obtain ⟨b1, o1, rfl⟩ : ∃ b1 o1, b = ⟨b1, o1, none⟩ := by
      obtain ⟨cs, hc, _⟩ := hi 0 (by omega)
      rw [cells23] at hc
      obtain ⟨_, hcl, hat⟩ := World.cells?_some hc
      have h0 := hat 0 (by omega)
      rw [List.getElem?_eq_getElem (by omega)] at h0
      have h1 := World.cell?_spot h0
      obtain ⟨b1, o1, sp⟩ := b
      have h2 : sp = none := by simpa [Addr.add] using h1
      exact ⟨b1, o1, by rw [h2]⟩
    obtain ⟨l, hll, hp⟩ := pick_list (P := fun i x => VAt W b1 (o1 + i * 3) x ∧ OkV x) len (fun i hi2 => by
      obtain ⟨cs, hc, ht⟩ := hi i (by omega)
      rw [cells23] at hc
      obtain ⟨ys, n', _, _, _, hys, hfs⟩ := DataW.trod_struct Try.underlying23 ht
      obtain ⟨_, hcl, hat⟩ := World.cells?_some hc
      match cs, hcl with
      | [c0, c1, c2], _ =>
        have k3 : Try.prog.cellsOf 3 = 1 := by kernel_rfl
        have g0 : DataW.trod enc Try.prog W 0 (fun _ => true) true n' 3 (([c0, c1, c2].drop 0).take (Try.prog.cellsOf 3)) = ys[0]? := hfs 0 _ rfl
        have g1 : DataW.trod enc Try.prog W 0 (fun _ => true) true n' 3 (([c0, c1, c2].drop 1).take (Try.prog.cellsOf 3)) = ys[1]? := hfs 1 _ rfl
        have g2 : DataW.trod enc Try.prog W 0 (fun _ => true) true n' 3 (([c0, c1, c2].drop 2).take (Try.prog.cellsOf 3)) = ys[2]? := hfs 2 _ rfl
        have hy3 : ys.length = 3 := hys
        rw [k3, List.getElem?_eq_getElem (by omega)] at g0 g1 g2
        obtain ⟨z0, e0, _, w0⟩ := DataW.trod_int Try.underlying3 g0
        obtain ⟨z1, e1, _, w1⟩ := DataW.trod_int Try.underlying3 g1
        obtain ⟨z2, e2, _, w2⟩ := DataW.trod_int Try.underlying3 g2
        have a0 := hat 0 (by omega)
        have a1 := hat 1 (by omega)
        have a2 := hat 2 (by omega)
        simp at e0 e1 e2
        subst e0 e1 e2
        exact ⟨⟨z0, z1, z2⟩, VAt.of a0 a1 a2, w0, w1, w2⟩)
    refine ⟨l, ⟨some ⟨b1, o1, none⟩, cap, by rw [hll], fun i x hx => ⟨b1, o1, rfl, (hp i x hx).1⟩⟩, fun x hx => ?_, by omega⟩
    obtain ⟨i, hi3, hxi⟩ := List.getElem_of_mem hx
    exact (hp i x (by rw [List.getElem?_eq_getElem hi3, hxi])).2
end
end Go.Proofs.Ytmgnbpgcbehidaa
