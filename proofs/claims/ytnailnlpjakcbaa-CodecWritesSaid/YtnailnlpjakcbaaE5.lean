/- An argument that is a slice of items. -/
import Derived.Test.YtnailnlpjakcbaaC7
import Derived.Deep.Slices
import Derived.Deep.Fields
import Derived.ChangeSame
namespace Go.Proofs.Ytnailnlpjakcbaa
open Go.ChangeShapes Go.WideShapes Go.ChangeAt Go.RowKit Go.Deep

/-- An item: its kind, its numbers, its text. -/
structure It where
  kind : Int
  u : Nat
  n : Int
  s : ByteArray
def ItAt (w : World) (b o : Nat) (x : It) : Prop :=
  w.cell? ⟨b, o, none⟩ = some (.int .i64 x.kind) ∧ w.cell? ⟨b, o + 1, none⟩ = some (.int .u64 (x.u : Nat)) ∧ w.cell? ⟨b, o + 2, none⟩ = some (.int .i64 x.n) ∧ w.cell? ⟨b, o + 3, none⟩ = some (.string x.s)
theorem ItAt.of {w : World} {b o i : Nat} {x : It} (h0 : w.cell? (((⟨b, o, none⟩ : Addr).add (i * 4)).add 0) = some (.int .i64 x.kind)) (h1 : w.cell? (((⟨b, o, none⟩ : Addr).add (i * 4)).add 1) = some (.int .u64 (x.u : Nat)))
    (h2 : w.cell? (((⟨b, o, none⟩ : Addr).add (i * 4)).add 2) = some (.int .i64 x.n)) (h3 : w.cell? (((⟨b, o, none⟩ : Addr).add (i * 4)).add 3) = some (.string x.s)) : ItAt w b (o + i * 4) x := by
  simp only [Addr.add_lit, Nat.add_zero] at h0 h1 h2 h3
  exact ⟨h0, h1, h2, h3⟩
theorem ItAt.below {w w' : World} {b o : Nat} {x : It} (h : ItAt w b o x) (hb : Below w.heap.size w w') : ItAt w' b o x := by
  obtain ⟨h0, h1, h2, h3⟩ := h
  have hl := block_lt_of_cell h0
  exact ⟨by rw [hb.cell (p := ⟨b, o, none⟩) hl, h0], by rw [hb.cell (p := ⟨b, o + 1, none⟩) hl, h1], by rw [hb.cell (p := ⟨b, o + 2, none⟩) hl, h2], by rw [hb.cell (p := ⟨b, o + 3, none⟩) hl, h3]⟩
def ItOk (x : It) : Prop := x.u < 18446744073709551616 ∧ (-9223372036854775808 ≤ x.n ∧ x.n ≤ 9223372036854775807) ∧ x.s.size ≤ maxLen
theorem pick_list {α : Type} {P : Nat → α → Prop} (n : Nat) (h : ∀ i, i < n → ∃ x, P i x) : ∃ l : List α, l.length = n ∧ ∀ i x, l[i]? = some x → P i x := by
  induction n with
  | zero => exact ⟨[], rfl, fun i x hx => by simp at hx⟩
  | succ n ih =>
    obtain ⟨l, hl, hp⟩ := ih fun i hi => h i (by omega)
    obtain ⟨x, hx⟩ := h n (by omega)
    refine ⟨l ++ [x], by simp [hl], fun i y hy => ?_⟩
    rcases Nat.lt_or_ge i l.length with hi | hi
    · rw [List.getElem?_append_left hi] at hy
      exact hp i y hy
    · rw [List.getElem?_append_right hi] at hy
      have e : i - l.length = 0 := by
        rcases Nat.eq_zero_or_pos (i - l.length) with h0 | h0
        · exact h0
        · rw [List.getElem?_eq_none (by simp; omega)] at hy
          cases hy
      rw [e] at hy
      obtain rfl := Option.some.inj hy
      have e2 : i = n := by omega
      subst e2
      exact hx
theorem cells49 : Try.prog.cellsOf 49 = 4 := by kernel_rfl

section
variable {H : Type} {enc : TypeId × Value → H} {W : World} {base : Nat} {v : Value} {d : DataW H} {p : List MemPlace}
theorem arg_items (hval : Value.okWide Try.prog W .any base 42 v) (h : DataW.Trod enc Try.prog W 0 (fun _ => true) true 42 v d p) :
    ∃ l : List It, (∃ q c, v = .slice q l.length c ∧ ∀ i x, l[i]? = some x → ∃ b o, q = some ⟨b, o, none⟩ ∧ ItAt W b (o + i * 4) x) ∧ (∀ x ∈ l, ItOk x) ∧ l.length ≤ maxLen := by
  obtain ⟨a, len, cap, rfl⟩ := okWide_slice Try.underlying42 hval
  obtain ⟨fuel, hf⟩ := h
  rcases open_slice Try.underlying42 hf with ⟨hcs, _⟩ | ⟨b, len', cap', m, n, D, Pl, hcs, _, hl, hm, hmm, _, hi⟩
  · simp [Value.cells] at hcs
    obtain ⟨rfl, rfl, rfl⟩ := hcs
    exact ⟨[], ⟨none, 0, rfl, fun i x hx => by simp at hx⟩, by simp, Nat.zero_le _⟩
  · simp [Value.cells] at hcs
    obtain ⟨rfl, rfl, rfl⟩ := hcs
    have hm2 : m = cap := by simpa using hmm
    by_cases hz : len = 0
    · subst hz
      exact ⟨[], ⟨some b, cap, rfl, fun i x hx => by simp at hx⟩, by simp, Nat.zero_le _⟩
    obtain ⟨b1, o1, rfl⟩ : ∃ b1 o1, b = ⟨b1, o1, none⟩ := by
      obtain ⟨cs, hc, _⟩ := hi 0 (by omega)
      rw [cells49] at hc
      obtain ⟨_, hcl, hat⟩ := World.cells?_some hc
      have h0 := hat 0 (by omega)
      rw [List.getElem?_eq_getElem (by omega)] at h0
      have h1 := World.cell?_spot h0
      obtain ⟨b1, o1, sp⟩ := b
      have h2 : sp = none := by simpa [Addr.add] using h1
      exact ⟨b1, o1, by rw [h2]⟩
    obtain ⟨l, hll, hp⟩ := pick_list (P := fun i x => ItAt W b1 (o1 + i * 4) x ∧ ItOk x) len (fun i hi2 => by
      obtain ⟨cs, hc, ht⟩ := hi i (by omega)
      rw [cells49] at hc
      obtain ⟨ys, n', _, _, _, hys, hfs⟩ := DataW.trod_struct Try.underlying49 ht
      obtain ⟨_, hcl, hat⟩ := World.cells?_some hc
      match cs, hcl with
      | [c0, c1, c2, c3], _ =>
        have k3 : Try.prog.cellsOf 3 = 1 := by kernel_rfl
        have k22 : Try.prog.cellsOf 22 = 1 := by kernel_rfl
        have k9 : Try.prog.cellsOf 9 = 1 := by kernel_rfl
        have g0 : DataW.trod enc Try.prog W 0 (fun _ => true) true n' 3 (([c0, c1, c2, c3].drop 0).take (Try.prog.cellsOf 3)) = ys[0]? := hfs 0 _ rfl
        have g1 : DataW.trod enc Try.prog W 0 (fun _ => true) true n' 22 (([c0, c1, c2, c3].drop 1).take (Try.prog.cellsOf 22)) = ys[1]? := hfs 1 _ rfl
        have g2 : DataW.trod enc Try.prog W 0 (fun _ => true) true n' 3 (([c0, c1, c2, c3].drop 2).take (Try.prog.cellsOf 3)) = ys[2]? := hfs 2 _ rfl
        have g3 : DataW.trod enc Try.prog W 0 (fun _ => true) true n' 9 (([c0, c1, c2, c3].drop 3).take (Try.prog.cellsOf 9)) = ys[3]? := hfs 3 _ rfl
        have hy4 : ys.length = 4 := hys
        rw [k3, List.getElem?_eq_getElem (by omega)] at g0 g2
        rw [k22, List.getElem?_eq_getElem (by omega)] at g1
        rw [k9, List.getElem?_eq_getElem (by omega)] at g3
        obtain ⟨z0, e0, _, _⟩ := DataW.trod_int Try.underlying3 g0
        obtain ⟨z1, e1, _, w1⟩ := DataW.trod_int Try.underlying22 g1
        obtain ⟨z2, e2, _, w2⟩ := DataW.trod_int Try.underlying3 g2
        obtain ⟨s3, e3, _, w3⟩ := DataW.trod_string Try.underlying9 g3
        have b1 := bounds_u64 w1
        have b2 := bounds_i64 w2
        obtain ⟨u1, rfl⟩ := Int.eq_ofNat_of_zero_le b1.1
        have a0 := hat 0 (by omega)
        have a1 := hat 1 (by omega)
        have a2 := hat 2 (by omega)
        have a3 := hat 3 (by omega)
        simp at e0 e1 e2 e3
        subst e0 e1 e2 e3
        exact ⟨⟨z0, u1, z2, s3⟩, ItAt.of a0 a1 a2 a3, by show u1 < _; omega, b2, w3⟩)
    refine ⟨l, ⟨some ⟨b1, o1, none⟩, cap, by rw [hll], fun i x hx => ⟨b1, o1, rfl, (hp i x hx).1⟩⟩, fun x hx => ?_, by omega⟩
    obtain ⟨i, hi3, hxi⟩ := List.getElem_of_mem hx
    exact (hp i x (by rw [List.getElem?_eq_getElem hi3, hxi])).2
end
end Go.Proofs.Ytnailnlpjakcbaa
