/- Appends of a slice of one version, or none; slices of at most one version. -/
import Derived.Test.YtmgnbpgcbehidaaH4
import Derived.Laws.AppendOwn
import Derived.Laws.AppendOwnNone
namespace Go.Proofs.Ytmgnbpgcbehidaa
open Go.RowKit
theorem grown_refl (w : World) (row : Option Nat) : w.grownBy w row := ⟨rfl, rfl, rfl, Nat.le_refl _, fun _ _ _ => rfl⟩
theorem wpList_append_one (w : World) {ops : Array Oper} {rest : List Oper} {o : Oper} {a : Act} {Q : Exit → Act → World → Prop} (hgd : o.guard = none) (s x : Operand)
    (ho : o.op = .call { callee := .builtin .append, args := #[s, x], argTypes := #[35, 35] }) (base b0 : Nat) (v vx : Value) (n : Nat) (xs : List Value) (A : Option Sv.V) (hs : a.eval s = v) (hown : w.ownsRow base 23 3 v n xs)
    (hx : a.eval x = vx) (hA : OneV w b0 vx A) (hn : n ≤ 1000) (hbase : base ≤ w.heap.size)
    (h : ∀ v' w', w'.ownsRow base 23 3 v' (n + A.toList.length) (xs ++ flatV A.toList) → w.grownBy w' v.ownBlock → wpList Try.prog ops Q rest (a.put o.dst v') w') : wpList Try.prog ops Q (o :: rest) a w := by
  obtain ⟨i0, hi, hz0, hz1, hz2⟩ := info_parts info23
  cases A with
  | none =>
    obtain rfl : vx = .slice none 0 0 := hA
    exact wpList_append_own_none hgd s x 35 ho base 23 i0 3 Try.underlying35 hi v n xs hs hown hx (h v w (by simpa [flatV] using hown) (grown_refl _ _))
  | some y =>
    obtain ⟨b, _, rfl, h0, h1, h2⟩ := hA
    exact wpList_append_own (w := w) hgd s x 35 ho base 23 i0 (.agg #[.int .i64 0, .int .i64 0, .int .i64 0]) 3 24 Try.underlying35 hi hz0 hz1 hz2 rfl (by decide) v n xs hs hown ⟨b, 0, none⟩ 1 1 [.int .i64 y.a, .int .i64 y.b, .int .i64 y.c] hx rfl
      (fun j u hu => by
        rw [add_zero_none]
        match j, hu with
        | 0, hu => cases hu; exact h0
        | 1, hu => cases hu; exact h1
        | 2, hu => cases hu; exact h2
        | j + 3, hu => simp at hu)
      (by simp [Value.oneCell']) (by unfold maxLen; omega) (by omega) hbase (fun v' w' h3 h4 _ => h v' w' (by simpa [flatV] using h3) h4)
theorem OneV.shape {w : World} {base : Nat} {v : Value} {A : Option Sv.V} (h : OneV w base v A) : ∃ q n, v = .slice q n n ∧ n ≤ 1 := by
  cases A with
  | none => exact ⟨none, 0, h, by omega⟩
  | some y => obtain ⟨b, _, rfl, _⟩ := h; exact ⟨_, 1, rfl, by omega⟩
theorem OneV.at {w : World} {base : Nat} {q : Option Addr} {n : Nat} {y : Sv.V} (h : OneV w base (.slice q n n) (some y)) : ∃ b, q = some ⟨b, 0, none⟩ ∧ n = 1 ∧ VAt w b 0 y := by
  obtain ⟨b, _, h1, h2⟩ := h
  cases h1
  exact ⟨b, rfl, rfl, h2⟩
theorem own_empty (w : World) : (w.alloc (.cells #[] 23)).ownsRow w.heap.size 23 3 (.slice (some ⟨w.heap.size, 0, none⟩) 0 0) 0 [] :=
  ⟨rfl, .inr ⟨w.heap.size, 0, #[], rfl, Nat.le_refl _, hb_new w _, Nat.le_refl _, Nat.zero_le _, rfl, rfl⟩⟩
theorem flatV_append (a b : List Sv.V) : flatV (a ++ b) = flatV a ++ flatV b := by simp [flatV]
theorem OneV.grown {w w' : World} {base : Nat} {v : Value} {A : Option Sv.V} {g : Nat} (h : OneV w base v A) (hlt : ∀ y, A = some y → ∀ b c, v = .slice (some ⟨b, 0, none⟩) 1 c → b < g) {row : Option Nat} (hg : w.grownBy w' row) (hrow : ∀ b, row = some b → g ≤ b) : OneV w' base v A := by
  cases A with
  | none => exact h
  | some y =>
    obtain ⟨b, h0, h1, h2⟩ := h
    have hb := hlt y rfl b 1 h1
    refine ⟨b, h0, h1, h2.keep fun k => ?_⟩
    have hblk := hg.block b h2.lt (fun e => by have := hrow b e.symm; omega)
    simp only [World.cell?, hblk]
theorem near_all {l : List Sv.V} {v : Sv.V} {A B : Option Sv.V} (ha : Sv.BelP l v A) (hb : Sv.AbvP l v B) : ∀ y ∈ A.toList ++ B.toList, y ∈ l ∧ y.a = v.a ∧ y ≠ v := by
  intro y hy
  have hvv : Sv.less v v = false := by rw [Sv.less_no]; omega
  rcases List.mem_append.1 hy with h | h
  · cases A with
    | none => simp at h
    | some z =>
      obtain rfl : y = z := by simpa using h
      exact ⟨ha.1, ha.2.1, fun e => by have := ha.2.2.1; rw [e, hvv] at this; cases this⟩
  · cases B with
    | none => simp at h
    | some z =>
      obtain rfl : y = z := by simpa using h
      exact ⟨hb.1, hb.2.1, fun e => by have := hb.2.2.1; rw [e, hvv] at this; cases this⟩
/-- Two versions that are not one, with one first number. -/
theorem parts {x y : Sv.V} (ha : x.a = y.a) (h : x ≠ y) : (x.b == y.b) = false ∨ ((x.b == y.b) = true ∧ (x.c == y.c) = false) := by
  by_cases h2 : x.b = y.b
  · by_cases h3 : x.c = y.c
    · exact absurd (by cases x; cases y; simp_all) h
    · exact .inr ⟨by simpa using h2, by simpa using h3⟩
  · exact .inl (by simpa using h2)
end Go.Proofs.Ytmgnbpgcbehidaa
