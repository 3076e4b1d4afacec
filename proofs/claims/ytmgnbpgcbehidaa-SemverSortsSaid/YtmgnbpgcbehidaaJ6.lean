/- An append of a slice of versions to a row of the call's own. -/
import Derived.Test.YtmgnbpgcbehidaaJ7
import Derived.Maps.AppendAt
namespace Go.Proofs.Ytmgnbpgcbehidaa
open Go.RowKit
theorem append_v (w : World) (base : Nat) (v vx : Value) (xs l : List Sv.V) (hown : w.ownsRow base 23 3 v xs.length (flatV xs)) (hr : VRow w vx l) (hn : xs.length + l.length ≤ 1000) (hbase : base ≤ w.heap.size) :
    ∃ v' w', (Builtin.append_ #[35, 35] 35 #[v, vx]).run Try.prog w = .ok v' w' ∧ w'.ownsRow base 23 3 v' (xs ++ l).length (flatV (xs ++ l)) ∧ w.grownBy w' v.ownBlock ∧ (v'.ownBlock = v.ownBlock ∨ v'.ownBlock = some w.heap.size) := by
  obtain ⟨i0, hi, hz0, hz1, hz2⟩ := info_parts info23
  obtain ⟨q, c, rfl, hx⟩ := hr
  rw [List.length_append, flatV_append]
  cases q with
  | none =>
    have hl : l = [] := by
      cases l with
      | nil => rfl
      | cons y l => obtain ⟨b, o, h, _⟩ := hx 0 y rfl; cases h
    subst hl
    refine ⟨v, w, ?_, by simpa [flatV] using hown, grown_refl _ _, .inl rfl⟩
    rcases hown.2 with ⟨rfl, _⟩ | ⟨g, cap, cur, rfl, _, _, hnc, _⟩
    · simp [Builtin.append_, run_underlying Try.underlying35, sizeOf, typeInfo, hi, Builtin.lenOf, Builtin.firstCells]
    · simp [Builtin.append_, run_underlying Try.underlying35, sizeOf, typeInfo, hi, Builtin.lenOf, Builtin.firstCells, hnc, storeCells]
  | some ad =>
    have hcells : ∀ j u, (flatV l)[j]? = some u → w.cell? (ad.add j) = some u := by
      intro j u hu
      have hj : j < l.length * 3 := by
        rw [← flatV_length]
        exact (List.getElem?_eq_some_iff.1 hu).1
      have hi : j / 3 < l.length := by omega
      have hg := flatV_get l (j / 3) (j % 3) hi (by omega)
      rw [show j / 3 * 3 + j % 3 = j by omega, hu] at hg
      obtain ⟨b, o, h1, h2⟩ := hx (j / 3) l[j / 3] (List.getElem?_eq_getElem hi)
      cases h1
      obtain ⟨y0, y1, y2⟩ := h2
      rw [Addr.add_lit]
      have h3 : j % 3 = 0 ∨ j % 3 = 1 ∨ j % 3 = 2 := by omega
      rcases h3 with h | h | h
      · rw [show o + j = o + j / 3 * 3 by omega, y0]; rw [h] at hg; simpa [encL] using hg.symm
      · rw [show o + j = o + j / 3 * 3 + 1 by omega, y1]; rw [h] at hg; simpa [encL] using hg.symm
      · rw [show o + j = o + j / 3 * 3 + 2 by omega, y2]; rw [h] at hg; simpa [encL] using hg.symm
    obtain ⟨v', w', h1, h2, h3, _, h5⟩ := run_append_own_at (P := Try.prog) w base 35 35 23 i0 _ 3 24 Try.underlying35 hi hz0 hz1 hz2 rfl (by decide) v xs.length (flatV xs) hown ad l.length c (flatV l) (flatV_length l) hcells
      (fun u hu => by
        unfold flatV at hu
        rw [List.mem_flatMap] at hu
        obtain ⟨y, _, hy⟩ := hu
        simp at hy
        rcases hy with rfl | rfl | rfl <;> rfl)
      (by unfold maxLen; omega) (by omega) hbase
    exact ⟨v', w', h1, h2, h3, h5⟩
/-- What an append leaves, as the region's steps want it. -/
theorem append_step (w0 W : World) (v vx : Value) (xs l : List Sv.V) (hb : Below w0.heap.size w0 W) (hown : W.ownsRow w0.heap.size 23 3 v xs.length (flatV xs)) (hr : VRow W vx l) (hn : xs.length + l.length ≤ 1000) :
    ∃ v' W', (Builtin.append_ #[35, 35] 35 #[v, vx]).run Try.prog W = .ok v' W' ∧ W'.ownsRow w0.heap.size 23 3 v' (xs ++ l).length (flatV (xs ++ l)) ∧ Below w0.heap.size w0 W' ∧ (∀ g x, W.heap[g]? = some x → v.ownBlock ≠ some g → W'.heap[g]? = some x) ∧ W.heap.size ≤ W'.heap.size ∧ (v'.ownBlock = v.ownBlock ∨ v'.ownBlock = some W.heap.size) := by
  obtain ⟨v', W', h1, h2, h3, h4⟩ := append_v W w0.heap.size v vx xs l hown hr hn hb.size
  refine ⟨v', W', h1, h2, hb.grown h3 hb.size (fun k hk => ?_), fun g x hx hne => hb_grown hx h3 (fun e => hne e.symm), h3.size, h4⟩
  rcases hown.2 with ⟨rfl, _⟩ | ⟨g, cap, cur, rfl, hg, _⟩
  · simp [Value.ownBlock] at hk
  · simp [Value.ownBlock] at hk; omega
theorem step_run_append {w w' : World} {ops : Array Oper} {o : Oper} {a : Act} {K : Act → World → Prop} {Q : Exit → Act → World → Prop} {E : Prop} (hgd : o.guard = none) (s x : Operand)
    (ho : o.op = .call { callee := .builtin .append, args := #[s, x], argTypes := #[35, 35] }) (hty : o.type = 35) {v vx v' : Value} (hs : a.eval s = v) (hx : a.eval x = vx)
    (hrun : (Builtin.append_ #[35, 35] 35 #[v, vx]).run Try.prog w = .ok v' w') (h : K (a.put o.dst v') w') : if Region.wanted o (yielded ops a.tmps) = true then Oper.wp Try.prog o a w K Q else E := by
  have hw : Region.wanted o (yielded ops a.tmps) = true := by simp [Region.wanted, hgd]
  rw [if_pos hw]
  unfold Oper.wp execOp
  simp only [ho, hty, resolve, invoke, builtin, Sem.run_bind, Sem.run_pure, Result.andThen_ok, List.map_toArray, List.map_cons, List.map_nil, hs, hx, hrun]
  exact h
theorem VRow.one {w : World} {g : Nat} {x : Sv.V} (h : w.heap[g]? = some (.cells #[.int .i64 x.a, .int .i64 x.b, .int .i64 x.c] 23 (0, 0))) : VRow w (.slice (some ⟨g, 0, none⟩) 1 1) [x] := by
  refine ⟨_, 1, rfl, fun i y hy => ⟨g, 0, rfl, ?_⟩⟩
  match i, hy with
  | 0, hy =>
    cases hy
    exact ⟨hb_at h 0 rfl, hb_at h 1 rfl, hb_at h 2 rfl⟩
  | i + 1, hy => simp at hy
theorem VRow.take {w : World} {q : Option Addr} {c k : Nat} {l : List Sv.V} (h : ∀ i x, l[i]? = some x → ∃ b o, q = some ⟨b, o, none⟩ ∧ VAt w b (o + i * 3) x) (hk : k ≤ l.length) : VRow w (.slice q k c) (l.take k) := by
  refine ⟨q, c, by rw [List.length_take, Nat.min_eq_left hk], fun i x hx => ?_⟩
  rw [List.getElem?_take] at hx
  split at hx
  · exact h i x hx
  · cases hx
end Go.Proofs.Ytmgnbpgcbehidaa
