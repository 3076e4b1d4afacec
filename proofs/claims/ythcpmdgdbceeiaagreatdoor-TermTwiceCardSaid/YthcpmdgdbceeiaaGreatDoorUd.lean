/- An append of a slice of texts to a row of the call's own. -/
import Derived.Test.YthcpmdgdbceeiaaGreatDoorUb
import Derived.Test.YthcpmdgdbceeiaaGreatDoorU1
import Derived.Maps.AppendAt
namespace Go.Proofs.YthcpmdgdbceeiaaGreatDoor
open Go.RowKit
theorem grown_refl (w : World) (row : Option Nat) : w.grownBy w row := ⟨rfl, rfl, rfl, Nat.le_refl _, fun _ _ _ => rfl⟩
theorem append_s (w : World) (base : Nat) (v vx : Value) (xs l : List ByteArray) (hown : w.ownsRow base 9 1 v xs.length (xs.map .string)) (hr : SRow w vx l) (hn : xs.length + l.length ≤ 200000) (hbase : base ≤ w.heap.size) :
    ∃ v' w', (Builtin.append_ #[29, 29] 29 #[v, vx]).run Tryz.prog w = .ok v' w' ∧ w'.ownsRow base 9 1 v' (xs ++ l).length ((xs ++ l).map .string) ∧ w.grownBy w' v.ownBlock ∧ (v'.ownBlock = v.ownBlock ∨ v'.ownBlock = some w.heap.size) := by
  obtain ⟨i0, hi, hz0, hz1, hz2⟩ := info_parts info9
  obtain ⟨q, c, rfl, hx⟩ := hr
  rw [List.length_append, List.map_append]
  cases q with
  | none =>
    have hl : l = [] := by
      cases l with
      | nil => rfl
      | cons y l => obtain ⟨b, h, _⟩ := hx 0 y rfl; cases h
    subst hl
    refine ⟨v, w, ?_, by simpa using hown, grown_refl _ _, .inl rfl⟩
    rcases hown.2 with ⟨rfl, _⟩ | ⟨g, cap, cur, rfl, _, _, hnc, _⟩
    · simp [Builtin.append_, run_underlying Tryz.underlying29, sizeOf, typeInfo, hi, Builtin.lenOf, Builtin.firstCells]
    · simp [Builtin.append_, run_underlying Tryz.underlying29, sizeOf, typeInfo, hi, Builtin.lenOf, Builtin.firstCells, hnc, storeCells]
  | some ad =>
    have hcells : ∀ j u, (l.map Value.string)[j]? = some u → w.cell? (ad.add j) = some u := by
      intro j u hu
      rw [List.getElem?_map] at hu
      cases hj : l[j]? with
      | none => rw [hj] at hu; cases hu
      | some s =>
        rw [hj] at hu
        cases hu
        obtain ⟨g2, e, h2⟩ := hx j s hj
        cases e
        rw [add_zero_none]
        exact h2
    obtain ⟨v', w', h1, h2, h3, _, h5⟩ := run_append_own_at (P := Tryz.prog) w base 29 29 9 i0 _ 1 16 Tryz.underlying29 hi hz0 hz1 hz2 rfl (by decide) v xs.length (xs.map .string) hown ad l.length c (l.map .string) (by simp) hcells
      (fun u hu => by
        rw [List.mem_map] at hu
        obtain ⟨y, _, rfl⟩ := hu
        rfl)
      (by unfold maxLen; omega) (by omega) hbase
    exact ⟨v', w', h1, h2, h3, h5⟩
/-- What an append leaves, as the region's steps want it. -/
theorem append_step (w0 W : World) (v vx : Value) (xs l : List ByteArray) (hb : Below w0.heap.size w0 W) (hown : W.ownsRow w0.heap.size 9 1 v xs.length (xs.map .string)) (hr : SRow W vx l) (hn : xs.length + l.length ≤ 200000) :
    ∃ v' W', (Builtin.append_ #[29, 29] 29 #[v, vx]).run Tryz.prog W = .ok v' W' ∧ W'.ownsRow w0.heap.size 9 1 v' (xs ++ l).length ((xs ++ l).map .string) ∧ Below w0.heap.size w0 W' ∧ (∀ g x, W.heap[g]? = some x → v.ownBlock ≠ some g → W'.heap[g]? = some x) ∧ W.heap.size ≤ W'.heap.size ∧ (v'.ownBlock = v.ownBlock ∨ v'.ownBlock = some W.heap.size) := by
  obtain ⟨v', W', h1, h2, h3, h4⟩ := append_s W w0.heap.size v vx xs l hown hr hn hb.size
  refine ⟨v', W', h1, h2, hb.grown h3 hb.size (fun k hk => ?_), fun g x hx hne => hb_grown hx h3 (fun e => hne e.symm), h3.size, h4⟩
  rcases hown.2 with ⟨rfl, _⟩ | ⟨g, cap, cur, rfl, hg, _⟩
  · simp [Value.ownBlock] at hk
  · simp [Value.ownBlock] at hk; omega
theorem step_run_append {w w' : World} {ops : Array Oper} {o : Oper} {a : Act} {K : Act → World → Prop} {Q : Exit → Act → World → Prop} {E : Prop} (hgd : o.guard = none) (s x : Operand)
    (ho : o.op = .call { callee := .builtin .append, args := #[s, x], argTypes := #[29, 29] }) (hty : o.type = 29) {v vx v' : Value} (hs : a.eval s = v) (hx : a.eval x = vx)
    (hrun : (Builtin.append_ #[29, 29] 29 #[v, vx]).run Tryz.prog w = .ok v' w') (h : K (a.put o.dst v') w') : if Region.wanted o (yielded ops a.tmps) = true then Oper.wp Tryz.prog o a w K Q else E := by
  have hw : Region.wanted o (yielded ops a.tmps) = true := by simp [Region.wanted, hgd]
  rw [if_pos hw]
  unfold Oper.wp execOp
  simp only [ho, hty, resolve, invoke, builtin, Sem.run_bind, Sem.run_pure, Result.andThen_ok, List.map_toArray, List.map_cons, List.map_nil, hs, hx, hrun]
  exact h
theorem SRow.one {w : World} {g : Nat} {x : ByteArray} (h : w.heap[g]? = some (.cells #[.string x] 9 (0, 0))) : SRow w (.slice (some ⟨g, 0, none⟩) 1 1) [x] := by
  refine ⟨_, 1, rfl, fun i y hy => ⟨g, rfl, ?_⟩⟩
  match i, hy with
  | 0, hy => cases hy; exact hb_at h 0 rfl
  | i + 1, hy => simp at hy
end Go.Proofs.YthcpmdgdbceeiaaGreatDoor
