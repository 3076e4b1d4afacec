/- Lists of terms that are made out of terms that were there, and new ones. -/
import Derived.Test.YthcpmdgdbceeiaaGreatDoorUg
namespace Go.Proofs.YthcpmdgdbceeiaaGreatDoor
open Go.RowKit
theorem oper_append_at {T : TypeId} {w w' : World} {o : Oper} {a : Act} {K : Act → World → Prop} {Q : Exit → Act → World → Prop} (s x : Operand)
    (ho : o.op = .call { callee := .builtin .append, args := #[s, x], argTypes := #[T, T] }) (hty : o.type = T) {v vx v' : Value} (hs : a.eval s = v) (hx : a.eval x = vx)
    (hrun : (Builtin.append_ #[T, T] T #[v, vx]).run Tryz.prog w = .ok v' w') (h : K (a.put o.dst v') w') : Oper.wp Tryz.prog o a w K Q := by
  unfold Oper.wp execOp
  simp only [ho, hty, resolve, invoke, builtin, Sem.run_bind, Sem.run_pure, Result.andThen_ok, List.map_toArray, List.map_cons, List.map_nil, hs, hx, hrun]
  exact h
theorem wpList_append_at {T : TypeId} {w w' : World} {ops : Array Oper} {rest : List Oper} {o : Oper} {a : Act} {Q : Exit → Act → World → Prop} (hg : o.guard = none) (s x : Operand)
    (ho : o.op = .call { callee := .builtin .append, args := #[s, x], argTypes := #[T, T] }) (hty : o.type = T) {v vx v' : Value} (hs : a.eval s = v) (hx : a.eval x = vx)
    (hrun : (Builtin.append_ #[T, T] T #[v, vx]).run Tryz.prog w = .ok v' w') (h : wpList Tryz.prog ops Q rest (a.put o.dst v') w') : wpList Tryz.prog ops Q (o :: rest) a w := by
  have hw : Region.wanted o (yielded ops a.tmps) = true := by simp [Region.wanted, hg]
  unfold wpList
  rw [if_pos hw]
  exact .inl (oper_append_at s x ho hty hs hx hrun h)
/-- What a list of terms that is being made holds, the terms out of old blocks and new ones. -/
def MadeB (B0 base : Nat) (w : World) (d : Nat) (sv : Value) (done : List Tm) : Prop :=
  ∃ l : List T5, l.length = done.length ∧ w.ownsRow base 24 5 sv l.length (flatC l) ∧ ∀ (i : Nat) (x : Tm), done[i]? = some x → ∃ t : T5, l[i]? = some t ∧ IsX (fun b => (b < B0 ∨ base ≤ b) ∧ some b ≠ sv.ownBlock) w d (t5v t) x
theorem MadeB.nil (B0 base : Nat) (w : World) (d : Nat) : MadeB B0 base w d (.slice none 0 0) [] := ⟨[], rfl, World.ownsRow_nil _ _ _ _, fun i x h => by simp at h⟩
theorem MadeB.shape {B0 base : Nat} {w : World} {d : Nat} {sv : Value} {done : List Tm} (h : MadeB B0 base w d sv done) : ∃ q c, sv = .slice q done.length c := by
  obtain ⟨l, hl, ho, _⟩ := h
  rcases ho.2 with ⟨rfl, h0⟩ | ⟨g, cap, cur, rfl, _⟩
  · exact ⟨none, 0, by rw [← hl, h0]⟩
  · exact ⟨_, _, by rw [hl]⟩
theorem MadeB.move {B0 base : Nat} {w w' : World} {d : Nat} {sv : Value} {done : List Tm} (h : MadeB B0 base w d sv done) (hw : ∀ b, (b < B0 ∨ base ≤ b) → b < w.heap.size → w'.heap[b]? = w.heap[b]?) : MadeB B0 base w' d sv done := by
  obtain ⟨l, hl, ho, hd⟩ := h
  refine ⟨l, hl, own_kept ho fun g x hg hx => ?_, fun i x hx => ?_⟩
  · have := ho.lt g hg
    rw [hw g (.inr this.1) this.2]; exact hx
  · obtain ⟨t, h1, h2⟩ := hd i x hx
    exact ⟨t, h1, h2.move fun b hX hb => ⟨hX, hw b hX.1 hb⟩⟩
theorem MadeB.append {B0 base : Nat} {w wq : World} {d : Nat} {sv : Value} {done : List Tm} {x : Tm} {g : Nat} {k N : Int} {p n : ByteArray} {q : Option Addr} {ln c : Nat} (h : MadeB B0 base w d sv done) (hB : B0 ≤ base) (hbase : base ≤ w.heap.size) (hb : Below w.heap.size w wq)
    (hx : IsX (fun b => b < B0 ∨ w.heap.size ≤ b) wq d (tv k p n N (.slice q ln c)) x) (hg : wq.heap[g]? = some (.cells #[.int .i64 k, .string p, .string n, .int .i64 N, .slice q ln c] 24 (0, 0))) (cc : Nat) (hn : done.length ≤ 100000) :
    ∃ v' w', (Builtin.append_ #[22, 22] 22 #[sv, .slice (some ⟨g, 0, none⟩) 1 cc]).run Tryz.prog wq = .ok v' w' ∧ MadeB B0 base w' d v' (done ++ [x]) ∧ Below base wq w' := by
  obtain ⟨l, hl, ho, hd⟩ := h
  have hlt := ho.lt
  have hsz := hb.size
  obtain ⟨v', w', hr, h2, hgr, hblk⟩ := append_t wq base sv l (own_below ho hb) g 0 (TAt.of_block hg rfl rfl rfl rfl rfl) cc (by omega) (by omega)
  refine ⟨v', w', hr, ⟨l ++ [(k, p, n, N, Value.slice q ln c)], by simp [hl], h2, fun i y hy => ?_⟩, (Below.refl _ wq).grown hgr (by omega) (fun j hj => (hlt j hj).1)⟩
  rw [List.getElem?_append] at hy
  split at hy
  · rename_i hi
    obtain ⟨t, h3, h4⟩ := hd i y hy
    refine ⟨t, by rw [List.getElem?_append_left (by omega)]; exact h3, ?_⟩
    refine h4.move fun b hX hl2 => ⟨⟨hX.1, fun e => ?_⟩, by rw [hgr.block b (by omega) hX.2, hb.block b hl2]⟩
    rcases hblk with h | h
    · exact hX.2 (e.trans h)
    · rw [h] at e; have := Option.some.inj e; omega
  · rename_i hi
    have hi2 : i - done.length = 0 := by
      have := (List.getElem?_eq_some_iff.1 hy).1
      simp at this
      omega
    rw [hi2] at hy
    obtain rfl : x = y := by simpa using hy
    have hil : i = l.length := by omega
    refine ⟨_, by rw [hil]; exact List.getElem?_concat_length, ?_⟩
    have hne : ∀ b, (b < B0 ∨ w.heap.size ≤ b) → some b ≠ sv.ownBlock := fun b hX e => by have := hlt b e.symm; omega
    refine hx.move fun b hX hl2 => ⟨⟨by omega, fun e => ?_⟩, by rw [hgr.block b hl2 (hne b hX)]⟩
    rcases hblk with h | h
    · exact hne b hX (e.trans h)
    · rw [h] at e; have := Option.some.inj e; omega
theorem MadeB.all {B0 base : Nat} {w w' : World} {d : Nat} {sv : Value} {kids : List Tm} (h : MadeB B0 base w d sv kids) (hk : kids.length ≤ maxLen) (hw : ∀ b, (b < B0 ∨ base ≤ b) → w'.heap[b]? = w.heap[b]?) : KidsX (fun b => b < B0 ∨ base ≤ b) w' d sv kids := by
  obtain ⟨l, hl, ho, hd⟩ := h
  obtain ⟨hfl, ⟨rfl, h0⟩ | ⟨g, cap, cur, rfl, hbg, hh, _, _, _, htk⟩⟩ := ho
  · have : kids = [] := List.eq_nil_of_length_eq_zero (by omega)
    subst this
    exact ⟨none, 0, rfl, hk, fun i x h => by simp at h⟩
  · refine ⟨some ⟨g, 0, none⟩, cap, by rw [hl], hk, fun i x hx => ?_⟩
    obtain ⟨t, h1, h2⟩ := hd i x hx
    have hi : i < l.length := (List.getElem?_eq_some_iff.1 h1).1
    have hcell : ∀ j (hj : j < 5), w'.cell? ⟨g, 0 + i * 5 + j, none⟩ = (flatC l)[i * 5 + j]? := fun j hj => by
      have h3 : w'.cell? ⟨g, 0 + i * 5 + j, none⟩ = cur[0 + i * 5 + j]? := by
        have hh2 : w'.heap[g]? = some (.cells cur 24 (0, 0)) := by rw [hw g (.inr hbg), hh]
        exact hb_cell hh2 _
      rw [h3, ← htk, List.getElem?_take, if_pos (by omega), Array.getElem?_toList, Nat.zero_add]
    have hflat : ∀ j (hj : j < 5), (flatC l)[i * 5 + j]? = [Value.int .i64 t.1, .string t.2.1, .string t.2.2.1, .int .i64 t.2.2.2.1, t.2.2.2.2][j]? := fun j hj => by
      have e : l = l.take i ++ t :: l.drop (i + 1) := by
        have h4 := List.getElem?_eq_some_iff.1 h1
        rw [← h4.2, ← List.drop_eq_getElem_cons hi, List.take_append_drop]
      have e2 : flatC l = flatC (l.take i) ++ ([Value.int .i64 t.1, .string t.2.1, .string t.2.2.1, .int .i64 t.2.2.2.1, t.2.2.2.2] ++ flatC (l.drop (i + 1))) := by
        conv => lhs; rw [e]
        simp [flatC]
      have hlen : (flatC (l.take i)).length = i * 5 := by rw [flatC_length, List.length_take, Nat.min_eq_left (by omega)]
      rw [e2, List.getElem?_append_right (by omega), hlen, Nat.add_sub_cancel_left, List.getElem?_append_left (by simpa using hj)]
    refine ⟨g, 0, t.1, t.2.1, t.2.2.1, t.2.2.2.1, t.2.2.2.2, rfl, .inr hbg, ⟨?_, ?_, ?_, ?_, ?_⟩, h2.move fun b hX _ => ⟨hX.1, hw b hX.1⟩⟩
    · have := hcell 0 (by decide); rw [hflat 0 (by decide)] at this; exact this
    · have := hcell 1 (by decide); rw [hflat 1 (by decide)] at this; exact this
    · have := hcell 2 (by decide); rw [hflat 2 (by decide)] at this; exact this
    · have := hcell 3 (by decide); rw [hflat 3 (by decide)] at this; exact this
    · have := hcell 4 (by decide); rw [hflat 4 (by decide)] at this; exact this
end Go.Proofs.YthcpmdgdbceeiaaGreatDoor
