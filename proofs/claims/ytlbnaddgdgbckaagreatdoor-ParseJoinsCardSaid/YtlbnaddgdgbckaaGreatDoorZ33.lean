/- Texts in a row: Qd Qe. -/
import Derived.Test.YtlbnaddgdgbckaaGreatDoorZ32
/- A module in memory: five rows, which have no block in common. -/
namespace Go.Proofs.YtlbnaddgdgbckaaGreatDoor
open Go.RowKit
set_option linter.unusedSimpArgs false
set_option linter.unusedVariables false
theorem step_append {w w' : World} {ops : Array Oper} {o : Oper} {a : Act} {K : Act → World → Prop} {Q : Exit → Act → World → Prop} {E : Prop} {t : TypeId} (hgd : o.guard = none) (s x : Operand)
    (ho : o.op = .call { callee := .builtin .append, args := #[s, x], argTypes := #[t, t] }) (hty : o.type = t) {v vx v' : Value} (hs : a.eval s = v) (hx : a.eval x = vx)
    (hrun : (Builtin.append_ #[t, t] t #[v, vx]).run Tryz.prog w = .ok v' w') (h : K (a.put o.dst v') w') : if Region.wanted o (yielded ops a.tmps) = true then Oper.wp Tryz.prog o a w K Q else E := by
  have hw : Region.wanted o (yielded ops a.tmps) = true := by simp [Region.wanted, hgd]
  rw [if_pos hw]
  unfold Oper.wp execOp
  simp only [ho, hty, resolve, invoke, builtin, Sem.run_bind, Sem.run_pure, Result.andThen_ok, List.map_toArray, List.map_cons, List.map_nil, hs, hx, hrun]
  exact h
variable {α : Type}
/-- A row whose blocks lie in S. -/
def RowS (K : Mem α) (S : Nat → Prop) (w : World) (sv : Value) (l : List α) : Prop := (∀ g, sv.ownBlock = some g → S g) ∧
  ∃ cl : List (List Value), cl.length = l.length ∧ w.ownsRow 0 K.e K.size sv l.length cl.flatten ∧
    ∀ (i : Nat) (a : α), l[i]? = some a → ∃ cs : List Value, cl[i]? = some cs ∧ K.V (fun b => S b ∧ some b ≠ sv.ownBlock) w cs a
theorem RowS.nil (K : Mem α) (S : Nat → Prop) (w : World) : RowS K S w (.slice none 0 0) [] := ⟨(fun g h => by cases h), [], rfl, World.ownsRow_nil _ _ _ _, fun i a h => by simp at h⟩
theorem RowS.shape {K : Mem α} {S : Nat → Prop} {w : World} {sv : Value} {l : List α} (h : RowS K S w sv l) : ∃ q c, sv = .slice q l.length c := by
  obtain ⟨_, cl, hl, ho, _⟩ := h
  rcases ho.2 with ⟨rfl, h0⟩ | ⟨g, cap, cur, rfl, _⟩
  · exact ⟨none, 0, by rw [h0]⟩
  · exact ⟨_, _, rfl⟩
theorem RowS.move {K : Mem α} {S : Nat → Prop} {w w' : World} {sv : Value} {l : List α} (h : RowS K S w sv l) (hw : ∀ b, S b → w'.heap[b]? = w.heap[b]?) : RowS K S w' sv l := by
  obtain ⟨hs, cl, hl, ho, hd⟩ := h
  refine ⟨hs, cl, hl, own_kept ho fun g x hg hx => ?_, fun i a ha => ?_⟩
  · rw [hw g (hs g hg)]; exact hx
  · obtain ⟨cs, h1, h2⟩ := hd i a ha
    exact ⟨cs, h1, K.move (fun b hX hb => ⟨hX, hw b hX.1⟩) h2⟩
theorem RowS.toG {K : Mem α} {S : Nat → Prop} {w : World} {sv : Value} {l : List α} (h : RowS K S w sv l) {base : Nat} (hS : ∀ b, S b → base ≤ b) : RowG K base w sv l := by
  obtain ⟨hs, cl, hl, ⟨h1, h2⟩, hd⟩ := h
  refine ⟨cl, hl, ⟨h1, ?_⟩, fun i a ha => ?_⟩
  · rcases h2 with h2 | ⟨g, cap, cur, e1, e2, e3⟩
    · exact .inl h2
    · exact .inr ⟨g, cap, cur, e1, hS g (hs g (by rw [e1]; rfl)), e3⟩
  · obtain ⟨cs, e1, e2⟩ := hd i a ha
    exact ⟨cs, e1, K.move (fun b hX _ => ⟨⟨hS b hX.1, hX.2⟩, rfl⟩) e2⟩
set_option maxHeartbeats 1000000 in
/-- An append of one member, which was made behind w. -/
theorem RowS.append {K : Mem α} {S : Nat → Prop} {w wq : World} {sv : Value} {l : List α} {a0 : α} (h : RowS K S w sv l) (hS : ∀ b, S b → b < w.heap.size) (hsz : w.heap.size ≤ wq.heap.size) (hw : ∀ b, S b → wq.heap[b]? = w.heap[b]?)
    {g cc : Nat} {cs0 : List Value} (hc : ∀ j u, cs0[j]? = some u → wq.cell? ⟨g, j, none⟩ = some u) (hV : K.V (fun b => w.heap.size ≤ b) wq cs0 a0) (hn : l.length ≤ 100000) :
    ∃ q' c' w', (Builtin.append_ #[K.t, K.t] K.t #[sv, .slice (some ⟨g, 0, none⟩) 1 cc]).run Tryz.prog wq = .ok (.slice q' (l.length + 1) c') w' ∧ RowS K (fun b => S b ∨ (w.heap.size ≤ b ∧ b < w'.heap.size)) w' (.slice q' (l.length + 1) c') (l ++ [a0]) ∧ wq.grownBy w' sv.ownBlock := by
  have h' := h.move hw
  obtain ⟨hs, cl, hl, ho, hd⟩ := h'
  obtain ⟨z, hz, hzc⟩ := K.inf
  obtain ⟨i0, hi, hz0, hz1, hz2⟩ := info_parts hz
  have hlc := K.len hV
  have hfew := K.few
  have hpos := K.pos
  obtain ⟨v', w', h1, h2, h3, _, h5⟩ := run_append_own_at (P := Tryz.prog) wq 0 K.t K.t K.e i0 z K.size K.bytes K.und hi hz0 hz1 hz2 hzc K.pos sv l.length cl.flatten ho ⟨g, 0, none⟩ 1 cc cs0 (by rw [hlc]; omega)
    (fun j u hu => by rw [Addr.add_lit, Nat.zero_add]; exact hc j u hu)
    (fun u hu => K.one hV u hu)
    (by unfold maxLen; omega) (by have : (l.length + 1) * K.bytes ≤ 100001 * 1000 := Nat.mul_le_mul (by omega) hfew; omega) (by omega)
  have hflat : cl.flatten ++ cs0 = (cl ++ [cs0]).flatten := by simp
  have hgrow := h3.size
  have hrow : RowS K (fun b => S b ∨ (w.heap.size ≤ b ∧ b < w'.heap.size)) w' v' (l ++ [a0]) := by
    have hown : ∀ g, v'.ownBlock = some g → g < w'.heap.size := fun g hg => (World.ownsRow.lt h2 g hg).2
    refine ⟨fun k hk => ?_, cl ++ [cs0], by simp [hl], by rw [← hflat, List.length_append]; exact h2, fun i a ha => ?_⟩
    · rcases h5 with e | e
      · exact .inl (hs k (e ▸ hk))
      · have hk2 := hown k hk
        rw [e] at hk
        cases hk
        exact .inr ⟨hsz, hk2⟩
    · rw [List.getElem?_append] at ha
      split at ha
      · rename_i hi
        obtain ⟨cs, e1, e2⟩ := hd i a ha
        refine ⟨cs, by rw [List.getElem?_append_left (by omega)]; exact e1, K.move (fun b hX hb => ⟨⟨.inl hX.1, fun e => ?_⟩, by rw [h3.block b hb hX.2]⟩) e2⟩
        rcases h5 with h | h
        · exact hX.2 (e.trans h)
        · rw [h] at e; have := Option.some.inj e; omega
      · rename_i hi
        have hi0 : i - l.length = 0 := by
          have := (List.getElem?_eq_some_iff.1 ha).1
          simp at this
          omega
        rw [hi0] at ha
        obtain rfl : a0 = a := by simpa using ha
        have hne : ∀ b, w.heap.size ≤ b → some b ≠ sv.ownBlock := fun b hX e => by
          have := hS b (hs b e.symm)
          omega
        refine ⟨cs0, by rw [List.getElem?_append_right (by omega), hl, hi0]; rfl, K.move (fun b hX hb => ⟨⟨.inr ⟨hX, by omega⟩, fun e => ?_⟩, by rw [h3.block b hb (hne b hX)]⟩) hV⟩
        rcases h5 with h | h
        · exact hne b hX (e.trans h)
        · rw [h] at e; have := Option.some.inj e; omega
  obtain ⟨q', c', hv⟩ := hrow.shape
  rw [List.length_append] at hv
  subst hv
  exact ⟨q', c', w', h1, hrow, h3⟩
/-- The five rows of a module. -/
def ModR (base : Nat) (w : World) (v0 v1 v2 v3 v4 : Value) (m : Mod) : Prop := ∃ S : Nat → Nat → Prop, (∀ i b, S i b → base ≤ b ∧ b < w.heap.size) ∧ (∀ i j b, S i b → S j b → i = j) ∧
  RowS impK (S 0) w v0 m.im ∧ RowS tydK (S 1) w v1 m.ty ∧ RowS aliK (S 2) w v2 m.al ∧ RowS letIK (S 3) w v3 m.le ∧ RowS expK (S 4) w v4 m.ex
theorem ModR.nil (base : Nat) (w : World) : ModR base w (.slice none 0 0) (.slice none 0 0) (.slice none 0 0) (.slice none 0 0) (.slice none 0 0) ⟨[], [], [], [], []⟩ :=
  ⟨fun _ _ => False, fun _ _ h => h.elim, fun _ _ _ h => h.elim, RowS.nil _ _ _, RowS.nil _ _ _, RowS.nil _ _ _, RowS.nil _ _ _, RowS.nil _ _ _⟩
theorem ModR.move {base : Nat} {w w' : World} {v0 v1 v2 v3 v4 : Value} {m : Mod} (h : ModR base w v0 v1 v2 v3 v4 m) (hw : ∀ b, base ≤ b → b < w.heap.size → w'.heap[b]? = w.heap[b]?) (hz : w.heap.size ≤ w'.heap.size) : ModR base w' v0 v1 v2 v3 v4 m := by
  obtain ⟨S, h1, h2, r0, r1, r2, r3, r4⟩ := h
  have hm : ∀ i b, S i b → w'.heap[b]? = w.heap[b]? := fun i b hb => hw b (h1 i b hb).1 (h1 i b hb).2
  exact ⟨S, fun i b hb => ⟨(h1 i b hb).1, Nat.lt_of_lt_of_le (h1 i b hb).2 hz⟩, h2, r0.move (hm 0), r1.move (hm 1), r2.move (hm 2), r3.move (hm 3), r4.move (hm 4)⟩
theorem ModR.app0 {base : Nat} {w wq : World} {v0 v1 v2 v3 v4 : Value} {m : Mod} (h : ModR base w v0 v1 v2 v3 v4 m) (hbase : base ≤ w.heap.size) (hsz : w.heap.size ≤ wq.heap.size) (hw : ∀ b, base ≤ b → b < w.heap.size → wq.heap[b]? = w.heap[b]?) {g cc : Nat} {cs0 : List Value} {a0 : _}
    (hc : ∀ j u, cs0[j]? = some u → wq.cell? ⟨g, j, none⟩ = some u) (hV : impK.V (fun b => w.heap.size ≤ b) wq cs0 a0) (hn : m.im.length ≤ 100000) :
    ∃ q' c' w', (Builtin.append_ #[impK.t, impK.t] impK.t #[v0, .slice (some ⟨g, 0, none⟩) 1 cc]).run Tryz.prog wq = .ok (.slice q' (m.im.length + 1) c') w' ∧ ModR base w' (.slice q' (m.im.length + 1) c') v1 v2 v3 v4 { m with im := m.im ++ [a0] } ∧ wq.grownBy w' v0.ownBlock ∧ (∀ k, v0.ownBlock = some k → base ≤ k) := by
  obtain ⟨S, h1, h2, r0, r1, r2, r3, r4⟩ := h
  have hm : ∀ i b, S i b → wq.heap[b]? = w.heap[b]? := fun i b hb => hw b (h1 i b hb).1 (h1 i b hb).2
  obtain ⟨q', c', w', hrun, hrow, hg⟩ := r0.append (fun b hb => (h1 0 b hb).2) hsz (hm 0) hc hV hn
  have hk : ∀ j, j ≠ 0 → ∀ b, S j b → w'.heap[b]? = w.heap[b]? := fun j hj b hb => by
    rw [hg.block b (Nat.lt_of_lt_of_le (h1 j b hb).2 hsz) (fun e => hj (h2 j 0 b hb (r0.1 b e.symm))), hm j b hb]
  have hz := hg.size
  refine ⟨q', c', w', hrun, ⟨fun j b => if j = 0 then S 0 b ∨ (w.heap.size ≤ b ∧ b < w'.heap.size) else S j b, fun j b hb => ?_, fun j k b hj hk2 => ?_, hrow, (r1.move (hk 1 (by decide))), (r2.move (hk 2 (by decide))), (r3.move (hk 3 (by decide))), (r4.move (hk 4 (by decide)))⟩, hg, fun k hk3 => (h1 0 k (r0.1 k hk3)).1⟩
  · dsimp only at hb
    split at hb
    · rcases hb with hb | hb
      · exact ⟨(h1 0 b hb).1, by have := (h1 0 b hb).2; omega⟩
      · exact ⟨by omega, hb.2⟩
    · exact ⟨(h1 j b hb).1, by have := (h1 j b hb).2; omega⟩
  · dsimp only at hj hk2
    split at hj <;> split at hk2
    · omega
    · rename_i e1 e2
      rcases hj with hj | hj
      · exact absurd (h2 0 k b hj hk2).symm e2
      · exact absurd (h1 k b hk2).2 (by omega)
    · rename_i e1 e2
      rcases hk2 with hk2 | hk2
      · exact absurd (h2 j 0 b hj hk2) e1
      · exact absurd (h1 j b hj).2 (by omega)
    · exact h2 j k b hj hk2
theorem ModR.app1 {base : Nat} {w wq : World} {v0 v1 v2 v3 v4 : Value} {m : Mod} (h : ModR base w v0 v1 v2 v3 v4 m) (hbase : base ≤ w.heap.size) (hsz : w.heap.size ≤ wq.heap.size) (hw : ∀ b, base ≤ b → b < w.heap.size → wq.heap[b]? = w.heap[b]?) {g cc : Nat} {cs0 : List Value} {a0 : _}
    (hc : ∀ j u, cs0[j]? = some u → wq.cell? ⟨g, j, none⟩ = some u) (hV : tydK.V (fun b => w.heap.size ≤ b) wq cs0 a0) (hn : m.ty.length ≤ 100000) :
    ∃ q' c' w', (Builtin.append_ #[tydK.t, tydK.t] tydK.t #[v1, .slice (some ⟨g, 0, none⟩) 1 cc]).run Tryz.prog wq = .ok (.slice q' (m.ty.length + 1) c') w' ∧ ModR base w' v0 (.slice q' (m.ty.length + 1) c') v2 v3 v4 { m with ty := m.ty ++ [a0] } ∧ wq.grownBy w' v1.ownBlock ∧ (∀ k, v1.ownBlock = some k → base ≤ k) := by
  obtain ⟨S, h1, h2, r0, r1, r2, r3, r4⟩ := h
  have hm : ∀ i b, S i b → wq.heap[b]? = w.heap[b]? := fun i b hb => hw b (h1 i b hb).1 (h1 i b hb).2
  obtain ⟨q', c', w', hrun, hrow, hg⟩ := r1.append (fun b hb => (h1 1 b hb).2) hsz (hm 1) hc hV hn
  have hk : ∀ j, j ≠ 1 → ∀ b, S j b → w'.heap[b]? = w.heap[b]? := fun j hj b hb => by
    rw [hg.block b (Nat.lt_of_lt_of_le (h1 j b hb).2 hsz) (fun e => hj (h2 j 1 b hb (r1.1 b e.symm))), hm j b hb]
  have hz := hg.size
  refine ⟨q', c', w', hrun, ⟨fun j b => if j = 1 then S 1 b ∨ (w.heap.size ≤ b ∧ b < w'.heap.size) else S j b, fun j b hb => ?_, fun j k b hj hk2 => ?_, (r0.move (hk 0 (by decide))), hrow, (r2.move (hk 2 (by decide))), (r3.move (hk 3 (by decide))), (r4.move (hk 4 (by decide)))⟩, hg, fun k hk3 => (h1 1 k (r1.1 k hk3)).1⟩
  · dsimp only at hb
    split at hb
    · rcases hb with hb | hb
      · exact ⟨(h1 1 b hb).1, by have := (h1 1 b hb).2; omega⟩
      · exact ⟨by omega, hb.2⟩
    · exact ⟨(h1 j b hb).1, by have := (h1 j b hb).2; omega⟩
  · dsimp only at hj hk2
    split at hj <;> split at hk2
    · omega
    · rename_i e1 e2
      rcases hj with hj | hj
      · exact absurd (h2 1 k b hj hk2).symm e2
      · exact absurd (h1 k b hk2).2 (by omega)
    · rename_i e1 e2
      rcases hk2 with hk2 | hk2
      · exact absurd (h2 j 1 b hj hk2) e1
      · exact absurd (h1 j b hj).2 (by omega)
    · exact h2 j k b hj hk2
theorem ModR.app2 {base : Nat} {w wq : World} {v0 v1 v2 v3 v4 : Value} {m : Mod} (h : ModR base w v0 v1 v2 v3 v4 m) (hbase : base ≤ w.heap.size) (hsz : w.heap.size ≤ wq.heap.size) (hw : ∀ b, base ≤ b → b < w.heap.size → wq.heap[b]? = w.heap[b]?) {g cc : Nat} {cs0 : List Value} {a0 : _}
    (hc : ∀ j u, cs0[j]? = some u → wq.cell? ⟨g, j, none⟩ = some u) (hV : aliK.V (fun b => w.heap.size ≤ b) wq cs0 a0) (hn : m.al.length ≤ 100000) :
    ∃ q' c' w', (Builtin.append_ #[aliK.t, aliK.t] aliK.t #[v2, .slice (some ⟨g, 0, none⟩) 1 cc]).run Tryz.prog wq = .ok (.slice q' (m.al.length + 1) c') w' ∧ ModR base w' v0 v1 (.slice q' (m.al.length + 1) c') v3 v4 { m with al := m.al ++ [a0] } ∧ wq.grownBy w' v2.ownBlock ∧ (∀ k, v2.ownBlock = some k → base ≤ k) := by
  obtain ⟨S, h1, h2, r0, r1, r2, r3, r4⟩ := h
  have hm : ∀ i b, S i b → wq.heap[b]? = w.heap[b]? := fun i b hb => hw b (h1 i b hb).1 (h1 i b hb).2
  obtain ⟨q', c', w', hrun, hrow, hg⟩ := r2.append (fun b hb => (h1 2 b hb).2) hsz (hm 2) hc hV hn
  have hk : ∀ j, j ≠ 2 → ∀ b, S j b → w'.heap[b]? = w.heap[b]? := fun j hj b hb => by
    rw [hg.block b (Nat.lt_of_lt_of_le (h1 j b hb).2 hsz) (fun e => hj (h2 j 2 b hb (r2.1 b e.symm))), hm j b hb]
  have hz := hg.size
  refine ⟨q', c', w', hrun, ⟨fun j b => if j = 2 then S 2 b ∨ (w.heap.size ≤ b ∧ b < w'.heap.size) else S j b, fun j b hb => ?_, fun j k b hj hk2 => ?_, (r0.move (hk 0 (by decide))), (r1.move (hk 1 (by decide))), hrow, (r3.move (hk 3 (by decide))), (r4.move (hk 4 (by decide)))⟩, hg, fun k hk3 => (h1 2 k (r2.1 k hk3)).1⟩
  · dsimp only at hb
    split at hb
    · rcases hb with hb | hb
      · exact ⟨(h1 2 b hb).1, by have := (h1 2 b hb).2; omega⟩
      · exact ⟨by omega, hb.2⟩
    · exact ⟨(h1 j b hb).1, by have := (h1 j b hb).2; omega⟩
  · dsimp only at hj hk2
    split at hj <;> split at hk2
    · omega
    · rename_i e1 e2
      rcases hj with hj | hj
      · exact absurd (h2 2 k b hj hk2).symm e2
      · exact absurd (h1 k b hk2).2 (by omega)
    · rename_i e1 e2
      rcases hk2 with hk2 | hk2
      · exact absurd (h2 j 2 b hj hk2) e1
      · exact absurd (h1 j b hj).2 (by omega)
    · exact h2 j k b hj hk2
theorem ModR.app3 {base : Nat} {w wq : World} {v0 v1 v2 v3 v4 : Value} {m : Mod} (h : ModR base w v0 v1 v2 v3 v4 m) (hbase : base ≤ w.heap.size) (hsz : w.heap.size ≤ wq.heap.size) (hw : ∀ b, base ≤ b → b < w.heap.size → wq.heap[b]? = w.heap[b]?) {g cc : Nat} {cs0 : List Value} {a0 : _}
    (hc : ∀ j u, cs0[j]? = some u → wq.cell? ⟨g, j, none⟩ = some u) (hV : letIK.V (fun b => w.heap.size ≤ b) wq cs0 a0) (hn : m.le.length ≤ 100000) :
    ∃ q' c' w', (Builtin.append_ #[letIK.t, letIK.t] letIK.t #[v3, .slice (some ⟨g, 0, none⟩) 1 cc]).run Tryz.prog wq = .ok (.slice q' (m.le.length + 1) c') w' ∧ ModR base w' v0 v1 v2 (.slice q' (m.le.length + 1) c') v4 { m with le := m.le ++ [a0] } ∧ wq.grownBy w' v3.ownBlock ∧ (∀ k, v3.ownBlock = some k → base ≤ k) := by
  obtain ⟨S, h1, h2, r0, r1, r2, r3, r4⟩ := h
  have hm : ∀ i b, S i b → wq.heap[b]? = w.heap[b]? := fun i b hb => hw b (h1 i b hb).1 (h1 i b hb).2
  obtain ⟨q', c', w', hrun, hrow, hg⟩ := r3.append (fun b hb => (h1 3 b hb).2) hsz (hm 3) hc hV hn
  have hk : ∀ j, j ≠ 3 → ∀ b, S j b → w'.heap[b]? = w.heap[b]? := fun j hj b hb => by
    rw [hg.block b (Nat.lt_of_lt_of_le (h1 j b hb).2 hsz) (fun e => hj (h2 j 3 b hb (r3.1 b e.symm))), hm j b hb]
  have hz := hg.size
  refine ⟨q', c', w', hrun, ⟨fun j b => if j = 3 then S 3 b ∨ (w.heap.size ≤ b ∧ b < w'.heap.size) else S j b, fun j b hb => ?_, fun j k b hj hk2 => ?_, (r0.move (hk 0 (by decide))), (r1.move (hk 1 (by decide))), (r2.move (hk 2 (by decide))), hrow, (r4.move (hk 4 (by decide)))⟩, hg, fun k hk3 => (h1 3 k (r3.1 k hk3)).1⟩
  · dsimp only at hb
    split at hb
    · rcases hb with hb | hb
      · exact ⟨(h1 3 b hb).1, by have := (h1 3 b hb).2; omega⟩
      · exact ⟨by omega, hb.2⟩
    · exact ⟨(h1 j b hb).1, by have := (h1 j b hb).2; omega⟩
  · dsimp only at hj hk2
    split at hj <;> split at hk2
    · omega
    · rename_i e1 e2
      rcases hj with hj | hj
      · exact absurd (h2 3 k b hj hk2).symm e2
      · exact absurd (h1 k b hk2).2 (by omega)
    · rename_i e1 e2
      rcases hk2 with hk2 | hk2
      · exact absurd (h2 j 3 b hj hk2) e1
      · exact absurd (h1 j b hj).2 (by omega)
    · exact h2 j k b hj hk2
theorem ModR.app4 {base : Nat} {w wq : World} {v0 v1 v2 v3 v4 : Value} {m : Mod} (h : ModR base w v0 v1 v2 v3 v4 m) (hbase : base ≤ w.heap.size) (hsz : w.heap.size ≤ wq.heap.size) (hw : ∀ b, base ≤ b → b < w.heap.size → wq.heap[b]? = w.heap[b]?) {g cc : Nat} {cs0 : List Value} {a0 : _}
    (hc : ∀ j u, cs0[j]? = some u → wq.cell? ⟨g, j, none⟩ = some u) (hV : expK.V (fun b => w.heap.size ≤ b) wq cs0 a0) (hn : m.ex.length ≤ 100000) :
    ∃ q' c' w', (Builtin.append_ #[expK.t, expK.t] expK.t #[v4, .slice (some ⟨g, 0, none⟩) 1 cc]).run Tryz.prog wq = .ok (.slice q' (m.ex.length + 1) c') w' ∧ ModR base w' v0 v1 v2 v3 (.slice q' (m.ex.length + 1) c') { m with ex := m.ex ++ [a0] } ∧ wq.grownBy w' v4.ownBlock ∧ (∀ k, v4.ownBlock = some k → base ≤ k) := by
  obtain ⟨S, h1, h2, r0, r1, r2, r3, r4⟩ := h
  have hm : ∀ i b, S i b → wq.heap[b]? = w.heap[b]? := fun i b hb => hw b (h1 i b hb).1 (h1 i b hb).2
  obtain ⟨q', c', w', hrun, hrow, hg⟩ := r4.append (fun b hb => (h1 4 b hb).2) hsz (hm 4) hc hV hn
  have hk : ∀ j, j ≠ 4 → ∀ b, S j b → w'.heap[b]? = w.heap[b]? := fun j hj b hb => by
    rw [hg.block b (Nat.lt_of_lt_of_le (h1 j b hb).2 hsz) (fun e => hj (h2 j 4 b hb (r4.1 b e.symm))), hm j b hb]
  have hz := hg.size
  refine ⟨q', c', w', hrun, ⟨fun j b => if j = 4 then S 4 b ∨ (w.heap.size ≤ b ∧ b < w'.heap.size) else S j b, fun j b hb => ?_, fun j k b hj hk2 => ?_, (r0.move (hk 0 (by decide))), (r1.move (hk 1 (by decide))), (r2.move (hk 2 (by decide))), (r3.move (hk 3 (by decide))), hrow⟩, hg, fun k hk3 => (h1 4 k (r4.1 k hk3)).1⟩
  · dsimp only at hb
    split at hb
    · rcases hb with hb | hb
      · exact ⟨(h1 4 b hb).1, by have := (h1 4 b hb).2; omega⟩
      · exact ⟨by omega, hb.2⟩
    · exact ⟨(h1 j b hb).1, by have := (h1 j b hb).2; omega⟩
  · dsimp only at hj hk2
    split at hj <;> split at hk2
    · omega
    · rename_i e1 e2
      rcases hj with hj | hj
      · exact absurd (h2 4 k b hj hk2).symm e2
      · exact absurd (h1 k b hk2).2 (by omega)
    · rename_i e1 e2
      rcases hk2 with hk2 | hk2
      · exact absurd (h2 j 4 b hj hk2) e1
      · exact absurd (h1 j b hj).2 (by omega)
    · exact h2 j k b hj hk2
end Go.Proofs.YtlbnaddgdgbckaaGreatDoor
/- An item is read, and put to a module. -/
namespace Go.Proofs.YtlbnaddgdgbckaaGreatDoor
open Go.RowKit
set_option linter.unusedSimpArgs false
set_option linter.unusedVariables false
/-- Below the base all but two blocks are as they were. -/
def Frm (base r mb : Nat) (w w' : World) : Prop := w'.os = w.os ∧ w'.tape = w.tape ∧ w'.output = w.output ∧ w.heap.size ≤ w'.heap.size ∧ ∀ k, k < base → k ≠ r → k ≠ mb → w'.heap[k]? = w.heap[k]?
theorem Frm.of_rg {base r mb : Nat} {w w' : World} (h : Rg r w w') (hb : base ≤ w.heap.size) : Frm base r mb w w' := ⟨h.os, h.tape, h.output, h.size, fun k hk h1 _ => h.same (by omega) h1⟩
theorem Frm.trans {base r mb : Nat} {a b c : World} (h : Frm base r mb a b) (k : Frm base r mb b c) : Frm base r mb a c := by
  obtain ⟨h1, h2, h3, h4, h5⟩ := h
  obtain ⟨k1, k2, k3, k4, k5⟩ := k
  exact ⟨k1.trans h1, k2.trans h2, k3.trans h3, Nat.le_trans h4 k4, fun i hi h6 h7 => (k5 i hi h6 h7).trans (h5 i hi h6 h7)⟩
theorem Frm.grown {base r mb : Nat} {w w' : World} {row : Option Nat} (h : w.grownBy w' row) (hb : base ≤ w.heap.size) (hr : ∀ k, row = some k → base ≤ k) : Frm base r mb w w' :=
  ⟨h.os, h.tape, h.output, h.size, fun k hk _ _ => h.block k (by omega) (fun e => by have := hr k e.symm; omega)⟩
theorem Frm.set {base r mb : Nat} (w : World) (i : Nat) (v : Value) : Frm base r mb w (w.setCell ⟨mb, i, none⟩ v) := by
  have h := grown_set w ⟨mb, i, none⟩ v
  exact ⟨h.os, h.tape, h.output, h.size, fun k _ _ hk => Below.heap_setCell _ _ _ _ hk⟩
/-- A module in memory, in a box. -/
def ModAt (base mb : Nat) (w : World) (m : Mod) : Prop := ∃ v0 v1 v2 v3 v4, w.heap[mb]? = some (.cells #[v0, v1, v2, v3, v4] 29 (0, 0)) ∧ ModR base w v0 v1 v2 v3 v4 m
def Few (n : Nat) (m : Mod) : Prop := m.im.length ≤ n ∧ m.ty.length ≤ n ∧ m.al.length ≤ n ∧ m.le.length ≤ n ∧ m.ex.length ≤ n
def ItemR (base r E mb : Nat) (w : World) (S : Res Mod) (e : Ending) (w' : World) : Prop := Frm base r mb w w' ∧ match S with
  | .ok x => e = .returned (.tuple #[]) ∧ Rd r E w' x.2 ∧ ModAt base mb w' x.1
  | .error y => e = .panicked (flt y)
theorem imp_shape {w w' : World} {v : Value} {a : ImpT} (h : ItV impK mkI w w' v a) : v = .agg #[.string a.nm, .string a.pkg, .int .i64 a.v.a, .int .i64 a.v.b, .int .i64 a.v.c] ∧ impK.V (New w) w' [.string a.nm, .string a.pkg, .int .i64 a.v.a, .int .i64 a.v.b, .int .i64 a.v.c] a := by
  obtain ⟨cs, hv, h⟩ := h
  have hc := h.1
  subst hc
  exact ⟨hv, h⟩
theorem tyd_shape {w w' : World} {v : Value} {a : TyD} (h : ItV tydK mk3 w w' v a) : ∃ q l c q2 l2 c2, v = .agg #[.string a.n, .slice q l c, .slice q2 l2 c2] ∧ tydK.V (New w) w' [.string a.n, .slice q l c, .slice q2 l2 c2] a := by
  obtain ⟨cs, hv, h⟩ := h
  obtain ⟨p, c, hc, h1, ⟨q, k, e1, h2⟩, h3, ⟨q2, k2, e2, h4⟩, h5⟩ := h
  subst hc e1 e2
  exact ⟨q, _, k, q2, _, k2, hv, _, _, rfl, h1, ⟨q, k, rfl, h2⟩, h3, ⟨q2, k2, rfl, h4⟩, h5⟩
theorem ali_shape {w w' : World} {v : Value} {a : Ali} (h : ItV aliK mkT w w' v a) : ∃ q l c k pp nn N q2 l2 c2, v = .agg #[.string a.n, .slice q l c, .int .i64 k, .string pp, .string nn, .int .i64 N, .slice q2 l2 c2] ∧ aliK.V (New w) w' [.string a.n, .slice q l c, .int .i64 k, .string pp, .string nn, .int .i64 N, .slice q2 l2 c2] a := by
  obtain ⟨cs, hv, h⟩ := h
  obtain ⟨p, k, pp, nn, N, s, d, hc, h1, ⟨q, c, e1, h2⟩, h3, h4⟩ := h
  subst hc e1
  obtain ⟨_, _, _, _, q2, l2, c2, e⟩ := h4.shape
  cases e
  exact ⟨q, _, c, k, pp, nn, N, q2, l2, c2, hv, _, k, pp, nn, N, _, d, rfl, h1, ⟨q, c, rfl, h2⟩, h3, h4⟩
theorem letI_shape {w w' : World} {v : Value} {a : LetI} (h : ItV letIK mkT w w' v a) : ∃ q l c k pp nn N q2 l2 c2, v = .agg #[.string a.n, .slice q l c, .int .i64 k, .string pp, .string nn, .int .i64 N, .slice q2 l2 c2] ∧ letIK.V (New w) w' [.string a.n, .slice q l c, .int .i64 k, .string pp, .string nn, .int .i64 N, .slice q2 l2 c2] a := by
  obtain ⟨cs, hv, h⟩ := h
  obtain ⟨p, k, pp, nn, N, s, d, hc, h1, ⟨q, c, e1, h2⟩, h3, h4⟩ := h
  subst hc e1
  obtain ⟨_, _, _, _, q2, l2, c2, e⟩ := h4.shape
  cases e
  exact ⟨q, _, c, k, pp, nn, N, q2, l2, c2, hv, _, k, pp, nn, N, _, d, rfl, h1, ⟨q, c, rfl, h2⟩, h3, h4⟩
theorem exp_shape {w w' : World} {v : Value} {a : Exp} (h : ItV expK mk3 w w' v a) : ∃ q l c, v = .agg #[.bool a.ty, .string a.n, .slice q l c] ∧ expK.V (New w) w' [.bool a.ty, .string a.n, .slice q l c] a := by
  obtain ⟨cs, hv, h⟩ := h
  obtain ⟨p, hc, h1, ⟨q, k, e1, h2⟩, h3⟩ := h
  subst hc e1
  exact ⟨q, _, k, hv, _, rfl, h1, ⟨q, k, rfl, h2⟩, h3⟩
theorem setCell_sz (w : World) (a : Addr) (v : Value) : (w.setCell a v).heap.size = w.heap.size := by simp [World.setCell]
theorem Rd.setm {r E g : Nat} {w : World} {ts : Ts} (h : Rd r E w ts) (hr : r < g) (i : Nat) (v : Value) : Rd r E (w.setCell ⟨g, i, none⟩ v) ts := h.set_new hr i v
set_option maxRecDepth 100000 in
set_option maxHeartbeats 8000000 in
theorem item_any (r E mb base : Nat) (ts : Ts) (m : Mod) (w : World) (hR : Rd r E w ts) (hrm : r < mb) (hmb : mb < base) (hz0 : base ≤ w.heap.size) (hM : ModAt base mb w m) (hn : Few 100000 m) : Calls Tryz.prog 33 #[rp r, bp mb] w (ItemR base r E mb w (itemP E m ts)) := by
  have HR0 := Lib.hid hR
  have HG0 : RowKit.Hid (Rg r w w) := Lib.hid (Rg.refl r w)
  obtain ⟨S, hS⟩ : ∃ S, S = itemP E m ts := ⟨_, rfl⟩
  have HS0 := Lib.hid hS
  rw [← hS]
  unfold itemP at HS0
  obtain ⟨v0, v1, v2, v3, v4, hB, hM⟩ := hM
  have HB0 := Lib.hid hB
  have HM0 := Lib.hid hM
  obtain ⟨n0, n1, n2, n3, n4⟩ := hn
  have HN := Lib.hid (And.intro n0 (And.intro n1 (And.intro n2 (And.intro n3 n4))))
  clear hR hS hB hM n0 n1 n2 n3 n4
  have HK0 := Lib.hid (fun W hW => skipKey_any r E kImport ts W hW)
  have HK1 := Lib.hid (fun W hW => skipKey_any r E kType ts W hW)
  have HK2 := Lib.hid (fun W hW => skipKey_any r E kAlias ts W hW)
  have HK3 := Lib.hid (fun W hW => skipKey_any r E kLet ts W hW)
  have HK4 := Lib.hid (fun W hW => skipKey_any r E kExport ts W hW)
  cases hB0 : isB 7 kImport ts with
  | true =>
    have h := HS0.out
    rw [hB0, if_pos rfl] at h
    rw [hB0] at HK0
    have HS1 := Lib.hid h
    clear h HS0
    go_enter Tryz.func33, Tryz.ntmps33
    go_upto_region 2 with (first
        | (go_at_call 37; (with_reducible refine (HK0.out _ HR0.out).mono ?_); rintro e w1 ⟨rfl, hg, hr⟩; have HD1 := Lib.hid hg; have HG1 : RowKit.Hid (Rg r w w1) := Lib.hid (HG0.out.trans hg); have HR1 : RowKit.Hid (Rd r E w1 ts.tail) := Lib.hid hr; (have HB1 := Lib.hid (hg.keep HB0.out (by omega))); (have HM1 := Lib.hid (HM0.out.move (fun b hb hl => hg.same hl (by omega)) hg.size)); (have hz1 : base ≤ w1.heap.size := Nat.le_trans hz0 hg.size); clear hg hr))
    obtain ⟨b0, b1, b2, b3, b4, g0, g1, g2, g3, g4⟩ := box5 HB1.out
    have zb := hb_lt HB1.out
    refine wp_region_any (by kernel_rfl) ?_
    try (change wpAny _ _ _ _ _ _ _ (World.drew _))
    refine wpAny_take (i := 0) (v := ?_) rfl (by kernel_rfl) (by kernel_rfl) (by kernel_rfl) (fun _ _ _ h => h) (Or.inl ⟨by rfl, ?_⟩) ?_
    rotate_left
    · intro w
      go_simp
      first | done | with_reducible rfl
    refine wpAny_take (i := 1) (v := ?_) rfl (by kernel_rfl) (by kernel_rfl) (by kernel_rfl) (fun _ _ _ h => h) (Or.inl ⟨by rfl, ?_⟩) ?_
    rotate_left
    · intro w
      go_simp
      first | done | with_reducible rfl
    refine wpAny_take (i := 2) (v := ?_) rfl (by kernel_rfl) (by kernel_rfl) (by kernel_rfl) (fun _ _ _ h => h) (Or.inl ⟨by rfl, ?_⟩) ?_
    rotate_left
    · intro w
      go_simp
      first | done | with_reducible rfl
    refine wpAny_take (i := 3) (v := ?_) rfl (by kernel_rfl) (by kernel_rfl) (by kernel_rfl) (fun _ _ _ h => h) (Or.inl ⟨by rfl, ?_⟩) ?_
    rotate_left
    · intro w
      go_simp
      first | done | with_reducible rfl
    refine wpAny_take (i := 5) (v := ?_) rfl (by kernel_rfl) (by kernel_rfl) (by kernel_rfl) (fun _ _ _ h => h) (Or.inl ⟨by rfl, ?_⟩) ?_
    rotate_left
    · intro w
      go_simp
      first | done | with_reducible rfl
    refine wpAny_ready (rs := [4, 6]) (by kernel_rfl) (by simp) ?_
    refine AllReady.cons rfl (fun K hK => ?_) (AllReady.cons rfl (fun K hK => ?_) AllReady.nil)
    · go_simp
      refine hK _ _ ?_
      clear hK K
      refine wpAny_ready (rs := [6]) (by kernel_rfl) (by simp) ?_
      refine AllReady.cons rfl (fun K hK => ?_) AllReady.nil
      go_simp
      go_wp2_with (go_at_call 60; (with_reducible refine (imp_any r E _ _ (by first | exact HR1.out | exact HR1.out.alloc _ | exact (HR1.out.alloc _).alloc _ | exact ((HR1.out.alloc _).alloc _).alloc _ | exact HR1.out.upto (fun _ _ _ => rfl) | exact (HR1.out.alloc _).upto (fun _ _ _ => rfl))).mono ?_); rintro e w9 h9; rcases h9.step HS1.out with ⟨v, a9, ts9, rfl, hV, hR, hg, hS, hx⟩ | ⟨y, rfl, hg, hSE⟩; rotate_left; (have hg := (Rg.refl r w1).drew.trans hg); (have hGE : Frm base r mb w w9 := Frm.of_rg (HG1.out.trans hg) hz0; subst hSE; exact ⟨rfl, hGE, rfl⟩); (have hg := (Rg.refl r w1).drew.trans hg); obtain ⟨hv, hK0⟩ := imp_shape hV; subst hv; (have HR9 := Lib.hid hR); (have HS9 := Lib.hid hS); (have HG9 : RowKit.Hid (Rg r w w9) := Lib.hid (HG1.out.trans hg)); (have hs9 := hg.size); (have hz9 : w1.heap.size ≤ w9.heap.size := hs9); (have hB9 := hg.keep HB1.out (by omega)); (obtain ⟨q', c', w10, hrun, hM10, hgr, hbl⟩ := ModR.app0 (wq := w9.alloc (.cells #[.string a9.nm, .string a9.pkg, .int .i64 a9.v.a, .int .i64 a9.v.b, .int .i64 a9.v.c] 62)) (a0 := a9) (cs0 := [.string a9.nm, .string a9.pkg, .int .i64 a9.v.a, .int .i64 a9.v.b, .int .i64 a9.v.c]) (g := w9.heap.size) (cc := 1) HM1.out hz1 (by rw [World.size_alloc]; omega) (fun b hb hl => by rw [Below.heap_alloc _ _ _ (by omega)]; exact hg.same hl (by omega)) (fun jj u hu => by rw [hb_cell (hb_new _ _)]; simpa using hu) (impK.move (fun b hb hl => ⟨hb, Below.heap_alloc _ _ _ hl⟩) hK0) HN.out.1); (have HB10 := Lib.hid (hb_grown (hb_alloc hB9 _) hgr (fun e => by have := hbl _ e.symm; omega))); (have HR10 : RowKit.Hid (Rd r E w10 ts9) := Lib.hid ((hR.alloc _).grown hgr (fun k hk => by have := hbl k hk; omega))); (have HF10 : RowKit.Hid (Frm base r mb w w10) := Lib.hid ((Frm.of_rg ((HG1.out.trans hg).alloc _) hz0).trans (Frm.grown hgr (by rw [World.size_alloc]; omega) hbl))); (have HM10 := Lib.hid hM10); (have HRUN := Lib.hid hrun); obtain ⟨i0, i1, i2, i3, i4, j0, j1, j2, j3, j4⟩ := box5 hB9; have zb9 := hb_lt hB9; clear hR hS hg hx hgr hbl hM10 hrun hB9 hK0; obtain ⟨e0, e1, e2, e3, e4, f0, f1, f2, f3, f4⟩ := box5 HB10.out; have zt10 := hb_lt HB10.out)
      try (refine hK _ _ ?_; clear hK K)
      refine wpAny_ready (rs := [7]) (by kernel_rfl) (by simp) ?_
      refine AllReady.cons rfl (fun K hK => ?_) AllReady.nil
      go_simp
      refine hK _ _ ?_
      clear hK K
      refine wpAny_ready (rs := [8]) (by kernel_rfl) (by simp) ?_
      refine AllReady.cons rfl (fun K hK => ?_) AllReady.nil
      refine step_append (t := 23) rfl _ _ rfl rfl rfl rfl HRUN.out ?_
      refine hK _ _ ?_
      clear hK K
      refine wpAny_take (i := 9) (v := ?_) rfl (by kernel_rfl) (by kernel_rfl) (by kernel_rfl) (fun _ _ _ h => h) (Or.inl ⟨by rfl, ?_⟩) ?_
      rotate_left
      · intro w
        go_simp
        first | done | with_reducible rfl
      refine wpAny_take (i := 10) (v := ?_) rfl (by kernel_rfl) (by kernel_rfl) (by kernel_rfl) (fun _ _ _ h => h) (Or.inl ⟨by rfl, ?_⟩) ?_
      rotate_left
      · intro w
        go_simp
        first | done | with_reducible rfl
      refine wpAny_ready (rs := [11]) (by kernel_rfl) (by simp) ?_
      refine AllReady.cons rfl (fun K hK => ?_) AllReady.nil
      go_simp
      refine hK _ _ ?_
      clear hK K
      refine wpAny_done (by kernel_rfl) ?_ _
      go_wp2
      refine bodyPost_end (v := .tuple #[]) (by simp [results, Tryz.results33, go_sem]) rfl ⟨HF10.out.trans (Frm.set _ _ _), ?_⟩
      rw [HS9.out]
      exact ⟨rfl, HR10.out.setm hrm _ _, _, _, _, _, _, hb_set_same HB10.out 0 _, HM10.out.move (fun b hb _ => Below.heap_setCell _ _ _ _ (by show b ≠ mb; omega)) (by rw [setCell_sz]; exact Nat.le_refl _)⟩
    · go_simp
      go_wp2_with (go_at_call 60; (with_reducible refine (imp_any r E _ _ (by first | exact HR1.out | exact HR1.out.alloc _ | exact (HR1.out.alloc _).alloc _ | exact ((HR1.out.alloc _).alloc _).alloc _ | exact HR1.out.upto (fun _ _ _ => rfl) | exact (HR1.out.alloc _).upto (fun _ _ _ => rfl))).mono ?_); rintro e w9 h9; rcases h9.step HS1.out with ⟨v, a9, ts9, rfl, hV, hR, hg, hS, hx⟩ | ⟨y, rfl, hg, hSE⟩; rotate_left; (have hg := (Rg.refl r w1).drew.trans hg); (have hGE : Frm base r mb w w9 := Frm.of_rg (HG1.out.trans hg) hz0; subst hSE; exact ⟨rfl, hGE, rfl⟩); (have hg := (Rg.refl r w1).drew.trans hg); obtain ⟨hv, hK0⟩ := imp_shape hV; subst hv; (have HR9 := Lib.hid hR); (have HS9 := Lib.hid hS); (have HG9 : RowKit.Hid (Rg r w w9) := Lib.hid (HG1.out.trans hg)); (have hs9 := hg.size); (have hz9 : w1.heap.size ≤ w9.heap.size := hs9); (have hB9 := hg.keep HB1.out (by omega)); (obtain ⟨q', c', w10, hrun, hM10, hgr, hbl⟩ := ModR.app0 (wq := w9.alloc (.cells #[.string a9.nm, .string a9.pkg, .int .i64 a9.v.a, .int .i64 a9.v.b, .int .i64 a9.v.c] 62)) (a0 := a9) (cs0 := [.string a9.nm, .string a9.pkg, .int .i64 a9.v.a, .int .i64 a9.v.b, .int .i64 a9.v.c]) (g := w9.heap.size) (cc := 1) HM1.out hz1 (by rw [World.size_alloc]; omega) (fun b hb hl => by rw [Below.heap_alloc _ _ _ (by omega)]; exact hg.same hl (by omega)) (fun jj u hu => by rw [hb_cell (hb_new _ _)]; simpa using hu) (impK.move (fun b hb hl => ⟨hb, Below.heap_alloc _ _ _ hl⟩) hK0) HN.out.1); (have HB10 := Lib.hid (hb_grown (hb_alloc hB9 _) hgr (fun e => by have := hbl _ e.symm; omega))); (have HR10 : RowKit.Hid (Rd r E w10 ts9) := Lib.hid ((hR.alloc _).grown hgr (fun k hk => by have := hbl k hk; omega))); (have HF10 : RowKit.Hid (Frm base r mb w w10) := Lib.hid ((Frm.of_rg ((HG1.out.trans hg).alloc _) hz0).trans (Frm.grown hgr (by rw [World.size_alloc]; omega) hbl))); (have HM10 := Lib.hid hM10); (have HRUN := Lib.hid hrun); obtain ⟨i0, i1, i2, i3, i4, j0, j1, j2, j3, j4⟩ := box5 hB9; have zb9 := hb_lt hB9; clear hR hS hg hx hgr hbl hM10 hrun hB9 hK0; obtain ⟨e0, e1, e2, e3, e4, f0, f1, f2, f3, f4⟩ := box5 HB10.out; have zt10 := hb_lt HB10.out)
      try (refine hK _ _ ?_; clear hK K)
      refine wpAny_ready (rs := [4, 7]) (by kernel_rfl) (by simp) ?_
      refine AllReady.cons rfl (fun K hK => ?_) (AllReady.cons rfl (fun K hK => ?_) AllReady.nil)
      · go_simp
        refine hK _ _ ?_
        clear hK K
        refine wpAny_ready (rs := [7]) (by kernel_rfl) (by simp) ?_
        refine AllReady.cons rfl (fun K hK => ?_) AllReady.nil
        go_simp
        refine hK _ _ ?_
        clear hK K
        refine wpAny_ready (rs := [8]) (by kernel_rfl) (by simp) ?_
        refine AllReady.cons rfl (fun K hK => ?_) AllReady.nil
        refine step_append (t := 23) rfl _ _ rfl rfl rfl rfl HRUN.out ?_
        refine hK _ _ ?_
        clear hK K
        refine wpAny_take (i := 9) (v := ?_) rfl (by kernel_rfl) (by kernel_rfl) (by kernel_rfl) (fun _ _ _ h => h) (Or.inl ⟨by rfl, ?_⟩) ?_
        rotate_left
        · intro w
          go_simp
          first | done | with_reducible rfl
        refine wpAny_take (i := 10) (v := ?_) rfl (by kernel_rfl) (by kernel_rfl) (by kernel_rfl) (fun _ _ _ h => h) (Or.inl ⟨by rfl, ?_⟩) ?_
        rotate_left
        · intro w
          go_simp
          first | done | with_reducible rfl
        refine wpAny_ready (rs := [11]) (by kernel_rfl) (by simp) ?_
        refine AllReady.cons rfl (fun K hK => ?_) AllReady.nil
        go_simp
        refine hK _ _ ?_
        clear hK K
        refine wpAny_done (by kernel_rfl) ?_ _
        go_wp2
        refine bodyPost_end (v := .tuple #[]) (by simp [results, Tryz.results33, go_sem]) rfl ⟨HF10.out.trans (Frm.set _ _ _), ?_⟩
        rw [HS9.out]
        exact ⟨rfl, HR10.out.setm hrm _ _, _, _, _, _, _, hb_set_same HB10.out 0 _, HM10.out.move (fun b hb _ => Below.heap_setCell _ _ _ _ (by show b ≠ mb; omega)) (by rw [setCell_sz]; exact Nat.le_refl _)⟩
      · go_simp
        refine hK _ _ ?_
        clear hK K
        refine wpAny_ready (rs := [4]) (by kernel_rfl) (by simp) ?_
        refine AllReady.cons rfl (fun K hK => ?_) AllReady.nil
        go_simp
        refine hK _ _ ?_
        clear hK K
        refine wpAny_ready (rs := [8]) (by kernel_rfl) (by simp) ?_
        refine AllReady.cons rfl (fun K hK => ?_) AllReady.nil
        refine step_append (t := 23) rfl _ _ rfl rfl rfl rfl HRUN.out ?_
        refine hK _ _ ?_
        clear hK K
        refine wpAny_take (i := 9) (v := ?_) rfl (by kernel_rfl) (by kernel_rfl) (by kernel_rfl) (fun _ _ _ h => h) (Or.inl ⟨by rfl, ?_⟩) ?_
        rotate_left
        · intro w
          go_simp
          first | done | with_reducible rfl
        refine wpAny_take (i := 10) (v := ?_) rfl (by kernel_rfl) (by kernel_rfl) (by kernel_rfl) (fun _ _ _ h => h) (Or.inl ⟨by rfl, ?_⟩) ?_
        rotate_left
        · intro w
          go_simp
          first | done | with_reducible rfl
        refine wpAny_ready (rs := [11]) (by kernel_rfl) (by simp) ?_
        refine AllReady.cons rfl (fun K hK => ?_) AllReady.nil
        go_simp
        refine hK _ _ ?_
        clear hK K
        refine wpAny_done (by kernel_rfl) ?_ _
        go_wp2
        refine bodyPost_end (v := .tuple #[]) (by simp [results, Tryz.results33, go_sem]) rfl ⟨HF10.out.trans (Frm.set _ _ _), ?_⟩
        rw [HS9.out]
        exact ⟨rfl, HR10.out.setm hrm _ _, _, _, _, _, _, hb_set_same HB10.out 0 _, HM10.out.move (fun b hb _ => Below.heap_setCell _ _ _ _ (by show b ≠ mb; omega)) (by rw [setCell_sz]; exact Nat.le_refl _)⟩
  | false =>
    have h := HS0.out
    rw [hB0, if_neg (by decide)] at h
    rw [hB0] at HK0
    have HS1 := Lib.hid h
    clear h
    cases hB1 : isB 7 kType ts with
    | true =>
      have h := HS1.out
      rw [hB1, if_pos rfl] at h
      rw [hB1] at HK1
      have HS2 := Lib.hid h
      clear h HS0 HS1
      go_enter Tryz.func33, Tryz.ntmps33
      go_upto_region 4 with (first
          | (go_at_call 37; (with_reducible refine (HK0.out _ HR0.out).mono ?_); rintro e w1 ⟨rfl, hg, hr⟩; have HD1 := Lib.hid hg; have HG1 : RowKit.Hid (Rg r w w1) := Lib.hid (HG0.out.trans hg); have HR1 : RowKit.Hid (Rd r E w1 ts) := Lib.hid hr; (have HB1 := Lib.hid (hg.keep HB0.out (by omega))); (have HM1 := Lib.hid (HM0.out.move (fun b hb hl => hg.same hl (by omega)) hg.size)); (have hz1 : base ≤ w1.heap.size := Nat.le_trans hz0 hg.size); clear hg hr)
          | (go_at_call 37; (with_reducible refine (HK1.out _ HR1.out).mono ?_); rintro e w2 ⟨rfl, hg, hr⟩; have HD2 := Lib.hid hg; have HG2 : RowKit.Hid (Rg r w w2) := Lib.hid (HG1.out.trans hg); have HR2 : RowKit.Hid (Rd r E w2 ts.tail) := Lib.hid hr; (have HB2 := Lib.hid (hg.keep HB1.out (by omega))); (have HM2 := Lib.hid (HM1.out.move (fun b hb hl => hg.same hl (by omega)) hg.size)); (have hz2 : base ≤ w2.heap.size := Nat.le_trans hz1 hg.size); clear hg hr))
      obtain ⟨b0, b1, b2, b3, b4, g0, g1, g2, g3, g4⟩ := box5 HB2.out
      have zb := hb_lt HB2.out
      refine wp_region_any (by kernel_rfl) ?_
      try (change wpAny _ _ _ _ _ _ _ (World.drew _))
      refine wpAny_take (i := 0) (v := ?_) rfl (by kernel_rfl) (by kernel_rfl) (by kernel_rfl) (fun _ _ _ h => h) (Or.inl ⟨by rfl, ?_⟩) ?_
      rotate_left
      · intro w
        go_simp
        first | done | with_reducible rfl
      refine wpAny_take (i := 1) (v := ?_) rfl (by kernel_rfl) (by kernel_rfl) (by kernel_rfl) (fun _ _ _ h => h) (Or.inl ⟨by rfl, ?_⟩) ?_
      rotate_left
      · intro w
        go_simp
        first | done | with_reducible rfl
      refine wpAny_take (i := 2) (v := ?_) rfl (by kernel_rfl) (by kernel_rfl) (by kernel_rfl) (fun _ _ _ h => h) (Or.inl ⟨by rfl, ?_⟩) ?_
      rotate_left
      · intro w
        go_simp
        first | done | with_reducible rfl
      refine wpAny_take (i := 3) (v := ?_) rfl (by kernel_rfl) (by kernel_rfl) (by kernel_rfl) (fun _ _ _ h => h) (Or.inl ⟨by rfl, ?_⟩) ?_
      rotate_left
      · intro w
        go_simp
        first | done | with_reducible rfl
      refine wpAny_take (i := 5) (v := ?_) rfl (by kernel_rfl) (by kernel_rfl) (by kernel_rfl) (fun _ _ _ h => h) (Or.inl ⟨by rfl, ?_⟩) ?_
      rotate_left
      · intro w
        go_simp
        first | done | with_reducible rfl
      refine wpAny_ready (rs := [4, 6]) (by kernel_rfl) (by simp) ?_
      refine AllReady.cons rfl (fun K hK => ?_) (AllReady.cons rfl (fun K hK => ?_) AllReady.nil)
      · go_simp
        refine hK _ _ ?_
        clear hK K
        refine wpAny_ready (rs := [6]) (by kernel_rfl) (by simp) ?_
        refine AllReady.cons rfl (fun K hK => ?_) AllReady.nil
        go_simp
        go_wp2_with (go_at_call 61; (with_reducible refine (tyd_any r E _ _ (by first | exact HR2.out | exact HR2.out.alloc _ | exact (HR2.out.alloc _).alloc _ | exact ((HR2.out.alloc _).alloc _).alloc _ | exact HR2.out.upto (fun _ _ _ => rfl) | exact (HR2.out.alloc _).upto (fun _ _ _ => rfl))).mono ?_); rintro e w9 h9; rcases h9.step HS2.out with ⟨v, a9, ts9, rfl, hV, hR, hg, hS, hx⟩ | ⟨y, rfl, hg, hSE⟩; rotate_left; (have hg := (Rg.refl r w2).drew.trans hg); (have hGE : Frm base r mb w w9 := Frm.of_rg (HG2.out.trans hg) hz0; subst hSE; exact ⟨rfl, hGE, rfl⟩); (have hg := (Rg.refl r w2).drew.trans hg); obtain ⟨q, l, c, q2, l2, c2, hv, hK0⟩ := tyd_shape hV; subst hv; (have HR9 := Lib.hid hR); (have HS9 := Lib.hid hS); (have HG9 : RowKit.Hid (Rg r w w9) := Lib.hid (HG2.out.trans hg)); (have hs9 := hg.size); (have hz9 : w2.heap.size ≤ w9.heap.size := hs9); (have hB9 := hg.keep HB2.out (by omega)); (obtain ⟨q', c', w10, hrun, hM10, hgr, hbl⟩ := ModR.app1 (wq := w9.alloc (.cells #[.string a9.n, .slice q l c, .slice q2 l2 c2] 66)) (a0 := a9) (cs0 := [.string a9.n, .slice q l c, .slice q2 l2 c2]) (g := w9.heap.size) (cc := 1) HM2.out hz2 (by rw [World.size_alloc]; omega) (fun b hb hl => by rw [Below.heap_alloc _ _ _ (by omega)]; exact hg.same hl (by omega)) (fun jj u hu => by rw [hb_cell (hb_new _ _)]; simpa using hu) (tydK.move (fun b hb hl => ⟨hb, Below.heap_alloc _ _ _ hl⟩) hK0) HN.out.2.1); (have HB10 := Lib.hid (hb_grown (hb_alloc hB9 _) hgr (fun e => by have := hbl _ e.symm; omega))); (have HR10 : RowKit.Hid (Rd r E w10 ts9) := Lib.hid ((hR.alloc _).grown hgr (fun k hk => by have := hbl k hk; omega))); (have HF10 : RowKit.Hid (Frm base r mb w w10) := Lib.hid ((Frm.of_rg ((HG2.out.trans hg).alloc _) hz0).trans (Frm.grown hgr (by rw [World.size_alloc]; omega) hbl))); (have HM10 := Lib.hid hM10); (have HRUN := Lib.hid hrun); obtain ⟨i0, i1, i2, i3, i4, j0, j1, j2, j3, j4⟩ := box5 hB9; have zb9 := hb_lt hB9; clear hR hS hg hx hgr hbl hM10 hrun hB9 hK0; obtain ⟨e0, e1, e2, e3, e4, f0, f1, f2, f3, f4⟩ := box5 HB10.out; have zt10 := hb_lt HB10.out)
        try (refine hK _ _ ?_; clear hK K)
        refine wpAny_ready (rs := [7]) (by kernel_rfl) (by simp) ?_
        refine AllReady.cons rfl (fun K hK => ?_) AllReady.nil
        go_simp
        refine hK _ _ ?_
        clear hK K
        refine wpAny_ready (rs := [8]) (by kernel_rfl) (by simp) ?_
        refine AllReady.cons rfl (fun K hK => ?_) AllReady.nil
        refine step_append (t := 24) rfl _ _ rfl rfl rfl rfl HRUN.out ?_
        refine hK _ _ ?_
        clear hK K
        refine wpAny_take (i := 9) (v := ?_) rfl (by kernel_rfl) (by kernel_rfl) (by kernel_rfl) (fun _ _ _ h => h) (Or.inl ⟨by rfl, ?_⟩) ?_
        rotate_left
        · intro w
          go_simp
          first | done | with_reducible rfl
        refine wpAny_take (i := 10) (v := ?_) rfl (by kernel_rfl) (by kernel_rfl) (by kernel_rfl) (fun _ _ _ h => h) (Or.inl ⟨by rfl, ?_⟩) ?_
        rotate_left
        · intro w
          go_simp
          first | done | with_reducible rfl
        refine wpAny_ready (rs := [11]) (by kernel_rfl) (by simp) ?_
        refine AllReady.cons rfl (fun K hK => ?_) AllReady.nil
        go_simp
        refine hK _ _ ?_
        clear hK K
        refine wpAny_done (by kernel_rfl) ?_ _
        go_wp2
        refine bodyPost_end (v := .tuple #[]) (by simp [results, Tryz.results33, go_sem]) rfl ⟨HF10.out.trans (Frm.set _ _ _), ?_⟩
        rw [HS9.out]
        exact ⟨rfl, HR10.out.setm hrm _ _, _, _, _, _, _, hb_set_same HB10.out 1 _, HM10.out.move (fun b hb _ => Below.heap_setCell _ _ _ _ (by show b ≠ mb; omega)) (by rw [setCell_sz]; exact Nat.le_refl _)⟩
      · go_simp
        go_wp2_with (go_at_call 61; (with_reducible refine (tyd_any r E _ _ (by first | exact HR2.out | exact HR2.out.alloc _ | exact (HR2.out.alloc _).alloc _ | exact ((HR2.out.alloc _).alloc _).alloc _ | exact HR2.out.upto (fun _ _ _ => rfl) | exact (HR2.out.alloc _).upto (fun _ _ _ => rfl))).mono ?_); rintro e w9 h9; rcases h9.step HS2.out with ⟨v, a9, ts9, rfl, hV, hR, hg, hS, hx⟩ | ⟨y, rfl, hg, hSE⟩; rotate_left; (have hg := (Rg.refl r w2).drew.trans hg); (have hGE : Frm base r mb w w9 := Frm.of_rg (HG2.out.trans hg) hz0; subst hSE; exact ⟨rfl, hGE, rfl⟩); (have hg := (Rg.refl r w2).drew.trans hg); obtain ⟨q, l, c, q2, l2, c2, hv, hK0⟩ := tyd_shape hV; subst hv; (have HR9 := Lib.hid hR); (have HS9 := Lib.hid hS); (have HG9 : RowKit.Hid (Rg r w w9) := Lib.hid (HG2.out.trans hg)); (have hs9 := hg.size); (have hz9 : w2.heap.size ≤ w9.heap.size := hs9); (have hB9 := hg.keep HB2.out (by omega)); (obtain ⟨q', c', w10, hrun, hM10, hgr, hbl⟩ := ModR.app1 (wq := w9.alloc (.cells #[.string a9.n, .slice q l c, .slice q2 l2 c2] 66)) (a0 := a9) (cs0 := [.string a9.n, .slice q l c, .slice q2 l2 c2]) (g := w9.heap.size) (cc := 1) HM2.out hz2 (by rw [World.size_alloc]; omega) (fun b hb hl => by rw [Below.heap_alloc _ _ _ (by omega)]; exact hg.same hl (by omega)) (fun jj u hu => by rw [hb_cell (hb_new _ _)]; simpa using hu) (tydK.move (fun b hb hl => ⟨hb, Below.heap_alloc _ _ _ hl⟩) hK0) HN.out.2.1); (have HB10 := Lib.hid (hb_grown (hb_alloc hB9 _) hgr (fun e => by have := hbl _ e.symm; omega))); (have HR10 : RowKit.Hid (Rd r E w10 ts9) := Lib.hid ((hR.alloc _).grown hgr (fun k hk => by have := hbl k hk; omega))); (have HF10 : RowKit.Hid (Frm base r mb w w10) := Lib.hid ((Frm.of_rg ((HG2.out.trans hg).alloc _) hz0).trans (Frm.grown hgr (by rw [World.size_alloc]; omega) hbl))); (have HM10 := Lib.hid hM10); (have HRUN := Lib.hid hrun); obtain ⟨i0, i1, i2, i3, i4, j0, j1, j2, j3, j4⟩ := box5 hB9; have zb9 := hb_lt hB9; clear hR hS hg hx hgr hbl hM10 hrun hB9 hK0; obtain ⟨e0, e1, e2, e3, e4, f0, f1, f2, f3, f4⟩ := box5 HB10.out; have zt10 := hb_lt HB10.out)
        try (refine hK _ _ ?_; clear hK K)
        refine wpAny_ready (rs := [4, 7]) (by kernel_rfl) (by simp) ?_
        refine AllReady.cons rfl (fun K hK => ?_) (AllReady.cons rfl (fun K hK => ?_) AllReady.nil)
        · go_simp
          refine hK _ _ ?_
          clear hK K
          refine wpAny_ready (rs := [7]) (by kernel_rfl) (by simp) ?_
          refine AllReady.cons rfl (fun K hK => ?_) AllReady.nil
          go_simp
          refine hK _ _ ?_
          clear hK K
          refine wpAny_ready (rs := [8]) (by kernel_rfl) (by simp) ?_
          refine AllReady.cons rfl (fun K hK => ?_) AllReady.nil
          refine step_append (t := 24) rfl _ _ rfl rfl rfl rfl HRUN.out ?_
          refine hK _ _ ?_
          clear hK K
          refine wpAny_take (i := 9) (v := ?_) rfl (by kernel_rfl) (by kernel_rfl) (by kernel_rfl) (fun _ _ _ h => h) (Or.inl ⟨by rfl, ?_⟩) ?_
          rotate_left
          · intro w
            go_simp
            first | done | with_reducible rfl
          refine wpAny_take (i := 10) (v := ?_) rfl (by kernel_rfl) (by kernel_rfl) (by kernel_rfl) (fun _ _ _ h => h) (Or.inl ⟨by rfl, ?_⟩) ?_
          rotate_left
          · intro w
            go_simp
            first | done | with_reducible rfl
          refine wpAny_ready (rs := [11]) (by kernel_rfl) (by simp) ?_
          refine AllReady.cons rfl (fun K hK => ?_) AllReady.nil
          go_simp
          refine hK _ _ ?_
          clear hK K
          refine wpAny_done (by kernel_rfl) ?_ _
          go_wp2
          refine bodyPost_end (v := .tuple #[]) (by simp [results, Tryz.results33, go_sem]) rfl ⟨HF10.out.trans (Frm.set _ _ _), ?_⟩
          rw [HS9.out]
          exact ⟨rfl, HR10.out.setm hrm _ _, _, _, _, _, _, hb_set_same HB10.out 1 _, HM10.out.move (fun b hb _ => Below.heap_setCell _ _ _ _ (by show b ≠ mb; omega)) (by rw [setCell_sz]; exact Nat.le_refl _)⟩
        · go_simp
          refine hK _ _ ?_
          clear hK K
          refine wpAny_ready (rs := [4]) (by kernel_rfl) (by simp) ?_
          refine AllReady.cons rfl (fun K hK => ?_) AllReady.nil
          go_simp
          refine hK _ _ ?_
          clear hK K
          refine wpAny_ready (rs := [8]) (by kernel_rfl) (by simp) ?_
          refine AllReady.cons rfl (fun K hK => ?_) AllReady.nil
          refine step_append (t := 24) rfl _ _ rfl rfl rfl rfl HRUN.out ?_
          refine hK _ _ ?_
          clear hK K
          refine wpAny_take (i := 9) (v := ?_) rfl (by kernel_rfl) (by kernel_rfl) (by kernel_rfl) (fun _ _ _ h => h) (Or.inl ⟨by rfl, ?_⟩) ?_
          rotate_left
          · intro w
            go_simp
            first | done | with_reducible rfl
          refine wpAny_take (i := 10) (v := ?_) rfl (by kernel_rfl) (by kernel_rfl) (by kernel_rfl) (fun _ _ _ h => h) (Or.inl ⟨by rfl, ?_⟩) ?_
          rotate_left
          · intro w
            go_simp
            first | done | with_reducible rfl
          refine wpAny_ready (rs := [11]) (by kernel_rfl) (by simp) ?_
          refine AllReady.cons rfl (fun K hK => ?_) AllReady.nil
          go_simp
          refine hK _ _ ?_
          clear hK K
          refine wpAny_done (by kernel_rfl) ?_ _
          go_wp2
          refine bodyPost_end (v := .tuple #[]) (by simp [results, Tryz.results33, go_sem]) rfl ⟨HF10.out.trans (Frm.set _ _ _), ?_⟩
          rw [HS9.out]
          exact ⟨rfl, HR10.out.setm hrm _ _, _, _, _, _, _, hb_set_same HB10.out 1 _, HM10.out.move (fun b hb _ => Below.heap_setCell _ _ _ _ (by show b ≠ mb; omega)) (by rw [setCell_sz]; exact Nat.le_refl _)⟩
    | false =>
      have h := HS1.out
      rw [hB1, if_neg (by decide)] at h
      rw [hB1] at HK1
      have HS2 := Lib.hid h
      clear h
      cases hB2 : isB 7 kAlias ts with
      | true =>
        have h := HS2.out
        rw [hB2, if_pos rfl] at h
        rw [hB2] at HK2
        have HS3 := Lib.hid h
        clear h HS0 HS1 HS2
        go_enter Tryz.func33, Tryz.ntmps33
        go_upto_region 6 with (first
            | (go_at_call 37; (with_reducible refine (HK0.out _ HR0.out).mono ?_); rintro e w1 ⟨rfl, hg, hr⟩; have HD1 := Lib.hid hg; have HG1 : RowKit.Hid (Rg r w w1) := Lib.hid (HG0.out.trans hg); have HR1 : RowKit.Hid (Rd r E w1 ts) := Lib.hid hr; (have HB1 := Lib.hid (hg.keep HB0.out (by omega))); (have HM1 := Lib.hid (HM0.out.move (fun b hb hl => hg.same hl (by omega)) hg.size)); (have hz1 : base ≤ w1.heap.size := Nat.le_trans hz0 hg.size); clear hg hr)
            | (go_at_call 37; (with_reducible refine (HK1.out _ HR1.out).mono ?_); rintro e w2 ⟨rfl, hg, hr⟩; have HD2 := Lib.hid hg; have HG2 : RowKit.Hid (Rg r w w2) := Lib.hid (HG1.out.trans hg); have HR2 : RowKit.Hid (Rd r E w2 ts) := Lib.hid hr; (have HB2 := Lib.hid (hg.keep HB1.out (by omega))); (have HM2 := Lib.hid (HM1.out.move (fun b hb hl => hg.same hl (by omega)) hg.size)); (have hz2 : base ≤ w2.heap.size := Nat.le_trans hz1 hg.size); clear hg hr)
            | (go_at_call 37; (with_reducible refine (HK2.out _ HR2.out).mono ?_); rintro e w3 ⟨rfl, hg, hr⟩; have HD3 := Lib.hid hg; have HG3 : RowKit.Hid (Rg r w w3) := Lib.hid (HG2.out.trans hg); have HR3 : RowKit.Hid (Rd r E w3 ts.tail) := Lib.hid hr; (have HB3 := Lib.hid (hg.keep HB2.out (by omega))); (have HM3 := Lib.hid (HM2.out.move (fun b hb hl => hg.same hl (by omega)) hg.size)); (have hz3 : base ≤ w3.heap.size := Nat.le_trans hz2 hg.size); clear hg hr))
        obtain ⟨b0, b1, b2, b3, b4, g0, g1, g2, g3, g4⟩ := box5 HB3.out
        have zb := hb_lt HB3.out
        refine wp_region_any (by kernel_rfl) ?_
        try (change wpAny _ _ _ _ _ _ _ (World.drew _))
        refine wpAny_take (i := 0) (v := ?_) rfl (by kernel_rfl) (by kernel_rfl) (by kernel_rfl) (fun _ _ _ h => h) (Or.inl ⟨by rfl, ?_⟩) ?_
        rotate_left
        · intro w
          go_simp
          first | done | with_reducible rfl
        refine wpAny_take (i := 1) (v := ?_) rfl (by kernel_rfl) (by kernel_rfl) (by kernel_rfl) (fun _ _ _ h => h) (Or.inl ⟨by rfl, ?_⟩) ?_
        rotate_left
        · intro w
          go_simp
          first | done | with_reducible rfl
        refine wpAny_take (i := 2) (v := ?_) rfl (by kernel_rfl) (by kernel_rfl) (by kernel_rfl) (fun _ _ _ h => h) (Or.inl ⟨by rfl, ?_⟩) ?_
        rotate_left
        · intro w
          go_simp
          first | done | with_reducible rfl
        refine wpAny_take (i := 3) (v := ?_) rfl (by kernel_rfl) (by kernel_rfl) (by kernel_rfl) (fun _ _ _ h => h) (Or.inl ⟨by rfl, ?_⟩) ?_
        rotate_left
        · intro w
          go_simp
          first | done | with_reducible rfl
        refine wpAny_take (i := 5) (v := ?_) rfl (by kernel_rfl) (by kernel_rfl) (by kernel_rfl) (fun _ _ _ h => h) (Or.inl ⟨by rfl, ?_⟩) ?_
        rotate_left
        · intro w
          go_simp
          first | done | with_reducible rfl
        refine wpAny_ready (rs := [4, 6]) (by kernel_rfl) (by simp) ?_
        refine AllReady.cons rfl (fun K hK => ?_) (AllReady.cons rfl (fun K hK => ?_) AllReady.nil)
        · go_simp
          refine hK _ _ ?_
          clear hK K
          refine wpAny_ready (rs := [6]) (by kernel_rfl) (by simp) ?_
          refine AllReady.cons rfl (fun K hK => ?_) AllReady.nil
          go_simp
          go_wp2_with (go_at_call 62; (with_reducible refine (ali_any r E _ _ (by first | exact HR3.out | exact HR3.out.alloc _ | exact (HR3.out.alloc _).alloc _ | exact ((HR3.out.alloc _).alloc _).alloc _ | exact HR3.out.upto (fun _ _ _ => rfl) | exact (HR3.out.alloc _).upto (fun _ _ _ => rfl))).mono ?_); rintro e w9 h9; rcases h9.step HS3.out with ⟨v, a9, ts9, rfl, hV, hR, hg, hS, hx⟩ | ⟨y, rfl, hg, hSE⟩; rotate_left; (have hg := (Rg.refl r w3).drew.trans hg); (have hGE : Frm base r mb w w9 := Frm.of_rg (HG3.out.trans hg) hz0; subst hSE; exact ⟨rfl, hGE, rfl⟩); (have hg := (Rg.refl r w3).drew.trans hg); obtain ⟨q, l, c, k, pp, nn, N, q2, l2, c2, hv, hK0⟩ := ali_shape hV; subst hv; (have HR9 := Lib.hid hR); (have HS9 := Lib.hid hS); (have HG9 : RowKit.Hid (Rg r w w9) := Lib.hid (HG3.out.trans hg)); (have hs9 := hg.size); (have hz9 : w3.heap.size ≤ w9.heap.size := hs9); (have hB9 := hg.keep HB3.out (by omega)); (obtain ⟨q', c', w10, hrun, hM10, hgr, hbl⟩ := ModR.app2 (wq := w9.alloc (.cells #[.string a9.n, .slice q l c, .int .i64 k, .string pp, .string nn, .int .i64 N, .slice q2 l2 c2] 72)) (a0 := a9) (cs0 := [.string a9.n, .slice q l c, .int .i64 k, .string pp, .string nn, .int .i64 N, .slice q2 l2 c2]) (g := w9.heap.size) (cc := 1) HM3.out hz3 (by rw [World.size_alloc]; omega) (fun b hb hl => by rw [Below.heap_alloc _ _ _ (by omega)]; exact hg.same hl (by omega)) (fun jj u hu => by rw [hb_cell (hb_new _ _)]; simpa using hu) (aliK.move (fun b hb hl => ⟨hb, Below.heap_alloc _ _ _ hl⟩) hK0) HN.out.2.2.1); (have HB10 := Lib.hid (hb_grown (hb_alloc hB9 _) hgr (fun e => by have := hbl _ e.symm; omega))); (have HR10 : RowKit.Hid (Rd r E w10 ts9) := Lib.hid ((hR.alloc _).grown hgr (fun k hk => by have := hbl k hk; omega))); (have HF10 : RowKit.Hid (Frm base r mb w w10) := Lib.hid ((Frm.of_rg ((HG3.out.trans hg).alloc _) hz0).trans (Frm.grown hgr (by rw [World.size_alloc]; omega) hbl))); (have HM10 := Lib.hid hM10); (have HRUN := Lib.hid hrun); obtain ⟨i0, i1, i2, i3, i4, j0, j1, j2, j3, j4⟩ := box5 hB9; have zb9 := hb_lt hB9; clear hR hS hg hx hgr hbl hM10 hrun hB9 hK0; obtain ⟨e0, e1, e2, e3, e4, f0, f1, f2, f3, f4⟩ := box5 HB10.out; have zt10 := hb_lt HB10.out)
          try (refine hK _ _ ?_; clear hK K)
          refine wpAny_ready (rs := [7]) (by kernel_rfl) (by simp) ?_
          refine AllReady.cons rfl (fun K hK => ?_) AllReady.nil
          go_simp
          refine hK _ _ ?_
          clear hK K
          refine wpAny_ready (rs := [8]) (by kernel_rfl) (by simp) ?_
          refine AllReady.cons rfl (fun K hK => ?_) AllReady.nil
          refine step_append (t := 25) rfl _ _ rfl rfl rfl rfl HRUN.out ?_
          refine hK _ _ ?_
          clear hK K
          refine wpAny_take (i := 9) (v := ?_) rfl (by kernel_rfl) (by kernel_rfl) (by kernel_rfl) (fun _ _ _ h => h) (Or.inl ⟨by rfl, ?_⟩) ?_
          rotate_left
          · intro w
            go_simp
            first | done | with_reducible rfl
          refine wpAny_take (i := 10) (v := ?_) rfl (by kernel_rfl) (by kernel_rfl) (by kernel_rfl) (fun _ _ _ h => h) (Or.inl ⟨by rfl, ?_⟩) ?_
          rotate_left
          · intro w
            go_simp
            first | done | with_reducible rfl
          refine wpAny_ready (rs := [11]) (by kernel_rfl) (by simp) ?_
          refine AllReady.cons rfl (fun K hK => ?_) AllReady.nil
          go_simp
          refine hK _ _ ?_
          clear hK K
          refine wpAny_done (by kernel_rfl) ?_ _
          go_wp2
          refine bodyPost_end (v := .tuple #[]) (by simp [results, Tryz.results33, go_sem]) rfl ⟨HF10.out.trans (Frm.set _ _ _), ?_⟩
          rw [HS9.out]
          exact ⟨rfl, HR10.out.setm hrm _ _, _, _, _, _, _, hb_set_same HB10.out 2 _, HM10.out.move (fun b hb _ => Below.heap_setCell _ _ _ _ (by show b ≠ mb; omega)) (by rw [setCell_sz]; exact Nat.le_refl _)⟩
        · go_simp
          go_wp2_with (go_at_call 62; (with_reducible refine (ali_any r E _ _ (by first | exact HR3.out | exact HR3.out.alloc _ | exact (HR3.out.alloc _).alloc _ | exact ((HR3.out.alloc _).alloc _).alloc _ | exact HR3.out.upto (fun _ _ _ => rfl) | exact (HR3.out.alloc _).upto (fun _ _ _ => rfl))).mono ?_); rintro e w9 h9; rcases h9.step HS3.out with ⟨v, a9, ts9, rfl, hV, hR, hg, hS, hx⟩ | ⟨y, rfl, hg, hSE⟩; rotate_left; (have hg := (Rg.refl r w3).drew.trans hg); (have hGE : Frm base r mb w w9 := Frm.of_rg (HG3.out.trans hg) hz0; subst hSE; exact ⟨rfl, hGE, rfl⟩); (have hg := (Rg.refl r w3).drew.trans hg); obtain ⟨q, l, c, k, pp, nn, N, q2, l2, c2, hv, hK0⟩ := ali_shape hV; subst hv; (have HR9 := Lib.hid hR); (have HS9 := Lib.hid hS); (have HG9 : RowKit.Hid (Rg r w w9) := Lib.hid (HG3.out.trans hg)); (have hs9 := hg.size); (have hz9 : w3.heap.size ≤ w9.heap.size := hs9); (have hB9 := hg.keep HB3.out (by omega)); (obtain ⟨q', c', w10, hrun, hM10, hgr, hbl⟩ := ModR.app2 (wq := w9.alloc (.cells #[.string a9.n, .slice q l c, .int .i64 k, .string pp, .string nn, .int .i64 N, .slice q2 l2 c2] 72)) (a0 := a9) (cs0 := [.string a9.n, .slice q l c, .int .i64 k, .string pp, .string nn, .int .i64 N, .slice q2 l2 c2]) (g := w9.heap.size) (cc := 1) HM3.out hz3 (by rw [World.size_alloc]; omega) (fun b hb hl => by rw [Below.heap_alloc _ _ _ (by omega)]; exact hg.same hl (by omega)) (fun jj u hu => by rw [hb_cell (hb_new _ _)]; simpa using hu) (aliK.move (fun b hb hl => ⟨hb, Below.heap_alloc _ _ _ hl⟩) hK0) HN.out.2.2.1); (have HB10 := Lib.hid (hb_grown (hb_alloc hB9 _) hgr (fun e => by have := hbl _ e.symm; omega))); (have HR10 : RowKit.Hid (Rd r E w10 ts9) := Lib.hid ((hR.alloc _).grown hgr (fun k hk => by have := hbl k hk; omega))); (have HF10 : RowKit.Hid (Frm base r mb w w10) := Lib.hid ((Frm.of_rg ((HG3.out.trans hg).alloc _) hz0).trans (Frm.grown hgr (by rw [World.size_alloc]; omega) hbl))); (have HM10 := Lib.hid hM10); (have HRUN := Lib.hid hrun); obtain ⟨i0, i1, i2, i3, i4, j0, j1, j2, j3, j4⟩ := box5 hB9; have zb9 := hb_lt hB9; clear hR hS hg hx hgr hbl hM10 hrun hB9 hK0; obtain ⟨e0, e1, e2, e3, e4, f0, f1, f2, f3, f4⟩ := box5 HB10.out; have zt10 := hb_lt HB10.out)
          try (refine hK _ _ ?_; clear hK K)
          refine wpAny_ready (rs := [4, 7]) (by kernel_rfl) (by simp) ?_
          refine AllReady.cons rfl (fun K hK => ?_) (AllReady.cons rfl (fun K hK => ?_) AllReady.nil)
          · go_simp
            refine hK _ _ ?_
            clear hK K
            refine wpAny_ready (rs := [7]) (by kernel_rfl) (by simp) ?_
            refine AllReady.cons rfl (fun K hK => ?_) AllReady.nil
            go_simp
            refine hK _ _ ?_
            clear hK K
            refine wpAny_ready (rs := [8]) (by kernel_rfl) (by simp) ?_
            refine AllReady.cons rfl (fun K hK => ?_) AllReady.nil
            refine step_append (t := 25) rfl _ _ rfl rfl rfl rfl HRUN.out ?_
            refine hK _ _ ?_
            clear hK K
            refine wpAny_take (i := 9) (v := ?_) rfl (by kernel_rfl) (by kernel_rfl) (by kernel_rfl) (fun _ _ _ h => h) (Or.inl ⟨by rfl, ?_⟩) ?_
            rotate_left
            · intro w
              go_simp
              first | done | with_reducible rfl
            refine wpAny_take (i := 10) (v := ?_) rfl (by kernel_rfl) (by kernel_rfl) (by kernel_rfl) (fun _ _ _ h => h) (Or.inl ⟨by rfl, ?_⟩) ?_
            rotate_left
            · intro w
              go_simp
              first | done | with_reducible rfl
            refine wpAny_ready (rs := [11]) (by kernel_rfl) (by simp) ?_
            refine AllReady.cons rfl (fun K hK => ?_) AllReady.nil
            go_simp
            refine hK _ _ ?_
            clear hK K
            refine wpAny_done (by kernel_rfl) ?_ _
            go_wp2
            refine bodyPost_end (v := .tuple #[]) (by simp [results, Tryz.results33, go_sem]) rfl ⟨HF10.out.trans (Frm.set _ _ _), ?_⟩
            rw [HS9.out]
            exact ⟨rfl, HR10.out.setm hrm _ _, _, _, _, _, _, hb_set_same HB10.out 2 _, HM10.out.move (fun b hb _ => Below.heap_setCell _ _ _ _ (by show b ≠ mb; omega)) (by rw [setCell_sz]; exact Nat.le_refl _)⟩
          · go_simp
            refine hK _ _ ?_
            clear hK K
            refine wpAny_ready (rs := [4]) (by kernel_rfl) (by simp) ?_
            refine AllReady.cons rfl (fun K hK => ?_) AllReady.nil
            go_simp
            refine hK _ _ ?_
            clear hK K
            refine wpAny_ready (rs := [8]) (by kernel_rfl) (by simp) ?_
            refine AllReady.cons rfl (fun K hK => ?_) AllReady.nil
            refine step_append (t := 25) rfl _ _ rfl rfl rfl rfl HRUN.out ?_
            refine hK _ _ ?_
            clear hK K
            refine wpAny_take (i := 9) (v := ?_) rfl (by kernel_rfl) (by kernel_rfl) (by kernel_rfl) (fun _ _ _ h => h) (Or.inl ⟨by rfl, ?_⟩) ?_
            rotate_left
            · intro w
              go_simp
              first | done | with_reducible rfl
            refine wpAny_take (i := 10) (v := ?_) rfl (by kernel_rfl) (by kernel_rfl) (by kernel_rfl) (fun _ _ _ h => h) (Or.inl ⟨by rfl, ?_⟩) ?_
            rotate_left
            · intro w
              go_simp
              first | done | with_reducible rfl
            refine wpAny_ready (rs := [11]) (by kernel_rfl) (by simp) ?_
            refine AllReady.cons rfl (fun K hK => ?_) AllReady.nil
            go_simp
            refine hK _ _ ?_
            clear hK K
            refine wpAny_done (by kernel_rfl) ?_ _
            go_wp2
            refine bodyPost_end (v := .tuple #[]) (by simp [results, Tryz.results33, go_sem]) rfl ⟨HF10.out.trans (Frm.set _ _ _), ?_⟩
            rw [HS9.out]
            exact ⟨rfl, HR10.out.setm hrm _ _, _, _, _, _, _, hb_set_same HB10.out 2 _, HM10.out.move (fun b hb _ => Below.heap_setCell _ _ _ _ (by show b ≠ mb; omega)) (by rw [setCell_sz]; exact Nat.le_refl _)⟩
      | false =>
        have h := HS2.out
        rw [hB2, if_neg (by decide)] at h
        rw [hB2] at HK2
        have HS3 := Lib.hid h
        clear h
        cases hB3 : isB 7 kLet ts with
        | true =>
          have h := HS3.out
          rw [hB3, if_pos rfl] at h
          rw [hB3] at HK3
          have HS4 := Lib.hid h
          clear h HS0 HS1 HS2 HS3
          go_enter Tryz.func33, Tryz.ntmps33
          go_upto_region 8 with (first
              | (go_at_call 37; (with_reducible refine (HK0.out _ HR0.out).mono ?_); rintro e w1 ⟨rfl, hg, hr⟩; have HD1 := Lib.hid hg; have HG1 : RowKit.Hid (Rg r w w1) := Lib.hid (HG0.out.trans hg); have HR1 : RowKit.Hid (Rd r E w1 ts) := Lib.hid hr; (have HB1 := Lib.hid (hg.keep HB0.out (by omega))); (have HM1 := Lib.hid (HM0.out.move (fun b hb hl => hg.same hl (by omega)) hg.size)); (have hz1 : base ≤ w1.heap.size := Nat.le_trans hz0 hg.size); clear hg hr)
              | (go_at_call 37; (with_reducible refine (HK1.out _ HR1.out).mono ?_); rintro e w2 ⟨rfl, hg, hr⟩; have HD2 := Lib.hid hg; have HG2 : RowKit.Hid (Rg r w w2) := Lib.hid (HG1.out.trans hg); have HR2 : RowKit.Hid (Rd r E w2 ts) := Lib.hid hr; (have HB2 := Lib.hid (hg.keep HB1.out (by omega))); (have HM2 := Lib.hid (HM1.out.move (fun b hb hl => hg.same hl (by omega)) hg.size)); (have hz2 : base ≤ w2.heap.size := Nat.le_trans hz1 hg.size); clear hg hr)
              | (go_at_call 37; (with_reducible refine (HK2.out _ HR2.out).mono ?_); rintro e w3 ⟨rfl, hg, hr⟩; have HD3 := Lib.hid hg; have HG3 : RowKit.Hid (Rg r w w3) := Lib.hid (HG2.out.trans hg); have HR3 : RowKit.Hid (Rd r E w3 ts) := Lib.hid hr; (have HB3 := Lib.hid (hg.keep HB2.out (by omega))); (have HM3 := Lib.hid (HM2.out.move (fun b hb hl => hg.same hl (by omega)) hg.size)); (have hz3 : base ≤ w3.heap.size := Nat.le_trans hz2 hg.size); clear hg hr)
              | (go_at_call 37; (with_reducible refine (HK3.out _ HR3.out).mono ?_); rintro e w4 ⟨rfl, hg, hr⟩; have HD4 := Lib.hid hg; have HG4 : RowKit.Hid (Rg r w w4) := Lib.hid (HG3.out.trans hg); have HR4 : RowKit.Hid (Rd r E w4 ts.tail) := Lib.hid hr; (have HB4 := Lib.hid (hg.keep HB3.out (by omega))); (have HM4 := Lib.hid (HM3.out.move (fun b hb hl => hg.same hl (by omega)) hg.size)); (have hz4 : base ≤ w4.heap.size := Nat.le_trans hz3 hg.size); clear hg hr))
          obtain ⟨b0, b1, b2, b3, b4, g0, g1, g2, g3, g4⟩ := box5 HB4.out
          have zb := hb_lt HB4.out
          refine wp_region_any (by kernel_rfl) ?_
          try (change wpAny _ _ _ _ _ _ _ (World.drew _))
          refine wpAny_take (i := 0) (v := ?_) rfl (by kernel_rfl) (by kernel_rfl) (by kernel_rfl) (fun _ _ _ h => h) (Or.inl ⟨by rfl, ?_⟩) ?_
          rotate_left
          · intro w
            go_simp
            first | done | with_reducible rfl
          refine wpAny_take (i := 1) (v := ?_) rfl (by kernel_rfl) (by kernel_rfl) (by kernel_rfl) (fun _ _ _ h => h) (Or.inl ⟨by rfl, ?_⟩) ?_
          rotate_left
          · intro w
            go_simp
            first | done | with_reducible rfl
          refine wpAny_take (i := 2) (v := ?_) rfl (by kernel_rfl) (by kernel_rfl) (by kernel_rfl) (fun _ _ _ h => h) (Or.inl ⟨by rfl, ?_⟩) ?_
          rotate_left
          · intro w
            go_simp
            first | done | with_reducible rfl
          refine wpAny_take (i := 3) (v := ?_) rfl (by kernel_rfl) (by kernel_rfl) (by kernel_rfl) (fun _ _ _ h => h) (Or.inl ⟨by rfl, ?_⟩) ?_
          rotate_left
          · intro w
            go_simp
            first | done | with_reducible rfl
          refine wpAny_take (i := 5) (v := ?_) rfl (by kernel_rfl) (by kernel_rfl) (by kernel_rfl) (fun _ _ _ h => h) (Or.inl ⟨by rfl, ?_⟩) ?_
          rotate_left
          · intro w
            go_simp
            first | done | with_reducible rfl
          refine wpAny_ready (rs := [4, 6]) (by kernel_rfl) (by simp) ?_
          refine AllReady.cons rfl (fun K hK => ?_) (AllReady.cons rfl (fun K hK => ?_) AllReady.nil)
          · go_simp
            refine hK _ _ ?_
            clear hK K
            refine wpAny_ready (rs := [6]) (by kernel_rfl) (by simp) ?_
            refine AllReady.cons rfl (fun K hK => ?_) AllReady.nil
            go_simp
            go_wp2_with (go_at_call 63; (with_reducible refine (letI_any r E _ _ (by first | exact HR4.out | exact HR4.out.alloc _ | exact (HR4.out.alloc _).alloc _ | exact ((HR4.out.alloc _).alloc _).alloc _ | exact HR4.out.upto (fun _ _ _ => rfl) | exact (HR4.out.alloc _).upto (fun _ _ _ => rfl))).mono ?_); rintro e w9 h9; rcases h9.step HS4.out with ⟨v, a9, ts9, rfl, hV, hR, hg, hS, hx⟩ | ⟨y, rfl, hg, hSE⟩; rotate_left; (have hg := (Rg.refl r w4).drew.trans hg); (have hGE : Frm base r mb w w9 := Frm.of_rg (HG4.out.trans hg) hz0; subst hSE; exact ⟨rfl, hGE, rfl⟩); (have hg := (Rg.refl r w4).drew.trans hg); obtain ⟨q, l, c, k, pp, nn, N, q2, l2, c2, hv, hK0⟩ := letI_shape hV; subst hv; (have HR9 := Lib.hid hR); (have HS9 := Lib.hid hS); (have HG9 : RowKit.Hid (Rg r w w9) := Lib.hid (HG4.out.trans hg)); (have hs9 := hg.size); (have hz9 : w4.heap.size ≤ w9.heap.size := hs9); (have hB9 := hg.keep HB4.out (by omega)); (obtain ⟨q', c', w10, hrun, hM10, hgr, hbl⟩ := ModR.app3 (wq := w9.alloc (.cells #[.string a9.n, .slice q l c, .int .i64 k, .string pp, .string nn, .int .i64 N, .slice q2 l2 c2] 74)) (a0 := a9) (cs0 := [.string a9.n, .slice q l c, .int .i64 k, .string pp, .string nn, .int .i64 N, .slice q2 l2 c2]) (g := w9.heap.size) (cc := 1) HM4.out hz4 (by rw [World.size_alloc]; omega) (fun b hb hl => by rw [Below.heap_alloc _ _ _ (by omega)]; exact hg.same hl (by omega)) (fun jj u hu => by rw [hb_cell (hb_new _ _)]; simpa using hu) (letIK.move (fun b hb hl => ⟨hb, Below.heap_alloc _ _ _ hl⟩) hK0) HN.out.2.2.2.1); (have HB10 := Lib.hid (hb_grown (hb_alloc hB9 _) hgr (fun e => by have := hbl _ e.symm; omega))); (have HR10 : RowKit.Hid (Rd r E w10 ts9) := Lib.hid ((hR.alloc _).grown hgr (fun k hk => by have := hbl k hk; omega))); (have HF10 : RowKit.Hid (Frm base r mb w w10) := Lib.hid ((Frm.of_rg ((HG4.out.trans hg).alloc _) hz0).trans (Frm.grown hgr (by rw [World.size_alloc]; omega) hbl))); (have HM10 := Lib.hid hM10); (have HRUN := Lib.hid hrun); obtain ⟨i0, i1, i2, i3, i4, j0, j1, j2, j3, j4⟩ := box5 hB9; have zb9 := hb_lt hB9; clear hR hS hg hx hgr hbl hM10 hrun hB9 hK0; obtain ⟨e0, e1, e2, e3, e4, f0, f1, f2, f3, f4⟩ := box5 HB10.out; have zt10 := hb_lt HB10.out)
            try (refine hK _ _ ?_; clear hK K)
            refine wpAny_ready (rs := [7]) (by kernel_rfl) (by simp) ?_
            refine AllReady.cons rfl (fun K hK => ?_) AllReady.nil
            go_simp
            refine hK _ _ ?_
            clear hK K
            refine wpAny_ready (rs := [8]) (by kernel_rfl) (by simp) ?_
            refine AllReady.cons rfl (fun K hK => ?_) AllReady.nil
            refine step_append (t := 26) rfl _ _ rfl rfl rfl rfl HRUN.out ?_
            refine hK _ _ ?_
            clear hK K
            refine wpAny_take (i := 9) (v := ?_) rfl (by kernel_rfl) (by kernel_rfl) (by kernel_rfl) (fun _ _ _ h => h) (Or.inl ⟨by rfl, ?_⟩) ?_
            rotate_left
            · intro w
              go_simp
              first | done | with_reducible rfl
            refine wpAny_take (i := 10) (v := ?_) rfl (by kernel_rfl) (by kernel_rfl) (by kernel_rfl) (fun _ _ _ h => h) (Or.inl ⟨by rfl, ?_⟩) ?_
            rotate_left
            · intro w
              go_simp
              first | done | with_reducible rfl
            refine wpAny_ready (rs := [11]) (by kernel_rfl) (by simp) ?_
            refine AllReady.cons rfl (fun K hK => ?_) AllReady.nil
            go_simp
            refine hK _ _ ?_
            clear hK K
            refine wpAny_done (by kernel_rfl) ?_ _
            go_wp2
            refine bodyPost_end (v := .tuple #[]) (by simp [results, Tryz.results33, go_sem]) rfl ⟨HF10.out.trans (Frm.set _ _ _), ?_⟩
            rw [HS9.out]
            exact ⟨rfl, HR10.out.setm hrm _ _, _, _, _, _, _, hb_set_same HB10.out 3 _, HM10.out.move (fun b hb _ => Below.heap_setCell _ _ _ _ (by show b ≠ mb; omega)) (by rw [setCell_sz]; exact Nat.le_refl _)⟩
          · go_simp
            go_wp2_with (go_at_call 63; (with_reducible refine (letI_any r E _ _ (by first | exact HR4.out | exact HR4.out.alloc _ | exact (HR4.out.alloc _).alloc _ | exact ((HR4.out.alloc _).alloc _).alloc _ | exact HR4.out.upto (fun _ _ _ => rfl) | exact (HR4.out.alloc _).upto (fun _ _ _ => rfl))).mono ?_); rintro e w9 h9; rcases h9.step HS4.out with ⟨v, a9, ts9, rfl, hV, hR, hg, hS, hx⟩ | ⟨y, rfl, hg, hSE⟩; rotate_left; (have hg := (Rg.refl r w4).drew.trans hg); (have hGE : Frm base r mb w w9 := Frm.of_rg (HG4.out.trans hg) hz0; subst hSE; exact ⟨rfl, hGE, rfl⟩); (have hg := (Rg.refl r w4).drew.trans hg); obtain ⟨q, l, c, k, pp, nn, N, q2, l2, c2, hv, hK0⟩ := letI_shape hV; subst hv; (have HR9 := Lib.hid hR); (have HS9 := Lib.hid hS); (have HG9 : RowKit.Hid (Rg r w w9) := Lib.hid (HG4.out.trans hg)); (have hs9 := hg.size); (have hz9 : w4.heap.size ≤ w9.heap.size := hs9); (have hB9 := hg.keep HB4.out (by omega)); (obtain ⟨q', c', w10, hrun, hM10, hgr, hbl⟩ := ModR.app3 (wq := w9.alloc (.cells #[.string a9.n, .slice q l c, .int .i64 k, .string pp, .string nn, .int .i64 N, .slice q2 l2 c2] 74)) (a0 := a9) (cs0 := [.string a9.n, .slice q l c, .int .i64 k, .string pp, .string nn, .int .i64 N, .slice q2 l2 c2]) (g := w9.heap.size) (cc := 1) HM4.out hz4 (by rw [World.size_alloc]; omega) (fun b hb hl => by rw [Below.heap_alloc _ _ _ (by omega)]; exact hg.same hl (by omega)) (fun jj u hu => by rw [hb_cell (hb_new _ _)]; simpa using hu) (letIK.move (fun b hb hl => ⟨hb, Below.heap_alloc _ _ _ hl⟩) hK0) HN.out.2.2.2.1); (have HB10 := Lib.hid (hb_grown (hb_alloc hB9 _) hgr (fun e => by have := hbl _ e.symm; omega))); (have HR10 : RowKit.Hid (Rd r E w10 ts9) := Lib.hid ((hR.alloc _).grown hgr (fun k hk => by have := hbl k hk; omega))); (have HF10 : RowKit.Hid (Frm base r mb w w10) := Lib.hid ((Frm.of_rg ((HG4.out.trans hg).alloc _) hz0).trans (Frm.grown hgr (by rw [World.size_alloc]; omega) hbl))); (have HM10 := Lib.hid hM10); (have HRUN := Lib.hid hrun); obtain ⟨i0, i1, i2, i3, i4, j0, j1, j2, j3, j4⟩ := box5 hB9; have zb9 := hb_lt hB9; clear hR hS hg hx hgr hbl hM10 hrun hB9 hK0; obtain ⟨e0, e1, e2, e3, e4, f0, f1, f2, f3, f4⟩ := box5 HB10.out; have zt10 := hb_lt HB10.out)
            try (refine hK _ _ ?_; clear hK K)
            refine wpAny_ready (rs := [4, 7]) (by kernel_rfl) (by simp) ?_
            refine AllReady.cons rfl (fun K hK => ?_) (AllReady.cons rfl (fun K hK => ?_) AllReady.nil)
            · go_simp
              refine hK _ _ ?_
              clear hK K
              refine wpAny_ready (rs := [7]) (by kernel_rfl) (by simp) ?_
              refine AllReady.cons rfl (fun K hK => ?_) AllReady.nil
              go_simp
              refine hK _ _ ?_
              clear hK K
              refine wpAny_ready (rs := [8]) (by kernel_rfl) (by simp) ?_
              refine AllReady.cons rfl (fun K hK => ?_) AllReady.nil
              refine step_append (t := 26) rfl _ _ rfl rfl rfl rfl HRUN.out ?_
              refine hK _ _ ?_
              clear hK K
              refine wpAny_take (i := 9) (v := ?_) rfl (by kernel_rfl) (by kernel_rfl) (by kernel_rfl) (fun _ _ _ h => h) (Or.inl ⟨by rfl, ?_⟩) ?_
              rotate_left
              · intro w
                go_simp
                first | done | with_reducible rfl
              refine wpAny_take (i := 10) (v := ?_) rfl (by kernel_rfl) (by kernel_rfl) (by kernel_rfl) (fun _ _ _ h => h) (Or.inl ⟨by rfl, ?_⟩) ?_
              rotate_left
              · intro w
                go_simp
                first | done | with_reducible rfl
              refine wpAny_ready (rs := [11]) (by kernel_rfl) (by simp) ?_
              refine AllReady.cons rfl (fun K hK => ?_) AllReady.nil
              go_simp
              refine hK _ _ ?_
              clear hK K
              refine wpAny_done (by kernel_rfl) ?_ _
              go_wp2
              refine bodyPost_end (v := .tuple #[]) (by simp [results, Tryz.results33, go_sem]) rfl ⟨HF10.out.trans (Frm.set _ _ _), ?_⟩
              rw [HS9.out]
              exact ⟨rfl, HR10.out.setm hrm _ _, _, _, _, _, _, hb_set_same HB10.out 3 _, HM10.out.move (fun b hb _ => Below.heap_setCell _ _ _ _ (by show b ≠ mb; omega)) (by rw [setCell_sz]; exact Nat.le_refl _)⟩
            · go_simp
              refine hK _ _ ?_
              clear hK K
              refine wpAny_ready (rs := [4]) (by kernel_rfl) (by simp) ?_
              refine AllReady.cons rfl (fun K hK => ?_) AllReady.nil
              go_simp
              refine hK _ _ ?_
              clear hK K
              refine wpAny_ready (rs := [8]) (by kernel_rfl) (by simp) ?_
              refine AllReady.cons rfl (fun K hK => ?_) AllReady.nil
              refine step_append (t := 26) rfl _ _ rfl rfl rfl rfl HRUN.out ?_
              refine hK _ _ ?_
              clear hK K
              refine wpAny_take (i := 9) (v := ?_) rfl (by kernel_rfl) (by kernel_rfl) (by kernel_rfl) (fun _ _ _ h => h) (Or.inl ⟨by rfl, ?_⟩) ?_
              rotate_left
              · intro w
                go_simp
                first | done | with_reducible rfl
              refine wpAny_take (i := 10) (v := ?_) rfl (by kernel_rfl) (by kernel_rfl) (by kernel_rfl) (fun _ _ _ h => h) (Or.inl ⟨by rfl, ?_⟩) ?_
              rotate_left
              · intro w
                go_simp
                first | done | with_reducible rfl
              refine wpAny_ready (rs := [11]) (by kernel_rfl) (by simp) ?_
              refine AllReady.cons rfl (fun K hK => ?_) AllReady.nil
              go_simp
              refine hK _ _ ?_
              clear hK K
              refine wpAny_done (by kernel_rfl) ?_ _
              go_wp2
              refine bodyPost_end (v := .tuple #[]) (by simp [results, Tryz.results33, go_sem]) rfl ⟨HF10.out.trans (Frm.set _ _ _), ?_⟩
              rw [HS9.out]
              exact ⟨rfl, HR10.out.setm hrm _ _, _, _, _, _, _, hb_set_same HB10.out 3 _, HM10.out.move (fun b hb _ => Below.heap_setCell _ _ _ _ (by show b ≠ mb; omega)) (by rw [setCell_sz]; exact Nat.le_refl _)⟩
        | false =>
          have h := HS3.out
          rw [hB3, if_neg (by decide)] at h
          rw [hB3] at HK3
          have HS4 := Lib.hid h
          clear h
          cases hB4 : isB 7 kExport ts with
          | true =>
            have h := HS4.out
            rw [hB4, if_pos rfl] at h
            rw [hB4] at HK4
            have HS5 := Lib.hid h
            clear h HS0 HS1 HS2 HS3 HS4
            go_enter Tryz.func33, Tryz.ntmps33
            go_upto_region 10 with (first
                | (go_at_call 37; (with_reducible refine (HK0.out _ HR0.out).mono ?_); rintro e w1 ⟨rfl, hg, hr⟩; have HD1 := Lib.hid hg; have HG1 : RowKit.Hid (Rg r w w1) := Lib.hid (HG0.out.trans hg); have HR1 : RowKit.Hid (Rd r E w1 ts) := Lib.hid hr; (have HB1 := Lib.hid (hg.keep HB0.out (by omega))); (have HM1 := Lib.hid (HM0.out.move (fun b hb hl => hg.same hl (by omega)) hg.size)); (have hz1 : base ≤ w1.heap.size := Nat.le_trans hz0 hg.size); clear hg hr)
                | (go_at_call 37; (with_reducible refine (HK1.out _ HR1.out).mono ?_); rintro e w2 ⟨rfl, hg, hr⟩; have HD2 := Lib.hid hg; have HG2 : RowKit.Hid (Rg r w w2) := Lib.hid (HG1.out.trans hg); have HR2 : RowKit.Hid (Rd r E w2 ts) := Lib.hid hr; (have HB2 := Lib.hid (hg.keep HB1.out (by omega))); (have HM2 := Lib.hid (HM1.out.move (fun b hb hl => hg.same hl (by omega)) hg.size)); (have hz2 : base ≤ w2.heap.size := Nat.le_trans hz1 hg.size); clear hg hr)
                | (go_at_call 37; (with_reducible refine (HK2.out _ HR2.out).mono ?_); rintro e w3 ⟨rfl, hg, hr⟩; have HD3 := Lib.hid hg; have HG3 : RowKit.Hid (Rg r w w3) := Lib.hid (HG2.out.trans hg); have HR3 : RowKit.Hid (Rd r E w3 ts) := Lib.hid hr; (have HB3 := Lib.hid (hg.keep HB2.out (by omega))); (have HM3 := Lib.hid (HM2.out.move (fun b hb hl => hg.same hl (by omega)) hg.size)); (have hz3 : base ≤ w3.heap.size := Nat.le_trans hz2 hg.size); clear hg hr)
                | (go_at_call 37; (with_reducible refine (HK3.out _ HR3.out).mono ?_); rintro e w4 ⟨rfl, hg, hr⟩; have HD4 := Lib.hid hg; have HG4 : RowKit.Hid (Rg r w w4) := Lib.hid (HG3.out.trans hg); have HR4 : RowKit.Hid (Rd r E w4 ts) := Lib.hid hr; (have HB4 := Lib.hid (hg.keep HB3.out (by omega))); (have HM4 := Lib.hid (HM3.out.move (fun b hb hl => hg.same hl (by omega)) hg.size)); (have hz4 : base ≤ w4.heap.size := Nat.le_trans hz3 hg.size); clear hg hr)
                | (go_at_call 37; (with_reducible refine (HK4.out _ HR4.out).mono ?_); rintro e w5 ⟨rfl, hg, hr⟩; have HD5 := Lib.hid hg; have HG5 : RowKit.Hid (Rg r w w5) := Lib.hid (HG4.out.trans hg); have HR5 : RowKit.Hid (Rd r E w5 ts.tail) := Lib.hid hr; (have HB5 := Lib.hid (hg.keep HB4.out (by omega))); (have HM5 := Lib.hid (HM4.out.move (fun b hb hl => hg.same hl (by omega)) hg.size)); (have hz5 : base ≤ w5.heap.size := Nat.le_trans hz4 hg.size); clear hg hr))
            obtain ⟨b0, b1, b2, b3, b4, g0, g1, g2, g3, g4⟩ := box5 HB5.out
            have zb := hb_lt HB5.out
            refine wp_region_any (by kernel_rfl) ?_
            try (change wpAny _ _ _ _ _ _ _ (World.drew _))
            refine wpAny_take (i := 0) (v := ?_) rfl (by kernel_rfl) (by kernel_rfl) (by kernel_rfl) (fun _ _ _ h => h) (Or.inl ⟨by rfl, ?_⟩) ?_
            rotate_left
            · intro w
              go_simp
              first | done | with_reducible rfl
            refine wpAny_take (i := 1) (v := ?_) rfl (by kernel_rfl) (by kernel_rfl) (by kernel_rfl) (fun _ _ _ h => h) (Or.inl ⟨by rfl, ?_⟩) ?_
            rotate_left
            · intro w
              go_simp
              first | done | with_reducible rfl
            refine wpAny_take (i := 2) (v := ?_) rfl (by kernel_rfl) (by kernel_rfl) (by kernel_rfl) (fun _ _ _ h => h) (Or.inl ⟨by rfl, ?_⟩) ?_
            rotate_left
            · intro w
              go_simp
              first | done | with_reducible rfl
            refine wpAny_take (i := 3) (v := ?_) rfl (by kernel_rfl) (by kernel_rfl) (by kernel_rfl) (fun _ _ _ h => h) (Or.inl ⟨by rfl, ?_⟩) ?_
            rotate_left
            · intro w
              go_simp
              first | done | with_reducible rfl
            refine wpAny_take (i := 5) (v := ?_) rfl (by kernel_rfl) (by kernel_rfl) (by kernel_rfl) (fun _ _ _ h => h) (Or.inl ⟨by rfl, ?_⟩) ?_
            rotate_left
            · intro w
              go_simp
              first | done | with_reducible rfl
            refine wpAny_ready (rs := [4, 6]) (by kernel_rfl) (by simp) ?_
            refine AllReady.cons rfl (fun K hK => ?_) (AllReady.cons rfl (fun K hK => ?_) AllReady.nil)
            · go_simp
              refine hK _ _ ?_
              clear hK K
              refine wpAny_ready (rs := [6]) (by kernel_rfl) (by simp) ?_
              refine AllReady.cons rfl (fun K hK => ?_) AllReady.nil
              go_simp
              go_wp2_with (go_at_call 64; (with_reducible refine (exp_any r E _ _ (by first | exact HR5.out | exact HR5.out.alloc _ | exact (HR5.out.alloc _).alloc _ | exact ((HR5.out.alloc _).alloc _).alloc _ | exact HR5.out.upto (fun _ _ _ => rfl) | exact (HR5.out.alloc _).upto (fun _ _ _ => rfl))).mono ?_); rintro e w9 h9; rcases h9.step HS5.out with ⟨v, a9, ts9, rfl, hV, hR, hg, hS, hx⟩ | ⟨y, rfl, hg, hSE⟩; rotate_left; (have hg := (Rg.refl r w5).drew.trans hg); (have hGE : Frm base r mb w w9 := Frm.of_rg (HG5.out.trans hg) hz0; subst hSE; exact ⟨rfl, hGE, rfl⟩); (have hg := (Rg.refl r w5).drew.trans hg); obtain ⟨q, l, c, hv, hK0⟩ := exp_shape hV; subst hv; (have HR9 := Lib.hid hR); (have HS9 := Lib.hid hS); (have HG9 : RowKit.Hid (Rg r w w9) := Lib.hid (HG5.out.trans hg)); (have hs9 := hg.size); (have hz9 : w5.heap.size ≤ w9.heap.size := hs9); (have hB9 := hg.keep HB5.out (by omega)); (obtain ⟨q', c', w10, hrun, hM10, hgr, hbl⟩ := ModR.app4 (wq := w9.alloc (.cells #[.bool a9.ty, .string a9.n, .slice q l c] 76)) (a0 := a9) (cs0 := [.bool a9.ty, .string a9.n, .slice q l c]) (g := w9.heap.size) (cc := 1) HM5.out hz5 (by rw [World.size_alloc]; omega) (fun b hb hl => by rw [Below.heap_alloc _ _ _ (by omega)]; exact hg.same hl (by omega)) (fun jj u hu => by rw [hb_cell (hb_new _ _)]; simpa using hu) (expK.move (fun b hb hl => ⟨hb, Below.heap_alloc _ _ _ hl⟩) hK0) HN.out.2.2.2.2); (have HB10 := Lib.hid (hb_grown (hb_alloc hB9 _) hgr (fun e => by have := hbl _ e.symm; omega))); (have HR10 : RowKit.Hid (Rd r E w10 ts9) := Lib.hid ((hR.alloc _).grown hgr (fun k hk => by have := hbl k hk; omega))); (have HF10 : RowKit.Hid (Frm base r mb w w10) := Lib.hid ((Frm.of_rg ((HG5.out.trans hg).alloc _) hz0).trans (Frm.grown hgr (by rw [World.size_alloc]; omega) hbl))); (have HM10 := Lib.hid hM10); (have HRUN := Lib.hid hrun); obtain ⟨i0, i1, i2, i3, i4, j0, j1, j2, j3, j4⟩ := box5 hB9; have zb9 := hb_lt hB9; clear hR hS hg hx hgr hbl hM10 hrun hB9 hK0; obtain ⟨e0, e1, e2, e3, e4, f0, f1, f2, f3, f4⟩ := box5 HB10.out; have zt10 := hb_lt HB10.out)
              try (refine hK _ _ ?_; clear hK K)
              refine wpAny_ready (rs := [7]) (by kernel_rfl) (by simp) ?_
              refine AllReady.cons rfl (fun K hK => ?_) AllReady.nil
              go_simp
              refine hK _ _ ?_
              clear hK K
              refine wpAny_ready (rs := [8]) (by kernel_rfl) (by simp) ?_
              refine AllReady.cons rfl (fun K hK => ?_) AllReady.nil
              refine step_append (t := 27) rfl _ _ rfl rfl rfl rfl HRUN.out ?_
              refine hK _ _ ?_
              clear hK K
              refine wpAny_take (i := 9) (v := ?_) rfl (by kernel_rfl) (by kernel_rfl) (by kernel_rfl) (fun _ _ _ h => h) (Or.inl ⟨by rfl, ?_⟩) ?_
              rotate_left
              · intro w
                go_simp
                first | done | with_reducible rfl
              refine wpAny_take (i := 10) (v := ?_) rfl (by kernel_rfl) (by kernel_rfl) (by kernel_rfl) (fun _ _ _ h => h) (Or.inl ⟨by rfl, ?_⟩) ?_
              rotate_left
              · intro w
                go_simp
                first | done | with_reducible rfl
              refine wpAny_ready (rs := [11]) (by kernel_rfl) (by simp) ?_
              refine AllReady.cons rfl (fun K hK => ?_) AllReady.nil
              go_simp
              refine hK _ _ ?_
              clear hK K
              refine wpAny_done (by kernel_rfl) ?_ _
              go_wp2
              refine bodyPost_end (v := .tuple #[]) (by simp [results, Tryz.results33, go_sem]) rfl ⟨HF10.out.trans (Frm.set _ _ _), ?_⟩
              rw [HS9.out]
              exact ⟨rfl, HR10.out.setm hrm _ _, _, _, _, _, _, hb_set_same HB10.out 4 _, HM10.out.move (fun b hb _ => Below.heap_setCell _ _ _ _ (by show b ≠ mb; omega)) (by rw [setCell_sz]; exact Nat.le_refl _)⟩
            · go_simp
              go_wp2_with (go_at_call 64; (with_reducible refine (exp_any r E _ _ (by first | exact HR5.out | exact HR5.out.alloc _ | exact (HR5.out.alloc _).alloc _ | exact ((HR5.out.alloc _).alloc _).alloc _ | exact HR5.out.upto (fun _ _ _ => rfl) | exact (HR5.out.alloc _).upto (fun _ _ _ => rfl))).mono ?_); rintro e w9 h9; rcases h9.step HS5.out with ⟨v, a9, ts9, rfl, hV, hR, hg, hS, hx⟩ | ⟨y, rfl, hg, hSE⟩; rotate_left; (have hg := (Rg.refl r w5).drew.trans hg); (have hGE : Frm base r mb w w9 := Frm.of_rg (HG5.out.trans hg) hz0; subst hSE; exact ⟨rfl, hGE, rfl⟩); (have hg := (Rg.refl r w5).drew.trans hg); obtain ⟨q, l, c, hv, hK0⟩ := exp_shape hV; subst hv; (have HR9 := Lib.hid hR); (have HS9 := Lib.hid hS); (have HG9 : RowKit.Hid (Rg r w w9) := Lib.hid (HG5.out.trans hg)); (have hs9 := hg.size); (have hz9 : w5.heap.size ≤ w9.heap.size := hs9); (have hB9 := hg.keep HB5.out (by omega)); (obtain ⟨q', c', w10, hrun, hM10, hgr, hbl⟩ := ModR.app4 (wq := w9.alloc (.cells #[.bool a9.ty, .string a9.n, .slice q l c] 76)) (a0 := a9) (cs0 := [.bool a9.ty, .string a9.n, .slice q l c]) (g := w9.heap.size) (cc := 1) HM5.out hz5 (by rw [World.size_alloc]; omega) (fun b hb hl => by rw [Below.heap_alloc _ _ _ (by omega)]; exact hg.same hl (by omega)) (fun jj u hu => by rw [hb_cell (hb_new _ _)]; simpa using hu) (expK.move (fun b hb hl => ⟨hb, Below.heap_alloc _ _ _ hl⟩) hK0) HN.out.2.2.2.2); (have HB10 := Lib.hid (hb_grown (hb_alloc hB9 _) hgr (fun e => by have := hbl _ e.symm; omega))); (have HR10 : RowKit.Hid (Rd r E w10 ts9) := Lib.hid ((hR.alloc _).grown hgr (fun k hk => by have := hbl k hk; omega))); (have HF10 : RowKit.Hid (Frm base r mb w w10) := Lib.hid ((Frm.of_rg ((HG5.out.trans hg).alloc _) hz0).trans (Frm.grown hgr (by rw [World.size_alloc]; omega) hbl))); (have HM10 := Lib.hid hM10); (have HRUN := Lib.hid hrun); obtain ⟨i0, i1, i2, i3, i4, j0, j1, j2, j3, j4⟩ := box5 hB9; have zb9 := hb_lt hB9; clear hR hS hg hx hgr hbl hM10 hrun hB9 hK0; obtain ⟨e0, e1, e2, e3, e4, f0, f1, f2, f3, f4⟩ := box5 HB10.out; have zt10 := hb_lt HB10.out)
              try (refine hK _ _ ?_; clear hK K)
              refine wpAny_ready (rs := [4, 7]) (by kernel_rfl) (by simp) ?_
              refine AllReady.cons rfl (fun K hK => ?_) (AllReady.cons rfl (fun K hK => ?_) AllReady.nil)
              · go_simp
                refine hK _ _ ?_
                clear hK K
                refine wpAny_ready (rs := [7]) (by kernel_rfl) (by simp) ?_
                refine AllReady.cons rfl (fun K hK => ?_) AllReady.nil
                go_simp
                refine hK _ _ ?_
                clear hK K
                refine wpAny_ready (rs := [8]) (by kernel_rfl) (by simp) ?_
                refine AllReady.cons rfl (fun K hK => ?_) AllReady.nil
                refine step_append (t := 27) rfl _ _ rfl rfl rfl rfl HRUN.out ?_
                refine hK _ _ ?_
                clear hK K
                refine wpAny_take (i := 9) (v := ?_) rfl (by kernel_rfl) (by kernel_rfl) (by kernel_rfl) (fun _ _ _ h => h) (Or.inl ⟨by rfl, ?_⟩) ?_
                rotate_left
                · intro w
                  go_simp
                  first | done | with_reducible rfl
                refine wpAny_take (i := 10) (v := ?_) rfl (by kernel_rfl) (by kernel_rfl) (by kernel_rfl) (fun _ _ _ h => h) (Or.inl ⟨by rfl, ?_⟩) ?_
                rotate_left
                · intro w
                  go_simp
                  first | done | with_reducible rfl
                refine wpAny_ready (rs := [11]) (by kernel_rfl) (by simp) ?_
                refine AllReady.cons rfl (fun K hK => ?_) AllReady.nil
                go_simp
                refine hK _ _ ?_
                clear hK K
                refine wpAny_done (by kernel_rfl) ?_ _
                go_wp2
                refine bodyPost_end (v := .tuple #[]) (by simp [results, Tryz.results33, go_sem]) rfl ⟨HF10.out.trans (Frm.set _ _ _), ?_⟩
                rw [HS9.out]
                exact ⟨rfl, HR10.out.setm hrm _ _, _, _, _, _, _, hb_set_same HB10.out 4 _, HM10.out.move (fun b hb _ => Below.heap_setCell _ _ _ _ (by show b ≠ mb; omega)) (by rw [setCell_sz]; exact Nat.le_refl _)⟩
              · go_simp
                refine hK _ _ ?_
                clear hK K
                refine wpAny_ready (rs := [4]) (by kernel_rfl) (by simp) ?_
                refine AllReady.cons rfl (fun K hK => ?_) AllReady.nil
                go_simp
                refine hK _ _ ?_
                clear hK K
                refine wpAny_ready (rs := [8]) (by kernel_rfl) (by simp) ?_
                refine AllReady.cons rfl (fun K hK => ?_) AllReady.nil
                refine step_append (t := 27) rfl _ _ rfl rfl rfl rfl HRUN.out ?_
                refine hK _ _ ?_
                clear hK K
                refine wpAny_take (i := 9) (v := ?_) rfl (by kernel_rfl) (by kernel_rfl) (by kernel_rfl) (fun _ _ _ h => h) (Or.inl ⟨by rfl, ?_⟩) ?_
                rotate_left
                · intro w
                  go_simp
                  first | done | with_reducible rfl
                refine wpAny_take (i := 10) (v := ?_) rfl (by kernel_rfl) (by kernel_rfl) (by kernel_rfl) (fun _ _ _ h => h) (Or.inl ⟨by rfl, ?_⟩) ?_
                rotate_left
                · intro w
                  go_simp
                  first | done | with_reducible rfl
                refine wpAny_ready (rs := [11]) (by kernel_rfl) (by simp) ?_
                refine AllReady.cons rfl (fun K hK => ?_) AllReady.nil
                go_simp
                refine hK _ _ ?_
                clear hK K
                refine wpAny_done (by kernel_rfl) ?_ _
                go_wp2
                refine bodyPost_end (v := .tuple #[]) (by simp [results, Tryz.results33, go_sem]) rfl ⟨HF10.out.trans (Frm.set _ _ _), ?_⟩
                rw [HS9.out]
                exact ⟨rfl, HR10.out.setm hrm _ _, _, _, _, _, _, hb_set_same HB10.out 4 _, HM10.out.move (fun b hb _ => Below.heap_setCell _ _ _ _ (by show b ≠ mb; omega)) (by rw [setCell_sz]; exact Nat.le_refl _)⟩
          | false =>
            have h := HS4.out
            rw [hB4, if_neg (by decide)] at h
            rw [hB4] at HK4
            have HS5 := Lib.hid h
            clear h
            go_enter Tryz.func33, Tryz.ntmps33
            go_wp2_with (first
                | (go_at_call 37; (with_reducible refine (HK0.out _ HR0.out).mono ?_); rintro e w1 ⟨rfl, hg, hr⟩; have HD1 := Lib.hid hg; have HG1 : RowKit.Hid (Rg r w w1) := Lib.hid (HG0.out.trans hg); have HR1 : RowKit.Hid (Rd r E w1 ts) := Lib.hid hr; (have HB1 := Lib.hid (hg.keep HB0.out (by omega))); (have HM1 := Lib.hid (HM0.out.move (fun b hb hl => hg.same hl (by omega)) hg.size)); (have hz1 : base ≤ w1.heap.size := Nat.le_trans hz0 hg.size); clear hg hr)
                | (go_at_call 37; (with_reducible refine (HK1.out _ HR1.out).mono ?_); rintro e w2 ⟨rfl, hg, hr⟩; have HD2 := Lib.hid hg; have HG2 : RowKit.Hid (Rg r w w2) := Lib.hid (HG1.out.trans hg); have HR2 : RowKit.Hid (Rd r E w2 ts) := Lib.hid hr; (have HB2 := Lib.hid (hg.keep HB1.out (by omega))); (have HM2 := Lib.hid (HM1.out.move (fun b hb hl => hg.same hl (by omega)) hg.size)); (have hz2 : base ≤ w2.heap.size := Nat.le_trans hz1 hg.size); clear hg hr)
                | (go_at_call 37; (with_reducible refine (HK2.out _ HR2.out).mono ?_); rintro e w3 ⟨rfl, hg, hr⟩; have HD3 := Lib.hid hg; have HG3 : RowKit.Hid (Rg r w w3) := Lib.hid (HG2.out.trans hg); have HR3 : RowKit.Hid (Rd r E w3 ts) := Lib.hid hr; (have HB3 := Lib.hid (hg.keep HB2.out (by omega))); (have HM3 := Lib.hid (HM2.out.move (fun b hb hl => hg.same hl (by omega)) hg.size)); (have hz3 : base ≤ w3.heap.size := Nat.le_trans hz2 hg.size); clear hg hr)
                | (go_at_call 37; (with_reducible refine (HK3.out _ HR3.out).mono ?_); rintro e w4 ⟨rfl, hg, hr⟩; have HD4 := Lib.hid hg; have HG4 : RowKit.Hid (Rg r w w4) := Lib.hid (HG3.out.trans hg); have HR4 : RowKit.Hid (Rd r E w4 ts) := Lib.hid hr; (have HB4 := Lib.hid (hg.keep HB3.out (by omega))); (have HM4 := Lib.hid (HM3.out.move (fun b hb hl => hg.same hl (by omega)) hg.size)); (have hz4 : base ≤ w4.heap.size := Nat.le_trans hz3 hg.size); clear hg hr)
                | (go_at_call 37; (with_reducible refine (HK4.out _ HR4.out).mono ?_); rintro e w5 ⟨rfl, hg, hr⟩; have HD5 := Lib.hid hg; have HG5 : RowKit.Hid (Rg r w w5) := Lib.hid (HG4.out.trans hg); have HR5 : RowKit.Hid (Rd r E w5 ts) := Lib.hid hr; (have HB5 := Lib.hid (hg.keep HB4.out (by omega))); (have HM5 := Lib.hid (HM4.out.move (fun b hb hl => hg.same hl (by omega)) hg.size)); (have hz5 : base ≤ w5.heap.size := Nat.le_trans hz4 hg.size); clear hg hr)
                | (go_at_call 32; (with_reducible refine (fault_at r E 10 _ _ HR5.out 10 rfl).mono ?_); rintro e w9 ⟨rfl, hb⟩; have HG9 : RowKit.Hid (Rg r w w9) := Lib.hid (HG5.out.trans (Rg.of_below hb)); clear hb))
            exact ⟨rfl, Frm.of_rg HG9.out hz0, by rw [HS5.out]; rfl⟩
end Go.Proofs.YtlbnaddgdgbckaaGreatDoor
