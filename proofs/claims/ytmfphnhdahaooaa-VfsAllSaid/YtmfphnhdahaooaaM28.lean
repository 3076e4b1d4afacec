/- The texts Kj, one behind the other. -/
import Derived.Test.YtmfphnhdahaooaaM26
import Derived.Test.YtmfphnhdahaooaaM27
import Derived.Maps.AppendAt
set_option linter.unusedSimpArgs false
set_option linter.unusedVariables false
/- Appends of entries. -/
namespace Go.Proofs.Ytmfphnhdahaooaa
open Go.RowKit Go.Maps
set_option linter.unusedSimpArgs false
set_option linter.unusedVariables false
theorem hb_new (w : World) (o : Obj) : (w.alloc o).heap[w.heap.size]? = some o := heap_alloc_new w o
theorem below_alloc (w : World) (o : Obj) : Below w.heap.size w (w.alloc o) := (Below.refl _ _).alloc (Nat.le_refl _) o
theorem flat_at {α : Type} {k : Nat} {cs : α → List Value} (hk : ∀ a, (cs a).length = k) : ∀ (l : List α) (i : Nat) (t : α), l[i]? = some t → ∀ j, j < k → (l.flatMap cs)[i * k + j]? = (cs t)[j]? := by
  intro l
  induction l with
  | nil => intro i t h; simp at h
  | cons a l ih =>
    intro i t hh j hj
    cases i with
    | zero =>
      obtain rfl : a = t := by simpa using hh
      rw [List.flatMap_cons, List.getElem?_append_left (by rw [hk]; omega)]
      simp
    | succ i =>
      have hp : (i + 1) * k + j = k + (i * k + j) := by rw [Nat.add_mul]; omega
      rw [List.flatMap_cons, List.getElem?_append_right (by rw [hk, hp]; omega), ← ih i t (by simpa using hh) j hj]
      congr 1
      rw [hk, hp]
      omega
theorem flat_len {α : Type} {k : Nat} {cs : α → List Value} (hk : ∀ a, (cs a).length = k) (l : List α) : (l.flatMap cs).length = l.length * k := by
  induction l with
  | nil => simp
  | cons a l ih => rw [List.flatMap_cons, List.length_append, hk, ih, List.length_cons, Nat.add_mul]; omega
/-- The cells of a slice of entries, from its beginning on. -/
theorem ents_cells {w : World} {b off : Nat} {l : List En} (h : Ents w (some ⟨b, off, none⟩) l) : ∀ j u, (l.flatMap En.cells)[j]? = some u → w.cell? ((⟨b, off, none⟩ : Addr).add j) = some u := by
  intro j u hu
  have hlen := flat_len (cs := En.cells) (k := 2) (fun _ => rfl) l
  have hj : j < l.length * 2 := by rw [← hlen]; exact (List.getElem?_eq_some_iff.1 hu).1
  have hi : j / 2 < l.length := by omega
  obtain ⟨e, he⟩ : ∃ e, l[j / 2]? = some e := ⟨_, List.getElem?_eq_getElem hi⟩
  have h1 := flat_at (cs := En.cells) (k := 2) (fun _ => rfl) l (j / 2) e he (j % 2) (by omega)
  rw [show j / 2 * 2 + j % 2 = j by omega, hu] at h1
  obtain ⟨b2, off2, e2, c0, c1⟩ := h (j / 2) e he
  cases e2
  have hadd : (⟨b, off, none⟩ : Addr).add j = ⟨b, off + j, none⟩ := by
    unfold Addr.add
    by_cases h0 : j = 0 <;> simp [h0]
  rw [hadd]
  rcases (show j % 2 = 0 ∨ j % 2 = 1 by omega) with h2 | h2
  · rw [h2] at h1
    cases h1
    rw [show off + j = off + j / 2 * 2 by omega]; exact c0
  · rw [h2] at h1
    cases h1
    rw [show off + j = off + j / 2 * 2 + 1 by omega]; exact c1
theorem one_cells (l : List En) : ∀ u ∈ l.flatMap En.cells, u.oneCell' = true := by
  intro u hu
  rw [List.mem_flatMap] at hu
  obtain ⟨e, _, he⟩ := hu
  simp [En.cells] at he
  rcases he with rfl | rfl <;> rfl
/-- An append of entries to a row of the call's own. -/
theorem append_e (W : World) (base : Nat) (v : Value) (q : Option Addr) (c : Nat) (es l : List En) (hown : RowE W base v es) (hr : Ents W q l) (hq : ∀ a, q = some a → a.spot = none) (hn : es.length + l.length ≤ 200000) (hbase : base ≤ W.heap.size) :
    ∃ v' W', (Builtin.append_ #[49, 49] 49 #[v, .slice q l.length c]).run Try.prog W = .ok v' W' ∧ RowE W' base v' (es ++ l) ∧ W.grownBy W' v.ownBlock := by
  obtain ⟨i0, hi, hz0, hz1, hz2⟩ := info_parts info115
  unfold RowE at *
  rw [List.length_append, List.flatMap_append]
  cases q with
  | none =>
    have hl : l = [] := by
      cases l with
      | nil => rfl
      | cons y l => obtain ⟨b, off, h, _⟩ := hr 0 y rfl; cases h
    subst hl
    refine ⟨v, W, ?_, by simpa using hown, ⟨rfl, rfl, rfl, Nat.le_refl _, fun _ _ _ => rfl⟩⟩
    rcases hown.2 with ⟨rfl, _⟩ | ⟨g, cap, cur, rfl, _, _, hnc, _⟩
    · simp [Builtin.append_, run_underlying Try.underlying49, sizeOf, typeInfo, hi, Builtin.lenOf, Builtin.firstCells]
    · simp [Builtin.append_, run_underlying Try.underlying49, sizeOf, typeInfo, hi, Builtin.lenOf, Builtin.firstCells, hnc, storeCells]
  | some ad =>
    obtain ⟨b, off, sp⟩ := ad
    have hsp : sp = none := hq _ rfl
    subst hsp
    obtain ⟨v', w', h1, h2, h3, _⟩ := run_append_own_at (P := Try.prog) W base 49 49 115 i0 _ 2 24 Try.underlying49 hi hz0 hz1 hz2 rfl (by decide) v es.length (es.flatMap En.cells) hown ⟨b, off, none⟩ l.length c (l.flatMap En.cells) (flat_len (cs := En.cells) (k := 2) (fun _ => rfl) l) (ents_cells hr) (one_cells l) (by unfold maxLen; omega) (by omega) hbase
    exact ⟨v', w', h1, h2, h3⟩
/-- To an empty slice without room: what was there stays. -/
theorem append_e0 (W : World) (base g : Nat) (q : Option Addr) (c : Nat) (l : List En) (hg : W.heap[g]? = some (.cells #[] 115 (0, 0))) (hbg : base ≤ g) (hr : Ents W q l) (hq : ∀ a, q = some a → a.spot = none) (hn : l.length ≤ 200000) :
    ∃ v' W', (Builtin.append_ #[49, 49] 49 #[.slice (some ⟨g, 0, none⟩) 0 0, .slice q l.length c]).run Try.prog W = .ok v' W' ∧ RowE W' base v' l ∧ Below W.heap.size W W' := by
  have hgl := hb_lt hg
  obtain ⟨i0, hi, hz0, hz1, hz2⟩ := info_parts info115
  have hown : RowE W base (.slice (some ⟨g, 0, none⟩) 0 0) [] := ⟨rfl, .inr ⟨g, 0, #[], rfl, hbg, hg, Nat.le_refl _, Nat.zero_le _, rfl, rfl⟩⟩
  obtain ⟨v', W', h1, h2, h3⟩ := append_e W base _ q c [] l hown hr hq (by simpa using hn) (by omega)
  by_cases hl : l = []
  · subst hl
    have hrun : (Builtin.append_ #[49, 49] 49 #[.slice (some ⟨g, 0, none⟩) 0 0, .slice q ([] : List En).length c]).run Try.prog W = .ok (.slice (some ⟨g, 0, none⟩) 0 0) W := by
      simp [Builtin.append_, run_underlying Try.underlying49, sizeOf, typeInfo, hi, Builtin.lenOf, Builtin.firstCells, storeCells, loadCells, loadCellsFrom]
      cases q <;> simp [storeCells, loadCells, loadCellsFrom, Builtin.firstCells]
    exact ⟨_, W, hrun, hown, Below.refl _ _⟩
  · cases q with
    | none =>
      obtain ⟨y, hy⟩ := List.exists_mem_of_ne_nil l hl
      obtain ⟨j, hj, e⟩ := List.getElem_of_mem hy
      obtain ⟨b, off, h, _⟩ := hr j y (by rw [List.getElem?_eq_getElem hj, e])
      cases h
    | some ad =>
      obtain ⟨b, off, sp⟩ := ad
      have hsp : sp = none := hq _ rfl
      subst hsp
      have hpos : 0 < l.length := List.length_pos_iff.2 hl
      have hrun := run_append_grow (P := Try.prog) W 49 49 115 i0 _ Try.underlying49 hi hz0 ⟨g, 0, none⟩ 0 0 [] (by simp) (fun j v h => by simp at h) ⟨b, off, none⟩ l.length c (l.flatMap En.cells) (by rw [hz1]; exact flat_len (cs := En.cells) (k := 2) (fun _ => rfl) l) (ents_cells hr) (by omega) (by omega) (growslice_fits (by omega) (by rw [hz2]; omega))
      rw [hrun] at h1
      cases h1
      exact ⟨_, _, hrun, by simpa using h2, ((Below.refl _ W).drew).alloc (Nat.le_refl _) _⟩
theorem oper_append_at {T : TypeId} {w w' : World} {o : Oper} {a : Act} {K : Act → World → Prop} {Q : Exit → Act → World → Prop} (s x : Operand)
    (ho : o.op = .call { callee := .builtin .append, args := #[s, x], argTypes := #[T, T] }) (hty : o.type = T) {v vx v' : Value} (hs : a.eval s = v) (hx : a.eval x = vx)
    (hrun : (Builtin.append_ #[T, T] T #[v, vx]).run Try.prog w = .ok v' w') (h : K (a.put o.dst v') w') : Oper.wp Try.prog o a w K Q := by
  unfold Oper.wp execOp
  simp only [ho, hty, resolve, invoke, builtin, Sem.run_bind, Sem.run_pure, Result.andThen_ok, List.map_toArray, List.map_cons, List.map_nil, hs, hx, hrun]
  exact h
theorem wpList_append_at {T : TypeId} {w w' : World} {ops : Array Oper} {rest : List Oper} {o : Oper} {a : Act} {Q : Exit → Act → World → Prop} (hg : o.guard = none) (s x : Operand)
    (ho : o.op = .call { callee := .builtin .append, args := #[s, x], argTypes := #[T, T] }) (hty : o.type = T) {v vx v' : Value} (hs : a.eval s = v) (hx : a.eval x = vx)
    (hrun : (Builtin.append_ #[T, T] T #[v, vx]).run Try.prog w = .ok v' w') (h : wpList Try.prog ops Q rest (a.put o.dst v') w') : wpList Try.prog ops Q (o :: rest) a w := by
  have hw : Region.wanted o (yielded ops a.tmps) = true := by simp [Region.wanted, hg]
  unfold wpList
  rw [if_pos hw]
  exact .inl (oper_append_at s x ho hty hs hx hrun h)
def Inv.MP.made0 (base : Nat) (T : TypeId) : Inv.MP := ⟨fun v w => ∃ g, v = .slice (some ⟨g, 0, none⟩) 0 0 ∧ base ≤ g ∧ w.heap[g]? = some (.cells #[] T (0, 0)), fun v w w' ⟨g, h1, h2, h3⟩ hb => ⟨g, h1, h2, hb_below h3 hb (hb_lt h3)⟩⟩
def Inv.MP.rowE (base : Nat) (es : List En) : Inv.MP := ⟨fun v w => RowE w base v es, fun v w w' h hb => own_kept h fun g x hg hx => by rw [hb.block g (hb_lt hx), hx]⟩
/-- A slice that was made of some cells. -/
def Inv.MP.made (cs : Array Value) (T : TypeId) (n : Nat) : Inv.MP := ⟨fun v w => ∃ g, v = .slice (some ⟨g, 0, none⟩) n n ∧ w.heap[g]? = some (.cells cs T (0, 0)), fun v w w' ⟨g, h1, h3⟩ hb => ⟨g, h1, hb_below h3 hb (hb_lt h3)⟩⟩
theorem Ents.below {w w' : World} {q : Option Addr} {es : List En} (h : Ents w q es) (hb : Below w.heap.size w w') : Ents w' q es := by
  intro i e he
  obtain ⟨b, off, e1, c0, c1⟩ := h i e he
  have hbl := World.block_lt_of_cell? w _ c0
  exact ⟨b, off, e1, by rw [hb.cell (p := ⟨b, off + i * 2, none⟩) hbl]; exact c0, by rw [hb.cell (p := ⟨b, off + i * 2 + 1, none⟩) hbl]; exact c1⟩
theorem Ents.grown {w w' : World} {q : Option Addr} {es : List En} {row : Option Nat} {B : Nat} (h : Ents w q es) (hlt : ∀ a, q = some a → a.block < B) (hg : w.grownBy w' row) (hB : ∀ k, row = some k → B ≤ k) : Ents w' q es := by
  intro i e he
  obtain ⟨b, off, e1, c0, c1⟩ := h i e he
  have h1 := hlt _ e1
  have hne : some b ≠ row := fun e2 => by have := hB b e2.symm; simp at h1; omega
  have hbl := World.block_lt_of_cell? w _ c0
  have hh := hg.block b hbl hne
  exact ⟨b, off, e1, by rw [← c0]; simp [World.cell?, hh], by rw [← c1]; simp [World.cell?, hh]⟩
theorem Ents.take {w : World} {q : Option Addr} {es : List En} (h : Ents w q es) (k : Nat) : Ents w q (es.take k) := by
  intro i e he
  rw [List.getElem?_take] at he
  split at he
  · exact h i e he
  · cases he
theorem Ents.drop {w : World} {b off : Nat} {es : List En} (h : Ents w (some ⟨b, off, none⟩) es) (k : Nat) : Ents w (some ⟨b, off + k * 2, none⟩) (es.drop k) := by
  intro i e he
  rw [List.getElem?_drop] at he
  obtain ⟨b2, off2, e1, c0, c1⟩ := h (k + i) e he
  cases e1
  exact ⟨b, off + k * 2, rfl, by rw [show off + k * 2 + i * 2 = off + (k + i) * 2 by omega]; exact c0, by rw [show off + k * 2 + i * 2 = off + (k + i) * 2 by omega]; exact c1⟩
end Go.Proofs.Ytmfphnhdahaooaa
