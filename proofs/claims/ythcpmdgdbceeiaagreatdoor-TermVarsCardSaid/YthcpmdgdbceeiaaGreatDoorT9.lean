/- Sets of texts, counts of texts; look-ups, stores, deletes. -/
import Derived.Test.YthcpmdgdbceeiaaGreatDoorT8
import Derived.Maps.OwnSet
import Derived.Maps.OwnOps
import Derived.Maps.RangeWalk
import Derived.Maps.StringElems
namespace Go.Proofs.YthcpmdgdbceeiaaGreatDoor
open Go.RowKit Go.Maps
theorem K9 : Maps.Keyed Tryz.prog 9 := Maps.string_keyed Tryz.underlying9
theorem key9 (s : ByteArray) (h : s.size ≤ maxLen) : keyOf Tryz.prog 9 (.string s) = some (.string s.data.toList) := by
  simp [keyOf, Tryz.underlying9, mapKey, h]
theorem name_eq {s t : ByteArray} (h : s.data.toList = t.data.toList) : s = t := by
  cases s; cases t
  simpa using h
theorem lit_ne {s t : ByteArray} (h : t ≠ s) : (Lit.string t.data.toList) ≠ Lit.string s.data.toList := fun e => h (name_eq (by simpa using e))
theorem zero50 (w : World) : (zeroValue 50).run Tryz.prog w = .ok (.agg #[]) w := by kernel_rfl
theorem zero3 (w : World) : (zeroValue 3).run Tryz.prog w = .ok (.int .i64 0) w := by kernel_rfl
/-- A set of texts. -/
def SSet (w : World) (M n : Nat) (g : ByteArray → Bool) : Prop := ∃ D : DataW Unit, w.ownsMap Tryz.prog 9 unitElem M n D ∧ ∀ s : ByteArray, Maps.has D (.string s.data.toList) = g s
/-- How often each text is counted. -/
def CMap (w : World) (M n : Nat) (g : ByteArray → Int) : Prop := ∃ D : DataW Unit, w.ownsMap Tryz.prog 9 (plainElem Tryz.prog 3) M n D ∧ ∀ s : ByteArray, D.atKey (.string s.data.toList) (.lit (.int .i64 0)) = .lit (.int .i64 (g s))
section
variable {w w' : World} {M n : Nat} {g : ByteArray → Bool} {c : ByteArray → Int}
theorem SSet.lt (h : SSet w M n g) : M < w.heap.size := h.elim fun _ h => h.1.lt
theorem CMap.lt (h : CMap w M n c) : M < w.heap.size := h.elim fun _ h => h.1.lt
theorem SSet.same (h : SSet w M n g) (hb : w'.heap[M]? = w.heap[M]?) : SSet w' M n g := by
  obtain ⟨D, ⟨es, clock, h1, h2⟩, h3⟩ := h
  exact ⟨D, ⟨es, clock, hb.trans h1, h2⟩, h3⟩
theorem CMap.same (h : CMap w M n c) (hb : w'.heap[M]? = w.heap[M]?) : CMap w' M n c := by
  obtain ⟨D, ⟨es, clock, h1, h2⟩, h3⟩ := h
  exact ⟨D, ⟨es, clock, hb.trans h1, h2⟩, h3⟩
theorem SSet.heap (h : SSet w M n g) : ∃ es clock, w.heap[M]? = some (.map es clock) := by
  obtain ⟨D, ⟨es, clock, hb, _⟩, _⟩ := h
  exact ⟨es, clock, hb⟩
theorem CMap.heap (h : CMap w M n c) : ∃ es clock, w.heap[M]? = some (.map es clock) := by
  obtain ⟨D, ⟨es, clock, hb, _⟩, _⟩ := h
  exact ⟨es, clock, hb⟩
theorem SSet.kept (h : SSet w M n g) (hk : ∀ x, w.heap[M]? = some x → w'.heap[M]? = some x) : SSet w' M n g := by
  obtain ⟨es, clock, hb⟩ := h.heap
  exact h.same ((hk _ hb).trans hb.symm)
theorem CMap.kept (h : CMap w M n c) (hk : ∀ x, w.heap[M]? = some x → w'.heap[M]? = some x) : CMap w' M n c := by
  obtain ⟨es, clock, hb⟩ := h.heap
  exact h.same ((hk _ hb).trans hb.symm)
theorem SSet.made (w : World) : SSet (w.alloc (.map #[] 0)) w.heap.size 0 fun _ => false := ⟨_, World.ownsMap_made w _ _ _, fun _ => rfl⟩
theorem CMap.made (w : World) : CMap (w.alloc (.map #[] 0)) w.heap.size 0 fun _ => 0 := ⟨_, World.ownsMap_made w _ _ _, fun _ => rfl⟩
theorem SSet.look (h : SSet w M n g) (s : ByteArray) (hs : s.size ≤ maxLen) : (Instr.lookup 48 (.map (some M)) (.string s) true).run Tryz.prog w = .ok (.tuple #[.agg #[], .bool (g s)]) w := by
  obtain ⟨D, hD, hg⟩ := h
  obtain ⟨v, ps, hrun, hv⟩ := hD.look_ok K9 Tryz.underlying48 (zero50 w) (zd := .agg []) (zp := []) unitElem_mk (key9 s hs)
  obtain ⟨rfl, _⟩ := unitElem_inv hv
  rw [hrun, hg s]
theorem CMap.look (h : CMap w M n c) (s : ByteArray) (hs : s.size ≤ maxLen) : (Instr.lookup 52 (.map (some M)) (.string s) false).run Tryz.prog w = .ok (.int .i64 (c s)) w := by
  obtain ⟨D, hD, hg⟩ := h
  obtain ⟨v, hrun, hat, _⟩ := hD.lookup_int K9 Tryz.underlying52 Tryz.underlying3 (zero3 w) (key9 s hs)
  rw [hg s] at hat
  simp at hat
  rw [hrun, hat]
theorem SSet.put (h : SSet w M n g) (hn : n < maxLen) (s : ByteArray) (hs : s.size ≤ maxLen) :
    ∃ w', (Instr.mapUpdate 48 (.map (some M)) (.string s) (.agg #[])).run Tryz.prog w = .ok () w' ∧ SSet w' M (n + 1) (fun t => decide (t = s) || g t) ∧ w.mapTurned w' M := by
  obtain ⟨D, hD, hg⟩ := h
  obtain ⟨w', hrun, h1, h2⟩ := hD.store K9 Tryz.underlying48 hn (val := .agg #[]) (d := .agg []) (ps := []) (key9 s hs) unitElem_mk
  refine ⟨w', hrun, ⟨_, h1, fun t => ?_⟩, h2⟩
  have hK : WideAt.IsKeyLit (.string s.data.toList) := trivial
  by_cases e : t = s
  · subst e
    rw [has_put_same hD.isMap hK]
    simp
  · rw [has_put_other (lit_ne e), hg t]
    simp [e]
theorem CMap.put (h : CMap w M n c) (hn : n < maxLen) (s : ByteArray) (hs : s.size ≤ maxLen) (x : Int) (hx : (Lit.int .i64 x).wf = true) :
    ∃ w', (Instr.mapUpdate 52 (.map (some M)) (.string s) (.int .i64 x)).run Tryz.prog w = .ok () w' ∧ CMap w' M (n + 1) (fun t => if t = s then x else c t) ∧ w.mapTurned w' M := by
  obtain ⟨D, hD, hg⟩ := h
  obtain ⟨w', hrun, h1, h2⟩ := hD.store K9 Tryz.underlying52 hn (val := .int .i64 x) (d := .lit (.int .i64 x)) (ps := []) (key9 s hs) (plainElem_int Tryz.underlying3 hx)
  refine ⟨w', hrun, ⟨_, h1, fun t => ?_⟩, h2⟩
  have hK : WideAt.IsKeyLit (.string s.data.toList) := trivial
  dsimp only
  by_cases e : t = s
  · rw [if_pos e, e]
    exact atKey_put_same hD.isMap hK _ _
  · rw [if_neg e]
    exact (atKey_put_other (lit_ne e) _ _).trans (hg t)
theorem CMap.del (h : CMap w M n c) (s : ByteArray) (hs : s.size ≤ maxLen) (ty : TypeId) :
    ∃ w', (Builtin.delete_ #[52, 9] ty #[.map (some M), .string s]).run Tryz.prog w = .ok (.tuple #[]) w' ∧ CMap w' M n (fun t => if t = s then 0 else c t) ∧ w.mapTurned w' M := by
  obtain ⟨D, hD, hg⟩ := h
  obtain ⟨w', hrun, h1, h2⟩ := hD.drop K9 Tryz.underlying52 (key9 s hs) ty
  refine ⟨w', hrun, ⟨_, h1, fun t => ?_⟩, h2⟩
  dsimp only
  by_cases e : t = s
  · rw [if_pos e, e]
    exact atKey_of_not_has has_del_same _
  · rw [if_neg e]
    exact (atKey_del_other (lit_ne e) _).trans (hg t)
end
section
variable (w : World) {ops : Array Oper} {rest : List Oper} {o : Oper} {a : Act} {Q : Exit → Act → World → Prop} {M n : Nat} {g : ByteArray → Bool} {c : ByteArray → Int}
theorem wpList_ss_look (hg : o.guard = none) (m x : Operand) (hop : o.op = Op.lookup 48 m x true) (hm : a.eval m = .map (some M)) (h : SSet w M n g) (s : ByteArray) (hx : a.eval x = .string s) (hs : s.size ≤ maxLen)
    (r : Bool) (hr : g s = r) (hK : wpList Tryz.prog ops Q rest (a.put o.dst (.tuple #[.agg #[], .bool r])) w) : wpList Tryz.prog ops Q (o :: rest) a w := by
  refine wpList_plain hg fun K' hK' => ?_
  unfold Oper.wp
  simp [execOp, hop, hm, hx, h.look s hs, Result.andThen]
  rw [hr]
  exact hK' _ _ hK
theorem wpList_ss_put (hg : o.guard = none) (m x v : Operand) (hop : o.op = Op.mapUpdate 48 m x v) (hm : a.eval m = .map (some M)) (h : SSet w M n g) (hn : n < maxLen) (s : ByteArray) (hx : a.eval x = .string s) (hs : s.size ≤ maxLen)
    (hv : a.eval v = .agg #[]) (hK : ∀ w', SSet w' M (n + 1) (fun t => decide (t = s) || g t) → w.mapTurned w' M → wpList Tryz.prog ops Q rest (a.put o.dst undef) w') : wpList Tryz.prog ops Q (o :: rest) a w := by
  refine wpList_plain hg fun K' hK' => ?_
  obtain ⟨w', hrun, h1, h2⟩ := h.put hn s hs
  unfold Oper.wp
  simp [execOp, hop, hm, hx, hv, hrun, Result.andThen]
  exact hK' _ _ (hK w' h1 h2)
theorem wpList_cm_look (hg : o.guard = none) (m x : Operand) (hop : o.op = Op.lookup 52 m x false) (hm : a.eval m = .map (some M)) (h : CMap w M n c) (s : ByteArray) (hx : a.eval x = .string s) (hs : s.size ≤ maxLen)
    (r : Int) (hr : c s = r) (hK : wpList Tryz.prog ops Q rest (a.put o.dst (.int .i64 r)) w) : wpList Tryz.prog ops Q (o :: rest) a w := by
  refine wpList_plain hg fun K' hK' => ?_
  unfold Oper.wp
  simp [execOp, hop, hm, hx, h.look s hs, Result.andThen]
  rw [hr]
  exact hK' _ _ hK
theorem wpList_cm_put (hg : o.guard = none) (m x v : Operand) (hop : o.op = Op.mapUpdate 52 m x v) (hm : a.eval m = .map (some M)) (h : CMap w M n c) (hn : n < maxLen) (s : ByteArray) (hx : a.eval x = .string s) (hs : s.size ≤ maxLen)
    (y : Int) (hy : (Lit.int .i64 y).wf = true) (hv : a.eval v = .int .i64 y) (hK : ∀ w', CMap w' M (n + 1) (fun t => if t = s then y else c t) → w.mapTurned w' M → wpList Tryz.prog ops Q rest (a.put o.dst undef) w') : wpList Tryz.prog ops Q (o :: rest) a w := by
  refine wpList_plain hg fun K' hK' => ?_
  obtain ⟨w', hrun, h1, h2⟩ := h.put hn s hs y hy
  unfold Oper.wp
  simp [execOp, hop, hm, hx, hv, hrun, Result.andThen]
  exact hK' _ _ (hK w' h1 h2)
theorem wpList_cm_del (hg : o.guard = none) (m x : Operand) (hop : o.op = Op.call { callee := Callee.builtin Builtin.delete, args := #[m, x], argTypes := #[52, 9] }) (hm : a.eval m = .map (some M)) (h : CMap w M n c) (s : ByteArray) (hx : a.eval x = .string s) (hs : s.size ≤ maxLen)
    (hK : ∀ w', CMap w' M n (fun t => if t = s then 0 else c t) → w.mapTurned w' M → wpList Tryz.prog ops Q rest (a.put o.dst (.tuple #[])) w') : wpList Tryz.prog ops Q (o :: rest) a w := by
  refine wpList_plain hg fun K' hK' => ?_
  obtain ⟨w', hrun, h1, h2⟩ := h.del s hs o.type
  unfold Oper.wp
  simp [execOp, hop, resolve, invoke, builtin, hm, hx, hrun, Result.andThen]
  exact hK' _ _ (hK w' h1 h2)
end
end Go.Proofs.YthcpmdgdbceeiaaGreatDoor
