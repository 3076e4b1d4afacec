/- Maps of places: for each text where it first stands, if it does. -/
import Derived.Test.YthcpmdgdbceeiaaGreatDoorT9
namespace Go.Proofs.YthcpmdgdbceeiaaGreatDoor
open Go.RowKit Go.Maps
def PMap (w : World) (M n : Nat) (g : ByteArray → Option Int) : Prop := ∃ D : DataW Unit, w.ownsMap Tryz.prog 9 (plainElem Tryz.prog 3) M n D ∧ ∀ s : ByteArray, D.atKey (.string s.data.toList) (.lit (.int .i64 0)) = .lit (.int .i64 ((g s).getD 0)) ∧ Maps.has D (.string s.data.toList) = (g s).isSome
section
variable {w w' : World} {M n : Nat} {g : ByteArray → Option Int}
theorem PMap.lt (h : PMap w M n g) : M < w.heap.size := h.elim fun _ h => h.1.lt
theorem PMap.same (h : PMap w M n g) (hb : w'.heap[M]? = w.heap[M]?) : PMap w' M n g := by
  obtain ⟨D, ⟨es, clock, h1, h2⟩, h3⟩ := h
  exact ⟨D, ⟨es, clock, hb.trans h1, h2⟩, h3⟩
theorem PMap.below (h : PMap w M n g) (hb : Below w.heap.size w w') : PMap w' M n g := h.same (hb.block M h.lt)
theorem PMap.heap (h : PMap w M n g) : ∃ es clock, w.heap[M]? = some (.map es clock) := by
  obtain ⟨D, ⟨es, clock, hb, _⟩, _⟩ := h
  exact ⟨es, clock, hb⟩
theorem PMap.made (w : World) : PMap (w.alloc (.map #[] 0)) w.heap.size 0 fun _ => none := ⟨_, World.ownsMap_made w _ _ _, fun _ => ⟨rfl, rfl⟩⟩
theorem PMap.look (h : PMap w M n g) (s : ByteArray) (hs : s.size ≤ maxLen) : (Instr.lookup 52 (.map (some M)) (.string s) true).run Tryz.prog w = .ok (.tuple #[.int .i64 ((g s).getD 0), .bool (g s).isSome]) w := by
  obtain ⟨D, hD, hg⟩ := h
  obtain ⟨v, ps, hrun, hv⟩ := hD.look_ok K9 Tryz.underlying52 (zero3 w) (zd := .lit (.int .i64 0)) (zp := []) (plainElem_int Tryz.underlying3 (by decide)) (key9 s hs)
  obtain ⟨c, rfl, hc, _⟩ := plainElem_int_inv Tryz.underlying3 hv
  simp only [Prod.mk.injEq] at hc
  rw [(hg s).1] at hc
  have e : (g s).getD 0 = c := by simpa using hc.1
  rw [hrun, (hg s).2, e]
theorem PMap.put (h : PMap w M n g) (hn : n < maxLen) (s : ByteArray) (hs : s.size ≤ maxLen) (x : Int) (hx : (Lit.int .i64 x).wf = true) :
    ∃ w', (Instr.mapUpdate 52 (.map (some M)) (.string s) (.int .i64 x)).run Tryz.prog w = .ok () w' ∧ PMap w' M (n + 1) (fun t => if t = s then some x else g t) ∧ w.mapTurned w' M := by
  obtain ⟨D, hD, hg⟩ := h
  obtain ⟨w', hrun, h1, h2⟩ := hD.store K9 Tryz.underlying52 hn (val := .int .i64 x) (d := .lit (.int .i64 x)) (ps := []) (key9 s hs) (plainElem_int Tryz.underlying3 hx)
  refine ⟨w', hrun, ⟨_, h1, fun t => ?_⟩, h2⟩
  have hK : WideAt.IsKeyLit (.string s.data.toList) := trivial
  dsimp only
  by_cases e : t = s
  · rw [if_pos e, e]
    exact ⟨atKey_put_same hD.isMap hK _ _, has_put_same hD.isMap hK _⟩
  · rw [if_neg e]
    exact ⟨(atKey_put_other (lit_ne e) _ _).trans (hg t).1, by rw [has_put_other (lit_ne e)]; exact (hg t).2⟩
variable {ops : Array Oper} {rest : List Oper} {o : Oper} {a : Act} {Q : Exit → Act → World → Prop}
theorem wpList_pm_look (hg : o.guard = none) (m x : Operand) (hop : o.op = Op.lookup 52 m x true) (hm : a.eval m = .map (some M)) (h : PMap w M n g) (s : ByteArray) (hx : a.eval x = .string s) (hs : s.size ≤ maxLen)
    (i : Int) (b : Bool) (hi : (g s).getD 0 = i) (hb : (g s).isSome = b) (hK : wpList Tryz.prog ops Q rest (a.put o.dst (.tuple #[.int .i64 i, .bool b])) w) : wpList Tryz.prog ops Q (o :: rest) a w := by
  refine wpList_plain hg fun K' hK' => ?_
  unfold Oper.wp
  simp [execOp, hop, hm, hx, h.look s hs, Result.andThen]
  rw [hi, hb]
  exact hK' _ _ hK
theorem wpList_pm_put (hg : o.guard = none) (m x v : Operand) (hop : o.op = Op.mapUpdate 52 m x v) (hm : a.eval m = .map (some M)) (h : PMap w M n g) (hn : n < maxLen) (s : ByteArray) (hx : a.eval x = .string s) (hs : s.size ≤ maxLen)
    (y : Int) (hy : (Lit.int .i64 y).wf = true) (hv : a.eval v = .int .i64 y) (hK : ∀ w', PMap w' M (n + 1) (fun t => if t = s then some y else g t) → w.mapTurned w' M → wpList Tryz.prog ops Q rest (a.put o.dst undef) w') : wpList Tryz.prog ops Q (o :: rest) a w := by
  refine wpList_plain hg fun K' hK' => ?_
  obtain ⟨w', hrun, h1, h2⟩ := h.put hn s hs y hy
  unfold Oper.wp
  simp [execOp, hop, hm, hx, hv, hrun, Result.andThen]
  exact hK' _ _ (hK w' h1 h2)
end
end Go.Proofs.YthcpmdgdbceeiaaGreatDoor
