
/- A map of names to terms. -/
import Derived.Test.YtknbhnicmgglbaaDoorU3
namespace Go.Proofs.YtknbhnicmgglbaaDoor
open Go.RowKit Go.Maps

def tR (v : Value) : Option (DataW Value × List MemPlace) := some (.held v, [])
def zT : Value := tv 0 ⟨#[]⟩ ⟨#[]⟩ 0 (.slice none 0 0)
theorem zero24 (w : World) : (zeroValue 24).run Tryd.prog w = .ok zT w := by kernel_rfl
def tAt (D : DataW Value) (s : ByteArray) (r : Option Value) : Prop :=
  match r with
  | some v => Maps.has D (.string s.data.toList) = true ∧ ∀ z, D.atKey (.string s.data.toList) z = .held v
  | none => Maps.has D (.string s.data.toList) = false
/-- A map that has these values. -/
def TMap (w : World) (M n : Nat) (g : ByteArray → Option Value) : Prop := ∃ D : DataW Value, w.ownsMap Tryd.prog 9 tR M n D ∧ ∀ s, tAt D s (g s)
def upV {α : Type} (g : ByteArray → Option α) (s : ByteArray) (v : α) : ByteArray → Option α := fun t => if t = s then some v else g t
section
variable {w w' : World} {M n : Nat} {g : ByteArray → Option Value}
theorem TMap.lt (h : TMap w M n g) : M < w.heap.size := h.elim fun _ h => h.1.lt
theorem TMap.same (h : TMap w M n g) (hb : w'.heap[M]? = w.heap[M]?) : TMap w' M n g := by
  obtain ⟨D, ⟨es, clock, h1, h2⟩, h3⟩ := h
  exact ⟨D, ⟨es, clock, hb.trans h1, h2⟩, h3⟩
theorem TMap.heap (h : TMap w M n g) : ∃ es clock, w.heap[M]? = some (.map es clock) := by
  obtain ⟨D, ⟨es, clock, hb, _⟩, _⟩ := h
  exact ⟨es, clock, hb⟩
theorem TMap.kept (h : TMap w M n g) (hk : ∀ x, w.heap[M]? = some x → w'.heap[M]? = some x) : TMap w' M n g := by
  obtain ⟨es, clock, hb⟩ := h.heap
  exact h.same ((hk _ hb).trans hb.symm)
theorem TMap.made (w : World) : TMap (w.alloc (.map #[] 0)) w.heap.size 0 fun _ => none := ⟨_, World.ownsMap_made w _ _ _, fun _ => rfl⟩
theorem tR_inj {v u : Value} {d : DataW Value} {ps qs : List MemPlace} (hv : tR v = some (d, ps)) (hu : tR u = some (d, qs)) : v = u := by
  unfold tR at hv hu
  simp at hv hu
  have h := hv.1.trans hu.1.symm
  injection h
theorem TMap.look (h : TMap w M n g) (s : ByteArray) (hs : s.size ≤ maxLen) : (Instr.lookup 41 (.map (some M)) (.string s) true).run Tryd.prog w = .ok (.tuple #[(g s).getD zT, .bool (g s).isSome]) w := by
  obtain ⟨D, hD, hg⟩ := h
  obtain ⟨v, ps, hrun, hv⟩ := hD.look_ok K9 Tryd.underlying41 (zero24 w) (zd := .held zT) (zp := []) rfl (key9 s hs)
  have h1 := hg s
  rw [hrun]
  cases hr : g s with
  | none =>
    rw [hr] at h1
    rw [atKey_of_not_has h1] at hv
    rw [tR_inj hv (u := zT) rfl, show Maps.has D (.string s.data.toList) = false from h1]
    rfl
  | some x =>
    rw [hr] at h1
    rw [h1.2] at hv
    rw [tR_inj hv (u := x) rfl, h1.1]
    rfl
theorem TMap.look1 (h : TMap w M n g) (s : ByteArray) (hs : s.size ≤ maxLen) : (Instr.lookup 41 (.map (some M)) (.string s) false).run Tryd.prog w = .ok ((g s).getD zT) w := by
  obtain ⟨D, hD, hg⟩ := h
  obtain ⟨v, ps, hrun, hv⟩ := hD.lookup K9 Tryd.underlying41 (zero24 w) (zd := .held zT) (zp := []) rfl (key9 s hs)
  have h1 := hg s
  rw [hrun]
  cases hr : g s with
  | none =>
    rw [hr] at h1
    rw [atKey_of_not_has h1] at hv
    rw [tR_inj hv (u := zT) rfl]
    rfl
  | some x =>
    rw [hr] at h1
    rw [h1.2] at hv
    rw [tR_inj hv (u := x) rfl]
    rfl
theorem TMap.put (h : TMap w M n g) (hn : n < maxLen) (s : ByteArray) (hs : s.size ≤ maxLen) (v : Value) :
    ∃ w', (Instr.mapUpdate 41 (.map (some M)) (.string s) v).run Tryd.prog w = .ok () w' ∧ TMap w' M (n + 1) (upV g s v) ∧ w.mapTurned w' M := by
  obtain ⟨D, hD, hg⟩ := h
  obtain ⟨w', hrun, h1, h2⟩ := hD.store K9 Tryd.underlying41 hn (val := v) (d := .held v) (ps := []) (key9 s hs) rfl
  refine ⟨w', hrun, ⟨_, h1, fun t => ?_⟩, h2⟩
  have hK : WideAt.IsKeyLit (.string s.data.toList) := trivial
  unfold upV
  by_cases e : t = s
  · rw [if_pos e, e]
    exact ⟨has_put_same hD.isMap hK _, fun z => by rw [atKey_put_same hD.isMap hK]⟩
  · rw [if_neg e]
    have h3 := hg t
    cases hr : g t with
    | none =>
      rw [hr] at h3
      exact (has_put_other (lit_ne e) _).trans h3
    | some y =>
      rw [hr] at h3
      exact ⟨(has_put_other (lit_ne e) _).trans h3.1, fun z => by rw [atKey_put_other (lit_ne e)]; exact h3.2 z⟩
variable (w) {ops : Array Oper} {rest : List Oper} {o : Oper} {a : Act} {Q : Exit → Act → World → Prop}
theorem wpList_tm_look (hg : o.guard = none) (m x : Operand) (hop : o.op = Op.lookup 41 m x true) (hm : a.eval m = .map (some M)) (h : TMap w M n g) (s : ByteArray) (hx : a.eval x = .string s) (hs : s.size ≤ maxLen)
    (u : Value) (b : Bool) (hu : (g s).getD zT = u) (hb : (g s).isSome = b) (hK : wpList Tryd.prog ops Q rest (a.put o.dst (.tuple #[u, .bool b])) w) : wpList Tryd.prog ops Q (o :: rest) a w := by
  refine wpList_plain hg fun K' hK' => ?_
  unfold Oper.wp
  simp [execOp, hop, hm, hx, h.look s hs, Result.andThen]
  rw [hu, hb]
  exact hK' _ _ hK
theorem wpList_tm_look1 (hg : o.guard = none) (m x : Operand) (hop : o.op = Op.lookup 41 m x false) (hm : a.eval m = .map (some M)) (h : TMap w M n g) (s : ByteArray) (hx : a.eval x = .string s) (hs : s.size ≤ maxLen)
    (u : Value) (hu : (g s).getD zT = u) (hK : wpList Tryd.prog ops Q rest (a.put o.dst u) w) : wpList Tryd.prog ops Q (o :: rest) a w := by
  refine wpList_plain hg fun K' hK' => ?_
  unfold Oper.wp
  simp [execOp, hop, hm, hx, h.look1 s hs, Result.andThen]
  rw [hu]
  exact hK' _ _ hK
theorem wpList_tm_put (hg : o.guard = none) (m x v : Operand) (hop : o.op = Op.mapUpdate 41 m x v) (hm : a.eval m = .map (some M)) (h : TMap w M n g) (hn : n < maxLen) (s : ByteArray) (hx : a.eval x = .string s) (hs : s.size ≤ maxLen)
    (u : Value) (hv : a.eval v = u) (hK : ∀ w', TMap w' M (n + 1) (upV g s u) → w.mapTurned w' M → wpList Tryd.prog ops Q rest (a.put o.dst undef) w') : wpList Tryd.prog ops Q (o :: rest) a w := by
  refine wpList_plain hg fun K' hK' => ?_
  obtain ⟨w', hrun, h1, h2⟩ := h.put hn s hs u
  unfold Oper.wp
  simp [execOp, hop, hm, hx, hv, hrun, Result.andThen]
  exact hK' _ _ (hK w' h1 h2)
end
end Go.Proofs.YtknbhnicmgglbaaDoor
