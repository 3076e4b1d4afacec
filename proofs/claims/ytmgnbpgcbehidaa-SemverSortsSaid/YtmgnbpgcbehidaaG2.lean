/- Keys that are versions, back; sets of versions. -/
import Derived.Test.YtmgnbpgcbehidaaG1
namespace Go.Proofs.Ytmgnbpgcbehidaa
open Go.RowKit Go.Maps Go.WideMaps
theorem lits3 {d : Nat} {c : Value} {l : List Lit} (h : Try.prog.keyLits (d + 1) 3 [c] = some l) : ∃ n, c = .int .i64 n ∧ okI n ∧ l = [.int .i64 n] := by
  unfold Program.keyLits at h
  rw [Try.underlying3] at h
  cases c with
  | int q n =>
    simp at h
    obtain ⟨⟨rfl, h1⟩, h2⟩ := h
    exact ⟨n, rfl, h1, h2.symm⟩
  | _ => simp at h
set_option maxRecDepth 100000 in
theorem key23_inv {v : Value} {kl : Lit} (h : keyOf Try.prog 23 v = some kl) : ∃ x, OkV x ∧ v = vv x ∧ kl = vL x := by
  obtain ⟨d, hd⟩ : ∃ d, Try.prog.types.size = d + 1 := ⟨Try.prog.types.size - 1, by have : 23 < Try.prog.types.size := row23; omega⟩
  have h0 := h
  unfold keyOf at h
  rw [Try.underlying23] at h
  dsimp only at h
  rw [kt23, hd] at h
  cases v with
  | agg cs =>
    obtain ⟨cs⟩ := cs
    match cs, h with
    | [c0, c1, c2], h =>
      split at h
      · have h' : (Try.prog.keyLits (d + 1 + 1) 23 [c0, c1, c2]).map (fun ls => Lit.string (keyBytes ls)) = some kl := h
        unfold Program.keyLits at h'
        rw [Try.underlying23] at h'
        rcases h1 : Try.prog.keyLits (d + 1) 3 [c0] with _ | l0
        · simp [cells23, cells3, h1] at h'
        rcases h2 : Try.prog.keyLits (d + 1) 3 [c1] with _ | l1
        · simp [cells23, cells3, h1, h2] at h'
        rcases h3 : Try.prog.keyLits (d + 1) 3 [c2] with _ | l2
        · simp [cells23, cells3, h1, h2, h3] at h'
        simp [cells23, cells3, h1, h2, h3] at h'
        subst h'
        obtain ⟨a, rfl, oa, rfl⟩ := lits3 h1
        obtain ⟨b, rfl, ob, rfl⟩ := lits3 h2
        obtain ⟨c, rfl, oc, rfl⟩ := lits3 h3
        exact ⟨⟨a, b, c⟩, ⟨oa, ob, oc⟩, rfl, rfl⟩
      · cases h
    | [], h => simp [Value.formed, Try.underlying23, cells23] at h
    | [c0], h => simp [Value.formed, Try.underlying23, cells23] at h
    | [c0, c1], h => simp [Value.formed, Try.underlying23, cells23] at h
    | c0 :: c1 :: c2 :: c3 :: r, h => simp [Value.formed, Try.underlying23, cells23] at h
  | _ => simp [Value.formed, Try.underlying23] at h

/-- A set of versions. -/
def VSet (w : World) (M n : Nat) (g : Sv.V → Bool) : Prop := ∃ D : DataW Unit, w.ownsMap Try.prog 23 unitElem M n D ∧ ∀ x, OkV x → Maps.has D (vL x) = g x
section
variable {w w' : World} {M n : Nat} {g : Sv.V → Bool}
theorem VSet.lt (h : VSet w M n g) : M < w.heap.size := h.elim fun _ h => h.1.lt
theorem VSet.same (h : VSet w M n g) (hb : w'.heap[M]? = w.heap[M]?) : VSet w' M n g := by
  obtain ⟨D, ⟨es, clock, h1, h2⟩, h3⟩ := h
  exact ⟨D, ⟨es, clock, hb.trans h1, h2⟩, h3⟩
theorem VSet.made (w : World) : VSet (w.alloc (.map #[] 0)) w.heap.size 0 fun _ => false := ⟨_, World.ownsMap_made w _ _ _, fun _ _ => rfl⟩
theorem VSet.put (h : VSet w M n g) (hn : n < maxLen) (x : Sv.V) (hx : OkV x) :
    ∃ w', (Instr.mapUpdate 55 (.map (some M)) (vv x) (.agg #[])).run Try.prog w = .ok () w' ∧ VSet w' M (n + 1) (fun y => decide (y = x) || g y) ∧ w.mapTurned w' M := by
  obtain ⟨D, hD, hg⟩ := h
  obtain ⟨w', hrun, h1, h2⟩ := hD.store K23 Try.underlying55 hn (val := .agg #[]) (d := .agg []) (ps := []) (key23 x hx) unitElem_mk
  refine ⟨w', hrun, ⟨_, h1, fun y hy => ?_⟩, h2⟩
  have hK : WideAt.IsKeyLit (vL x) := trivial
  by_cases e : y = x
  · subst e
    rw [has_put_same hD.isMap hK]
    simp
  · rw [has_put_other (fun e2 => e (vL_inj hy hx e2)), hg y hy]
    simp [e]
variable (w) {ops : Array Oper} {rest : List Oper} {o : Oper} {a : Act} {Q : Exit → Act → World → Prop}
theorem wpList_vs_put (hg : o.guard = none) (m x v : Operand) (hop : o.op = Op.mapUpdate 55 m x v) (hm : a.eval m = .map (some M)) (h : VSet w M n g) (hn : n < maxLen) (y : Sv.V) (hx : a.eval x = vv y) (hy : OkV y)
    (hv : a.eval v = .agg #[]) (hK : ∀ w', VSet w' M (n + 1) (fun z => decide (z = y) || g z) → w.mapTurned w' M → wpList Try.prog ops Q rest (a.put o.dst undef) w') : wpList Try.prog ops Q (o :: rest) a w := by
  refine wpList_plain hg fun K' hK' => ?_
  obtain ⟨w', hrun, h1, h2⟩ := h.put hn y hy
  unfold Oper.wp
  simp [execOp, hop, hm, hx, hv, hrun, Result.andThen]
  exact hK' _ _ (hK w' h1 h2)
end
/-- What has come of a set's keys: each once; just those that are no longer to come. -/
def CollV (D : DataW Unit) (left : Lit → Bool) (ss : List VW) : Prop := ss.Nodup ∧ ∀ x : VW, x ∈ ss ↔ (has D (vL x.1) = true ∧ left (vL x.1) = false)
theorem CollV.start (D : DataW Unit) : CollV D (has D) [] := ⟨List.nodup_nil, fun x => by cases has D (vL x.1) <;> simp⟩
theorem sameL (x : Sv.V) : (vL x).sameKey (vL x) = true := by unfold vL; simp [Lit.sameKey]
theorem CollV.step {D : DataW Unit} {left : Lit → Bool} {ss : List VW} (h : CollV D left ss) {x : VW} {y : DataW Unit} (hlk : left (vL x.1) = true) (hat : ∀ zd, D.atKey (vL x.1) zd = y) : CollV D (fun z => left z && !z.sameKey (vL x.1)) (ss ++ [x]) := by
  have hhas : has D (vL x.1) = true := has_true_of_atKey hat
  have hnew : x ∉ ss := fun hx => by have := ((h.2 x).1 hx).2; rw [hlk] at this; cases this
  refine ⟨List.nodup_append.2 ⟨h.1, by simp, fun a ha b hb => by simp at hb; subst hb; exact fun e => hnew (e ▸ ha)⟩, fun y => ?_⟩
  by_cases hy : y = x
  · subst hy; simp [hhas, sameL]
  · have hne : vL y.1 ≠ vL x.1 := fun e => hy (Subtype.ext (vL_inj y.2 x.2 e))
    have hs : (vL y.1).sameKey (vL x.1) = false := by
      unfold vL at hne ⊢
      simp only [ne_eq, Lit.string.injEq] at hne
      simp [Lit.sameKey, hne]
    simp [h.2 y, hy, hs]
end Go.Proofs.Ytmgnbpgcbehidaa
