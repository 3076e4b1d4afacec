/- Sets of versions: maps whose keys are versions. -/
import Derived.Test.YtmgnbpgcbehidaaA1
import Derived.DeepKeys4
import Derived.Maps.OwnSet
import Derived.Maps.OwnOps
import Derived.Maps.RangeWalk
import Derived.Sort.MapsRangeIn
namespace Go.Proofs.Ytmgnbpgcbehidaa
open Go.RowKit Go.Maps Go.WideMaps

def okI (i : Int) : Prop := (Lit.int .i64 i).wf = true
def OkV (x : Sv.V) : Prop := okI x.a ∧ okI x.b ∧ okI x.c
/-- A version whose numbers are of the model's kind. -/
abbrev VW := { x : Sv.V // OkV x }
theorem laidTr : laidOutB Try.prog = true := by kernel_rfl
theorem row23 : (23 : TypeId) < Try.prog.types.size := of_decide_eq_true (by kernel_rfl)
theorem wide23 : (match Try.prog.underlying 23 with | some (.array _ _) | some (.struct _) => true | _ => false) = true := by kernel_rfl
set_option maxRecDepth 100000 in
theorem law23 : KeyLaw Try.prog 23 := deep_law_laid laidTr (m := 3) (by omega) row23 (by kernel_rfl) wide23
theorem K23 : Maps.Keyed Try.prog 23 := Maps.Keyed.of_law law23
theorem kt23 : Try.prog.keyType 23 = true := by kernel_rfl
theorem cells23 : Try.prog.cellsOf 23 = 3 := by kernel_rfl
theorem cells3 : Try.prog.cellsOf 3 = 1 := by kernel_rfl
def vL (x : Sv.V) : Lit := .string (keyBytes [.int .i64 x.a, .int .i64 x.b, .int .i64 x.c])

set_option maxRecDepth 100000 in
theorem key23 (x : Sv.V) (h : OkV x) : keyOf Try.prog 23 (vv x) = some (vL x) := by
  obtain ⟨ha, hb, hc⟩ := h
  obtain ⟨d, hd⟩ : ∃ d, Try.prog.types.size = d + 1 := ⟨Try.prog.types.size - 1, by have : 23 < Try.prog.types.size := row23; omega⟩
  have hf : (vv x).formed Try.prog 23 = true := by simp [Value.formed, Try.underlying23, cells23]
  have h3 : ∀ i, okI i → Try.prog.keyLits (d + 1) 3 [.int .i64 i] = some [.int .i64 i] := fun i hi => by
    have : (Lit.int .i64 i).wf = true := hi
    simp [Program.keyLits, Try.underlying3, this]
  have h0 : Try.prog.keyLits (d + 1 + 1) 23 [.int .i64 x.a, .int .i64 x.b, .int .i64 x.c] = some [.int .i64 x.a, .int .i64 x.b, .int .i64 x.c] := by
    unfold Program.keyLits
    rw [Try.underlying23]
    simp [cells23, cells3, h3 _ ha, h3 _ hb, h3 _ hc]
  unfold keyOf
  rw [Try.underlying23]
  dsimp only
  rw [kt23, hf, hd]
  simp only [Bool.and_self, if_true]
  show (Try.prog.keyLits (d + 1 + 1) 23 [.int .i64 x.a, .int .i64 x.b, .int .i64 x.c]).map _ = _
  rw [h0]
  rfl
theorem vv_inj {x y : Sv.V} (h : vv x = vv y) : x = y := by
  cases x; cases y
  simpa [vv] using h
theorem vL_inj {x y : Sv.V} (hx : OkV x) (hy : OkV y) (h : vL x = vL y) : x = y := by
  have h1 := key23 x hx
  have h2 := key23 y hy
  rw [h] at h1
  exact vv_inj (K23.inj h1 h2)
end Go.Proofs.Ytmgnbpgcbehidaa
