/- Texts in a row: Qh Ud Qi. -/
import Derived.Test.YtncebhddcokkoaaDoorZT31
import Derived.Test.YtncebhddcokkoaaDoorZT22
import Derived.Test.YtncebhddcokkoaaDoorZT19
import Derived.Test.YtncebhddcokkoaaDoorZT21
import Derived.Test.YtncebhddcokkoaaDoorZT12
import Derived.Outline
import Derived.Maps.AppendAt
import Derived.Test.YtncebhddcokkoaaDoorZT29
/- The document's solver: a type with all that its variables became. -/
namespace Go.Proofs.YtncebhddcokkoaaDoor
open Go.RowKit
set_option linter.unusedSimpArgs false
set_option linter.unusedVariables false
theorem RS.Fu.shape {S : RS} {ns : List ByteArray} {t x u : Tm} (hl : RS.Look S t x) (h : RS.Fu S x u) (hw : Wt ns x) : ∃ (k : Int) (p m : ByteArray) (l ms : List Tm), x = .mk k p m 0 l ∧ u = .mk k p m 0 ms ∧ l.length = ms.length ∧ ∀ (i : Nat) (a b : Tm), l[i]? = some a → ms[i]? = some b → RS.Fu S a b ∧ Wt ns a := by
  obtain ⟨k, N, p, m, l, rfl, hf⟩ := hl.top
  obtain rfl := hw.zero
  rcases h.inv rfl with ⟨rfl, hn, e⟩ | ⟨rfl, c, hc, _⟩ | ⟨hk, ms, e, hl, hm⟩
  · obtain ⟨h1, rfl, rfl, _⟩ := hw.var
    exact ⟨1, _, m, [], [], rfl, e, rfl, fun i a b ha => by simp at ha⟩
  · rw [hf rfl] at hc; cases hc
  · exact ⟨k, p, m, l, ms, rfl, e, hl, fun i a b ha hb => ⟨hm i a b ha hb, hw.kid hk (List.mem_of_getElem? ha)⟩⟩
end Go.Proofs.YtncebhddcokkoaaDoor
/- An append of a slice of texts to a row of the call's own. -/
namespace Go.Proofs.YtncebhddcokkoaaDoor
open Go.RowKit
theorem SRow.one {w : World} {g : Nat} {x : ByteArray} (h : w.heap[g]? = some (.cells #[.string x] 9 (0, 0))) : SRow w (.slice (some ⟨g, 0, none⟩) 1 1) [x] := by
  refine ⟨_, 1, rfl, fun i y hy => ⟨g, rfl, ?_⟩⟩
  match i, hy with
  | 0, hy => cases hy; exact hb_at h 0 rfl
  | i + 1, hy => simp at hy
end Go.Proofs.YtncebhddcokkoaaDoor
/- The document's solver: New. -/
namespace Go.Proofs.YtncebhddcokkoaaDoor
open Go.RowKit
set_option linter.unusedSimpArgs false
set_option linter.unusedVariables false
theorem Typ.nz {t : Tm} (h : Typ t) : NZ t := by
  induction h with
  | var s => exact .mk (by decide) fun x hx => by cases hx
  | con hk h ih => exact .mk (by rcases hk with rfl | rfl | rfl <;> decide) ih
theorem IsT.lt {w : World} {d : Nat} : ∀ {v : Value} {t : Tm}, IsT w d v t → IsX (fun b => b < w.heap.size) w d v t := by
  induction d with
  | zero => intro v t h; cases h
  | succ d ih =>
    intro v t h
    obtain ⟨k, p, n, N, kids⟩ := t
    obtain ⟨q, c, h1, h2, h3, h4, h5⟩ := h
    refine ⟨q, c, h1, h2, h3, h4, fun i y hy => ?_⟩
    obtain ⟨b, o, k', p', n', N', s', e, ha, ht⟩ := h5 i y hy
    exact ⟨b, o, k', p', n', N', s', e, ha.lt, ha, ih ht⟩
end Go.Proofs.YtncebhddcokkoaaDoor
