/- What Sorted answers. -/
import Derived.Test.YtmgnbpgcbehidaaG6
import Derived.Test.YtmgnbpgcbehidaaG2
namespace Go.Proofs.Ytmgnbpgcbehidaa
open Go.RowKit
def Asc (l : List Sv.V) : Prop := l.Pairwise fun a b => Sv.less b a = false
/-- What Sorted answers of the versions of a set. -/
structure SortedP (g : Sv.V → Bool) (base : Nat) (v : Value) (ls : List Sv.V) (w w' : World) : Prop where
  own : w'.ownsRow base 23 3 v ls.length (flatV ls)
  nodup : ls.Nodup
  asc : Asc ls
  ok : ∀ x ∈ ls, OkV x
  mem : ∀ x, OkV x → (x ∈ ls ↔ g x = true)
  below : Below base w w'
def SortedR (g : Sv.V → Bool) (base : Nat) (w : World) (e : Ending) (w' : World) : Prop := ∃ v ls, e = .returned v ∧ SortedP g base v ls w w'
def inB (l : List Sv.V) (y : Sv.V) : Bool := decide (y ∈ l)
theorem inB_snoc (l : List Sv.V) (k : Nat) (hk : k < l.length) : (fun z => decide (z = l[k]) || inB (l.take k) z) = inB (l.take (k + 1)) := by
  funext z
  unfold inB
  rw [Bool.eq_iff_iff]
  simp only [Bool.or_eq_true, decide_eq_true_eq]
  rw [List.take_succ_eq_append_getElem hk, List.mem_append, List.mem_singleton]
  exact or_comm
end Go.Proofs.Ytmgnbpgcbehidaa
