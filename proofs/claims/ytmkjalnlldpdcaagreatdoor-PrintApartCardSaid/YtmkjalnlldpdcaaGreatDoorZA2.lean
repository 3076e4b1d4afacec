/- Texts in a row: A1 A2 A4 M1. -/
import Derived.Test.YtmkjalnlldpdcaaGreatDoorZA1
import Derived.Outline
import Derived.Deep.RegionHeld3
import Derived.StillTailTactics
import Derived.BigQuiet
import Derived.Deep.QuietTactic
import Derived.Deep.RegionWith
import Derived.Lib.IndexMore
import Derived.Lib.IndexLaws
/- Contracts: cmp.Compare, cmp.Or of three, Compare of two versions, the document's Less and Compare, both Gaps. -/
namespace Go.Proofs.YtmkjalnlldpdcaaGreatDoor
open Go.RowKit

namespace Sv
/-- A version. -/
structure V where
  a : Int
  b : Int
  c : Int
deriving DecidableEq
end Sv
abbrev vv (x : Sv.V) : Value := .agg #[.int .i64 x.a, .int .i64 x.b, .int .i64 x.c]
theorem bcellX {W w1 : World} (hb : Below W.heap.size W w1) : (∀ b o, b < W.heap.size → w1.cell? ⟨b, o, none⟩ = W.cell? ⟨b, o, none⟩) ∧ (∀ b o, b < W.heap.size → w1.frozen? ⟨b, o, none⟩ = W.frozen? ⟨b, o, none⟩) :=
  ⟨fun b o h => hb.cell (p := ⟨b, o, none⟩) h, fun b o h => hb.frozen (p := ⟨b, o, none⟩) h⟩
end Go.Proofs.YtmkjalnlldpdcaaGreatDoor
/- Contracts: the document's Compare, both Gaps, cmp.Or of three numbers, Compare of two versions. -/
namespace Go.Proofs.YtmkjalnlldpdcaaGreatDoor
open Go.RowKit

theorem below2X (w : World) (o1 o2 : Obj) : Below w.heap.size w ((w.alloc o1).alloc o2) := (below_alloc _ _).trans ((below_alloc _ _).mono (by simp))
end Go.Proofs.YtmkjalnlldpdcaaGreatDoor
/- Contracts: numbersOf, version, Right both, in. -/
namespace Go.Proofs.YtmkjalnlldpdcaaGreatDoor
open Go.RowKit
namespace Sv
def inR (n : Int) : Bool := decide (0 ≤ n ∧ n ≤ 999999)
def right (v : V) : Bool := inR v.a && inR v.b && inR v.c
end Sv
theorem version_any (x : Sv.V) (w : World) : Calls Tryz.prog 260 #[vv x] w fun e w' => e = .returned (vv x) ∧ Below w.heap.size w w' := by
  go_enter Tryz.func260, Tryz.ntmps260
  go_wp2
  exact bodyPost_ret (v := .agg #[.int .i64 x.a, .int .i64 x.b, .int .i64 x.c]) (by simp [results, Tryz.results260, go_sem]) rfl ⟨rfl, below2X w _ _⟩
end Go.Proofs.YtmkjalnlldpdcaaGreatDoor
/- Mathematics of digits: the value of a number's digits, which texts are numbers. -/
namespace Go.Proofs.YtmkjalnlldpdcaaGreatDoor
namespace Sv
def isDig (c : UInt8) : Bool := decide (48 ≤ c.toNat ∧ c.toNat ≤ 57)
theorem isDig_yes {c : UInt8} (h : isDig c = true) : 48 ≤ c.toNat ∧ c.toNat ≤ 57 := by unfold isDig at h; exact of_decide_eq_true h
theorem isDig_no {c : UInt8} (h : isDig c = false) : c.toNat < 48 ∨ (48 ≤ c.toNat ∧ 57 < c.toNat) := by
  unfold isDig at h
  have := of_decide_eq_false h
  omega
def val (l : List UInt8) : Nat := l.foldl (fun n c => 10 * n + (c.toNat - 48)) 0
theorem val_nil : val [] = 0 := rfl
theorem val_snoc (l : List UInt8) (c : UInt8) : val (l ++ [c]) = 10 * val l + (c.toNat - 48) := by simp [val, List.foldl_append]
theorem take_snoc (l : List UInt8) (k : Nat) (h : k < l.length) : l.take (k + 1) = l.take k ++ [l[k]] := List.take_succ_eq_append_getElem h
theorem val_take (l : List UInt8) (k : Nat) (h : k < l.length) : val (l.take (k + 1)) = 10 * val (l.take k) + (l[k].toNat - 48) := by
  rw [take_snoc l k h, val_snoc]
theorem foldl_ge (l : List UInt8) (a b : Nat) (h : a ≤ b) : a ≤ l.foldl (fun n c => 10 * n + (c.toNat - 48)) b := by
  induction l generalizing b with
  | nil => exact h
  | cons c l ih => exact ih _ (by show a ≤ 10 * b + (c.toNat - 48); omega)
theorem val_mono (l : List UInt8) (k : Nat) : val (l.take k) ≤ val l := by
  have e : val l = (l.drop k).foldl (fun n c => 10 * n + (c.toNat - 48)) (val (l.take k)) := by
    unfold val
    rw [← List.foldl_append, List.take_append_drop]
  rw [e]
  exact foldl_ge _ _ _ (Nat.le_refl _)
def NumP (l : List UInt8) : Prop := l ≠ [] ∧ ¬ (l.head? = some 48 ∧ 1 < l.length) ∧ (∀ c ∈ l, isDig c = true) ∧ val l ≤ 999999
instance (l : List UInt8) : Decidable (NumP l) := by unfold NumP; exact inferInstance
def numB (l : List UInt8) : Bool := decide (NumP l)
def numV (l : List UInt8) : Nat := if NumP l then val l else 0
theorem num_no {l : List UInt8} (h : ¬ NumP l) : numB l = false ∧ numV l = 0 := by
  unfold numB numV
  rw [if_neg h]
  exact ⟨decide_eq_false h, rfl⟩
theorem num_yes {l : List UInt8} (h : NumP l) : numB l = true ∧ numV l = val l := by
  unfold numB numV
  rw [if_pos h]
  exact ⟨decide_eq_true h, rfl⟩
theorem no_empty : ¬ NumP [] := fun h => h.1 rfl
theorem no_zero {l : List UInt8} (h : l.head? = some 48) (h1 : 1 < l.length) : ¬ NumP l := fun g => g.2.1 ⟨h, h1⟩
theorem no_digit {l : List UInt8} {k : Nat} (h : k < l.length) (hd : isDig l[k] = false) : ¬ NumP l := fun g => by
  have := g.2.2.1 l[k] (List.getElem_mem h)
  rw [hd] at this
  cases this
theorem no_big {l : List UInt8} {k : Nat} (h : 999999 < val (l.take k)) : ¬ NumP l := fun g => by
  have := val_mono l k
  have := g.2.2.2
  omega
end Sv
end Go.Proofs.YtmkjalnlldpdcaaGreatDoor
