/- Texts in a row: Qc Qe Qh. -/
import Derived.Test.YtncebhddcokkoaaDoorZM19
import Derived.Deep.DeepCutAuto
import Derived.StillTailTactics
import Derived.Test.YtncebhddcokkoaaDoorZM10
import Derived.Test.YtncebhddcokkoaaDoorZM8
/- The document's solver: a name's place, what a type is at its top. -/
namespace Go.Proofs.YtncebhddcokkoaaDoor
open Go.RowKit
set_option linter.unusedSimpArgs false
set_option linter.unusedVariables false
theorem box_cells {w : World} {b : Nat} {k N : Int} {p n : ByteArray} {s : Value} (h : w.heap[b]? = some (.cells #[.int .i64 k, .string p, .string n, .int .i64 N, s] 36 (0, 0))) :
    w.cell? ⟨b, 0, none⟩ = some (.int .i64 k) ∧ w.cell? ⟨b, 1, none⟩ = some (.string p) ∧ w.cell? ⟨b, 2, none⟩ = some (.string n) ∧ w.cell? ⟨b, 3, none⟩ = some (.int .i64 N) ∧ w.cell? ⟨b, 4, none⟩ = some s :=
  ⟨hb_at h 0 rfl, hb_at h 1 rfl, hb_at h 2 rfl, hb_at h 3 rfl, hb_at h 4 rfl⟩
end Go.Proofs.YtncebhddcokkoaaDoor
/- The document's solver: Unify where the first one is a variable. -/
namespace Go.Proofs.YtncebhddcokkoaaDoor
open Go.RowKit
set_option linter.unusedSimpArgs false
set_option linter.unusedVariables false
theorem RS.put_put (S : RS) (n : ByteArray) (c : Tm) : (S.put n c).put n c = S.put n c := by
  funext m
  show (if m = n then some c else (if m = n then some c else S m)) = if m = n then some c else S m
  split <;> rfl
/-- The solver, ahead of a store or behind it. -/
def RSt2 (B0 B g D : Nat) (ns : List ByteArray) (S : RS) (nv : Value) (cg : Nat) (n : ByteArray) (c : Tm) (w : World) : Prop := RSt B0 B g D ns S nv cg w ∨ RSt B0 B g D ns (S.put n c) nv cg w
theorem RSt2.below {B0 B g D : Nat} {ns : List ByteArray} {S : RS} {nv : Value} {cg : Nat} {n : ByteArray} {c : Tm} {w w' : World} (h : RSt2 B0 B g D ns S nv cg n c w) (hb : Below w.heap.size w w') : RSt2 B0 B g D ns S nv cg n c w' := by
  rcases h with h | h
  · exact .inl (h.below hb)
  · exact .inr (h.below hb)
theorem RSt.frz {B0 B g D : Nat} {ns : List ByteArray} {S : RS} {nv : Value} {cg : Nat} {w : World} (h : RSt B0 B g D ns S nv cg w) (o : Nat) : w.frozen? ⟨g, o, none⟩ = false := by
  obtain ⟨ts, _, h2, _⟩ := h.row
  exact hb_free h2 o
theorem RSt2.at {B0 B g D : Nat} {ns : List ByteArray} {S : RS} {nv : Value} {cg : Nat} {n : ByteArray} {c : Tm} {w : World} (h : RSt2 B0 B g D ns S nv cg n c w) (hn : n ∈ ns) : ∃ k p m N s, TAt w g (ixO ns n * 5) k p m N s ∧ ∀ o, w.frozen? ⟨g, o, none⟩ = false := by
  rcases h with h | h
  · obtain ⟨k, p, m, N, s, ht, _⟩ := h.is hn
    exact ⟨k, p, m, N, s, ht, h.frz⟩
  · obtain ⟨k, p, m, N, s, ht, _⟩ := h.is hn
    exact ⟨k, p, m, N, s, ht, h.frz⟩
theorem RSt2.put {B0 B g D : Nat} {ns : List ByteArray} {S : RS} {nv : Value} {cg : Nat} {n : ByteArray} {x : Tm} {w : World} (h : RSt2 B0 B g D ns S nv cg n x w) (hn : n ∈ ns) {k N : Int} {p m : ByteArray} {s : Value} (hx : IsX (fun b => b < B0) w D (tv k p m N s) x) (hk : k ≠ 0) :
    RSt B0 B g D ns (S.put n x) nv cg (((((w.setCell ⟨g, ixO ns n * 5, none⟩ (.int .i64 k)).setCell ⟨g, ixO ns n * 5 + 1, none⟩ (.string p)).setCell ⟨g, ixO ns n * 5 + 2, none⟩ (.string m)).setCell ⟨g, ixO ns n * 5 + 3, none⟩ (.int .i64 N)).setCell ⟨g, ixO ns n * 5 + 4, none⟩ s) ∧
    Gk B0 g w (((((w.setCell ⟨g, ixO ns n * 5, none⟩ (.int .i64 k)).setCell ⟨g, ixO ns n * 5 + 1, none⟩ (.string p)).setCell ⟨g, ixO ns n * 5 + 2, none⟩ (.string m)).setCell ⟨g, ixO ns n * 5 + 3, none⟩ (.int .i64 N)).setCell ⟨g, ixO ns n * 5 + 4, none⟩ s) := by
  rcases h with h | h
  · exact h.put hn hx hk
  · have := h.put hn hx hk
    rw [RS.put_put] at this
    exact this
end Go.Proofs.YtncebhddcokkoaaDoor
/- The document's solver: a type with all that its variables became. -/
namespace Go.Proofs.YtncebhddcokkoaaDoor
open Go.RowKit
set_option linter.unusedSimpArgs false
set_option linter.unusedVariables false
theorem RS.Fu.shape {S : RS} {ns : List ByteArray} {t x u : Tm} (hl : RS.Look S t x) (h : RS.Fu S x u) (hw : Wt ns x) : ∃ (k : Int) (p m : ByteArray) (l ms : List Tm), x = .mk k p m 0 l ∧ u = .mk k p m 0 ms ∧ l.length = ms.length ∧ ∀ (i : Nat) (a b : Tm), l[i]? = some a → ms[i]? = some b → RS.Fu S a b ∧ Wt ns a := by
  obtain ⟨k, N, p, m, l, rfl, hf⟩ := hl.top
  obtain rfl := hw.zero
  rcases h.inv rfl with ⟨rfl, hn, e⟩ | ⟨rfl, c, hc, _⟩ | ⟨hk, ms, e, hl, hm⟩
  · obtain ⟨h1, rfl, rfl, _⟩ := hw.var
    exact ⟨1, _, m, [], [], rfl, e, rfl, fun i a b ha => by simp at ha⟩
  · rw [hf rfl] at hc; cases hc
  · exact ⟨k, p, m, l, ms, rfl, e, hl, fun i a b ha hb => ⟨hm i a b ha hb, hw.kid hk (List.mem_of_getElem? ha)⟩⟩
end Go.Proofs.YtncebhddcokkoaaDoor
