/- Texts in a row: Xf Xh Ya. -/
import Derived.Test.YtncebhddcokkoaaDoorZT18
import Derived.Deep.QuietTactic
import Derived.BigQuiet
import Derived.Deep.DeepCutAuto
import Derived.Outline
/- One more pair; one more name that is put. -/
namespace Go.Proofs.YtncebhddcokkoaaDoor
open Go.RowKit
theorem MSt.turn {w0 w w1 : World} {D M b0 : Nat} {bx : Array Value} {sv : Value} {st : List (Tm × Tm)} {P : ByteArray → Option Tm} {n : Nat} (h : MSt w0 w D M b0 bx sv st P n) {g : ByteArray → Option Value} {nm : ByteArray} {v : Value} {t : Tm} {es : Array MapEntry} {cl : Nat} (hP : PutOk w0 D g P) (hm : w.heap[M]? = some (.map es cl))
    (hT1 : TMap w1 M (n + 1) (upV g nm v)) (ht : w.mapTurned w1 M) (hv : IsT w0 D v t) (hs : Sm D t) : MSt w0 w1 D M b0 bx sv st (upV P nm t) (n + 1) := by
  obtain ⟨vs, hv1, hv2⟩ := h.vs
  have hne : ∀ {g : Nat} {cs : Array Value} {t : TypeId}, w.heap[g]? = some (.cells cs t (0, 0)) → some g ≠ some M := fun hx e => by rw [Option.some.inj e, hm] at hx; cases hx
  have hnv : sv.ownBlock ≠ some M := fun e => own_ne hv2 hm (fun cs f e2 => by cases e2) e.symm
  exact ⟨⟨vs, hv1, World.ownsRow.kept hv2 ht.grown (.inr hnv)⟩, ⟨_, hT1, hP.up nm hv hs⟩, hb_grown h.box ht.grown (hne h.box), h.lo, turned_below h.below (Nat.le_refl _) ht h.lo.1⟩
/-- A slice of one pair that is new. -/
def Inv.MP.pair (cs : Array Value) : Inv.MP := ⟨fun v w => ∃ g, v = .slice (some ⟨g, 0, none⟩) 1 1 ∧ w.heap[g]? = some (.cells cs 110 (0, 0)), fun v w w' ⟨g, h1, h2⟩ hb => ⟨g, h1, hb_below h2 hb (hb_lt h2)⟩⟩
end Go.Proofs.YtncebhddcokkoaaDoor
/- Names of variables; a list of one term. -/
namespace Go.Proofs.YtncebhddcokkoaaDoor
open Go.RowKit
theorem IsT.pos {w : World} {d : Nat} {v : Value} {t : Tm} (h : IsT w d v t) : ∃ e, d = e + 1 := by
  cases d with
  | zero => cases h
  | succ d => exact ⟨d, rfl⟩
theorem TAt.of_block {w : World} {g : Nat} {cs : Array Value} {k : Int} {p n : ByteArray} {N : Int} {s : Value} (h : w.heap[g]? = some (.cells cs 36 (0, 0)))
    (j : Nat) (h0 : cs[j]? = some (.int .i64 k)) (h1 : cs[j + 1]? = some (.string p)) (h2 : cs[j + 2]? = some (.string n)) (h3 : cs[j + 3]? = some (.int .i64 N)) (h4 : cs[j + 4]? = some s) : TAt w g j k p n N s :=
  ⟨hb_at h _ h0, hb_at h _ h1, hb_at h _ h2, hb_at h _ h3, hb_at h _ h4⟩
theorem KidsT.one {w : World} {g d : Nat} {k : Int} {p n : ByteArray} {N : Int} {s : Value} {t : Tm} (h : w.heap[g]? = some (.cells #[.int .i64 k, .string p, .string n, .int .i64 N, s] 36 (0, 0))) (ht : IsT w d (tv k p n N s) t) : KidsT w d (.slice (some ⟨g, 0, none⟩) 1 1) [t] := by
  refine ⟨_, 1, rfl, by unfold maxLen; simp, fun i x hx => ?_⟩
  match i, hx with
  | 0, hx =>
    cases hx
    exact ⟨g, 0, k, p, n, N, s, rfl, TAt.of_block h 0 rfl rfl rfl rfl rfl, ht⟩
  | i + 1, hx => simp at hx
end Go.Proofs.YtncebhddcokkoaaDoor
/- Names of variables: three of them; a function type of two. -/
namespace Go.Proofs.YtncebhddcokkoaaDoor
open Go.RowKit
theorem KidsT.two {w : World} {g d : Nat} {k : Int} {p n : ByteArray} {N : Int} {s : Value} {t : Tm} {k2 : Int} {p2 n2 : ByteArray} {N2 : Int} {s2 : Value} {t2 : Tm}
    (h : w.heap[g]? = some (.cells #[.int .i64 k, .string p, .string n, .int .i64 N, s, .int .i64 k2, .string p2, .string n2, .int .i64 N2, s2] 36 (0, 0))) (ht : IsT w d (tv k p n N s) t) (ht2 : IsT w d (tv k2 p2 n2 N2 s2) t2) : KidsT w d (.slice (some ⟨g, 0, none⟩) 2 2) [t, t2] := by
  refine ⟨_, 2, rfl, by unfold maxLen; simp, fun i x hx => ?_⟩
  match i, hx with
  | 0, hx => cases hx; exact ⟨g, 0, k, p, n, N, s, rfl, TAt.of_block h 0 rfl rfl rfl rfl rfl, ht⟩
  | 1, hx => cases hx; exact ⟨g, 0, k2, p2, n2, N2, s2, rfl, TAt.of_block h 5 rfl rfl rfl rfl rfl, ht2⟩
  | i + 2, hx => simp at hx
end Go.Proofs.YtncebhddcokkoaaDoor
