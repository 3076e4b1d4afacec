/- Texts in a row: Mo Qi Qj. -/
import Derived.Test.YtncebhddcokkoaaDoorZM33
import Derived.Test.YtncebhddcokkoaaDoorZM20
import Derived.Test.YtncebhddcokkoaaDoorZM22
import Derived.Test.YtncebhddcokkoaaDoorZM30
import Derived.Test.YtncebhddcokkoaaDoorZM16
import Derived.Deep.QuietTactic
import Derived.BigQuiet
import Derived.Deep.DeepCutAuto
import Derived.Outline
import Derived.Test.YtncebhddcokkoaaDoorZM10
/- UnifyHolds, walked. -/
namespace Go.Proofs.YtncebhddcokkoaaDoor
open Go.RowKit Go.Maps
set_option linter.unusedSimpArgs false
set_option linter.unusedVariables false
theorem sm_cnt : ∀ (D : Nat) (t : Tm), cnt2 t ≤ 100000 → Sm D t := by
  intro D
  induction D with
  | zero => intro t _; trivial
  | succ D ih =>
    intro t h
    obtain ⟨k, p, n, N, l⟩ := t
    rw [cnt2_eq] at h
    have key : ∀ (m : List Tm), m.length ≤ (m.map cnt2).sum ∧ ∀ x ∈ m, cnt2 x ≤ (m.map cnt2).sum := by
      intro m
      induction m with
      | nil => exact ⟨Nat.le_refl _, fun x hx => by cases hx⟩
      | cons y m ihm =>
        have := cnt2_pos y
        refine ⟨by simp; omega, fun x hx => ?_⟩
        simp only [List.map_cons, List.sum_cons]
        rcases List.mem_cons.1 hx with rfl | hx
        · omega
        · have := ihm.2 x hx; omega
    exact ⟨by have := (key l).1; omega, fun x hx => ih x (by have := (key l).2 x hx; omega)⟩
end Go.Proofs.YtncebhddcokkoaaDoor
/- The document's solver: New. -/
namespace Go.Proofs.YtncebhddcokkoaaDoor
open Go.RowKit
set_option linter.unusedSimpArgs false
set_option linter.unusedVariables false
theorem Typ.nz {t : Tm} (h : Typ t) : NZ t := by
  induction h with
  | var s => exact .mk (by decide) fun x hx => by cases hx
  | con hk h ih => exact .mk (by rcases hk with rfl | rfl | rfl <;> decide) ih
theorem IsT.lt {w : World} {d : Nat} : ∀ {v : Value} {t : Tm}, IsT w d v t → IsX (fun b => b < w.heap.size) w d v t := by
  induction d with
  | zero => intro v t h; cases h
  | succ d ih =>
    intro v t h
    obtain ⟨k, p, n, N, kids⟩ := t
    obtain ⟨q, c, h1, h2, h3, h4, h5⟩ := h
    refine ⟨q, c, h1, h2, h3, h4, fun i y hy => ?_⟩
    obtain ⟨b, o, k', p', n', N', s', e, ha, ht⟩ := h5 i y hy
    exact ⟨b, o, k', p', n', N', s', e, ha.lt, ha, ih ht⟩
end Go.Proofs.YtncebhddcokkoaaDoor
/- The document's solver: Solve. -/
namespace Go.Proofs.YtncebhddcokkoaaDoor
open Go.RowKit
set_option linter.unusedSimpArgs false
set_option linter.unusedVariables false
theorem MadeV.app {base : Nat} {w wq : World} {d : Nat} {sv : Value} {L : List NT} {nm : ByteArray} {x : Tm} {g : Nat} {k N : Int} {p n : ByteArray} {q : Option Addr} {ln c : Nat} (h : MadeV base w d sv L) (hbase : base ≤ w.heap.size) (hb : Below w.heap.size w wq) (hnm : nm.size ≤ maxLen)
    (hx : IsX (fun b => w.heap.size ≤ b) wq d (tv k p n N (.slice q ln c)) x) (hg : wq.heap[g]? = some (.cells #[.string nm, .int .i64 k, .string p, .string n, .int .i64 N, .slice q ln c] 38 (0, 0))) (hL : L.length ≤ 100000) :
    ∃ v' w', (Builtin.append_ #[25, 25] 25 #[sv, .slice (some ⟨g, 0, none⟩) 1 1]).run Tryd.prog wq = .ok v' w' ∧ MadeV base w' d v' (L ++ [(nm, x)]) ∧ Below base wq w' := by
  obtain ⟨l, hl, ho, hd⟩ := h
  have hlt := ho.lt
  have hsz := hb.size
  obtain ⟨i, z, hi, hz, hs, hby, hzc⟩ := info38
  obtain ⟨v', w', r1, r2, r3, _, r5⟩ := run_append_own_at (P := Tryd.prog) (w := wq) base 25 25 38 i z 6 88 (by kernel_rfl) hi hz hs hby hzc (by decide) sv l.length (flatV l) (own_below ho hb) ⟨g, 0, none⟩ 1 1
    [.string nm, .int .i64 k, .string p, .string n, .int .i64 N, .slice q ln c] rfl
    (fun j u hu => by
      rw [add_zero_none, hb_cell hg]
      match j, hu with
      | 0, hu => exact hu
      | 1, hu => exact hu
      | 2, hu => exact hu
      | 3, hu => exact hu
      | 4, hu => exact hu
      | 5, hu => exact hu
      | j + 6, hu => simp at hu)
    (fun u hu => by
      simp only [List.mem_cons, List.not_mem_nil, or_false] at hu
      rcases hu with rfl | rfl | rfl | rfl | rfl | rfl <;> rfl)
    (by unfold maxLen; omega) (by omega) (by omega)
  exact ⟨v', w', r1, MadeV.next hl ho hd hb hnm (hx.move fun b hX hl2 => ⟨fun e => by have := hlt b e.symm; omega, rfl⟩) (fun _ _ => rfl) (Nat.le_refl _) r2 r3 r5, (Below.refl _ wq).grown r3 (by omega) (fun j hj => (hlt j hj).1)⟩
theorem IsX.leaf {X : Nat → Prop} {w : World} {d : Nat} {n : ByteArray} (hn : n.size ≤ maxLen) (hd : 1 ≤ d) : IsX X w d (tv 1 ⟨#[]⟩ n 0 (.slice none 0 0)) (vN n) := by
  obtain ⟨d, rfl⟩ : ∃ m, d = m + 1 := ⟨d - 1, by omega⟩
  exact ⟨none, 0, rfl, Nat.zero_le _, hn, Nat.zero_le _, fun i x hx => by simp at hx⟩
end Go.Proofs.YtncebhddcokkoaaDoor
