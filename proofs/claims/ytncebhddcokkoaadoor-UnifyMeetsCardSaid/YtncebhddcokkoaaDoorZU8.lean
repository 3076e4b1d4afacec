/- Texts in a row: Xe Xf Xh. -/
import Derived.Test.YtncebhddcokkoaaDoorZU7
/- Boxes for terms, two of them, and their stores. -/
namespace Go.Proofs.YtncebhddcokkoaaDoor
open Go.RowKit
/-- A box for a term that is new, and empty. -/
def Inv.MP.box (base : Nat) : Inv.MP := ⟨fun v w => ∃ g, v = .pointer (some ⟨g, 0, none⟩) ∧ base ≤ g ∧ w.heap[g]? = some (.cells #[.int .i64 0, .string ⟨#[]⟩, .string ⟨#[]⟩, .int .i64 0, .slice none 0 0] 36 (0, 0)),
  fun v w w' ⟨g, h1, h2, h3⟩ hb => ⟨g, h1, h2, hb_below h3 hb (hb_lt h3)⟩⟩
/-- Two boxes that are two. -/
def Inv.Tie.two (a b : Nat) : Inv.Tie := ⟨a, b, fun v u _ => ∃ g g', v = .pointer (some ⟨g, 0, none⟩) ∧ u = .pointer (some ⟨g', 0, none⟩) ∧ g ≠ g', fun v u w w' h _ => h⟩
theorem box_set {w : World} {base g : Nat} {z0 z1 z2 z3 z4 : Value} (hbg : base ≤ g) (hz : w.heap[g]? = some (.cells #[z0, z1, z2, z3, z4] 36 (0, 0))) (c0 c1 c2 c3 c4 : Value) :
    (((((w.setCell ⟨g, 0, none⟩ c0).setCell ⟨g, 1, none⟩ c1).setCell ⟨g, 2, none⟩ c2).setCell ⟨g, 3, none⟩ c3).setCell ⟨g, 4, none⟩ c4).heap[g]? = some (.cells #[c0, c1, c2, c3, c4] 36 (0, 0)) ∧
    (∀ b, b ≠ g → (((((w.setCell ⟨g, 0, none⟩ c0).setCell ⟨g, 1, none⟩ c1).setCell ⟨g, 2, none⟩ c2).setCell ⟨g, 3, none⟩ c3).setCell ⟨g, 4, none⟩ c4).heap[b]? = w.heap[b]?) ∧
    Below base w (((((w.setCell ⟨g, 0, none⟩ c0).setCell ⟨g, 1, none⟩ c1).setCell ⟨g, 2, none⟩ c2).setCell ⟨g, 3, none⟩ c3).setCell ⟨g, 4, none⟩ c4) := by
  refine ⟨?_, fun b hb => ?_, (((((Below.refl _ w).setCell (by simpa using hbg) _).setCell (by simpa using hbg) _).setCell (by simpa using hbg) _).setCell (by simpa using hbg) _).setCell (by simpa using hbg) _⟩
  · have h0 := hb_set_same hz 0 c0
    have h1 := hb_set_same h0 1 c1
    have h2 := hb_set_same h1 2 c2
    have h3 := hb_set_same h2 3 c3
    have h4 := hb_set_same h3 4 c4
    simpa using h4
  · rw [Below.heap_setCell _ _ _ b hb, Below.heap_setCell _ _ _ b hb, Below.heap_setCell _ _ _ b hb, Below.heap_setCell _ _ _ b hb, Below.heap_setCell _ _ _ b hb]
end Go.Proofs.YtncebhddcokkoaaDoor
/- One more pair; one more name that is put. -/
namespace Go.Proofs.YtncebhddcokkoaaDoor
open Go.RowKit
theorem MSt.turn {w0 w w1 : World} {D M b0 : Nat} {bx : Array Value} {sv : Value} {st : List (Tm × Tm)} {P : ByteArray → Option Tm} {n : Nat} (h : MSt w0 w D M b0 bx sv st P n) {g : ByteArray → Option Value} {nm : ByteArray} {v : Value} {t : Tm} {es : Array MapEntry} {cl : Nat} (hP : PutOk w0 D g P) (hm : w.heap[M]? = some (.map es cl))
    (hT1 : TMap w1 M (n + 1) (upV g nm v)) (ht : w.mapTurned w1 M) (hv : IsT w0 D v t) (hs : Sm D t) : MSt w0 w1 D M b0 bx sv st (upV P nm t) (n + 1) := by
  obtain ⟨vs, hv1, hv2⟩ := h.vs
  have hne : ∀ {g : Nat} {cs : Array Value} {t : TypeId}, w.heap[g]? = some (.cells cs t (0, 0)) → some g ≠ some M := fun hx e => by rw [Option.some.inj e, hm] at hx; cases hx
  have hnv : sv.ownBlock ≠ some M := fun e => own_ne hv2 hm (fun cs f e2 => by cases e2) e.symm
  exact ⟨⟨vs, hv1, World.ownsRow.kept hv2 ht.grown (.inr hnv)⟩, ⟨_, hT1, hP.up nm hv hs⟩, hb_grown h.box ht.grown (hne h.box), h.lo, turned_below h.below (Nat.le_refl _) ht h.lo.1⟩
/-- A slice of one pair that is new. -/
def Inv.MP.pair (cs : Array Value) : Inv.MP := ⟨fun v w => ∃ g, v = .slice (some ⟨g, 0, none⟩) 1 1 ∧ w.heap[g]? = some (.cells cs 110 (0, 0)), fun v w w' ⟨g, h1, h2⟩ hb => ⟨g, h1, hb_below h2 hb (hb_lt h2)⟩⟩
end Go.Proofs.YtncebhddcokkoaaDoor
/- Names of variables; a list of one term. -/
namespace Go.Proofs.YtncebhddcokkoaaDoor
open Go.RowKit
theorem IsT.pos {w : World} {d : Nat} {v : Value} {t : Tm} (h : IsT w d v t) : ∃ e, d = e + 1 := by
  cases d with
  | zero => cases h
  | succ d => exact ⟨d, rfl⟩
theorem TAt.of_block {w : World} {g : Nat} {cs : Array Value} {k : Int} {p n : ByteArray} {N : Int} {s : Value} (h : w.heap[g]? = some (.cells cs 36 (0, 0)))
    (j : Nat) (h0 : cs[j]? = some (.int .i64 k)) (h1 : cs[j + 1]? = some (.string p)) (h2 : cs[j + 2]? = some (.string n)) (h3 : cs[j + 3]? = some (.int .i64 N)) (h4 : cs[j + 4]? = some s) : TAt w g j k p n N s :=
  ⟨hb_at h _ h0, hb_at h _ h1, hb_at h _ h2, hb_at h _ h3, hb_at h _ h4⟩
theorem KidsT.one {w : World} {g d : Nat} {k : Int} {p n : ByteArray} {N : Int} {s : Value} {t : Tm} (h : w.heap[g]? = some (.cells #[.int .i64 k, .string p, .string n, .int .i64 N, s] 36 (0, 0))) (ht : IsT w d (tv k p n N s) t) : KidsT w d (.slice (some ⟨g, 0, none⟩) 1 1) [t] := by
  refine ⟨_, 1, rfl, by unfold maxLen; simp, fun i x hx => ?_⟩
  match i, hx with
  | 0, hx =>
    cases hx
    exact ⟨g, 0, k, p, n, N, s, rfl, TAt.of_block h 0 rfl rfl rfl rfl rfl, ht⟩
  | i + 1, hx => simp at hx
theorem oper_append_at {T : TypeId} {w w' : World} {o : Oper} {a : Act} {K : Act → World → Prop} {Q : Exit → Act → World → Prop} (s x : Operand)
    (ho : o.op = .call { callee := .builtin .append, args := #[s, x], argTypes := #[T, T] }) (hty : o.type = T) {v vx v' : Value} (hs : a.eval s = v) (hx : a.eval x = vx)
    (hrun : (Builtin.append_ #[T, T] T #[v, vx]).run Tryd.prog w = .ok v' w') (h : K (a.put o.dst v') w') : Oper.wp Tryd.prog o a w K Q := by
  unfold Oper.wp execOp
  simp only [ho, hty, resolve, invoke, builtin, Sem.run_bind, Sem.run_pure, Result.andThen_ok, List.map_toArray, List.map_cons, List.map_nil, hs, hx, hrun]
  exact h
theorem wpList_append_at {T : TypeId} {w w' : World} {ops : Array Oper} {rest : List Oper} {o : Oper} {a : Act} {Q : Exit → Act → World → Prop} (hg : o.guard = none) (s x : Operand)
    (ho : o.op = .call { callee := .builtin .append, args := #[s, x], argTypes := #[T, T] }) (hty : o.type = T) {v vx v' : Value} (hs : a.eval s = v) (hx : a.eval x = vx)
    (hrun : (Builtin.append_ #[T, T] T #[v, vx]).run Tryd.prog w = .ok v' w') (h : wpList Tryd.prog ops Q rest (a.put o.dst v') w') : wpList Tryd.prog ops Q (o :: rest) a w := by
  have hw : Region.wanted o (yielded ops a.tmps) = true := by simp [Region.wanted, hg]
  unfold wpList
  rw [if_pos hw]
  exact .inl (oper_append_at s x ho hty hs hx hrun h)
end Go.Proofs.YtncebhddcokkoaaDoor
