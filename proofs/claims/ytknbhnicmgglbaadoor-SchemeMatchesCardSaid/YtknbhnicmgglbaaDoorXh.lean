
/- Names of variables; a list of one term. -/
import Derived.Test.YtknbhnicmgglbaaDoorXf
namespace Go.Proofs.YtknbhnicmgglbaaDoor
open Go.RowKit
theorem IsT.pos {w : World} {d : Nat} {v : Value} {t : Tm} (h : IsT w d v t) : ∃ e, d = e + 1 := by
  cases d with
  | zero => cases h
  | succ d => exact ⟨d, rfl⟩
theorem put1_sz {ns : List ByteArray} {k : Int} {n : ByteArray} (h : ∀ s ∈ ns, s.size ≤ maxLen) (hn : n.size ≤ maxLen) : ∀ s ∈ put1 ns k n, s.size ≤ maxLen := by
  intro s hs
  unfold put1 at hs
  split at hs
  · rcases List.mem_append.1 hs with h1 | h1
    · exact h s h1
    · rw [List.mem_singleton.1 h1]; exact hn
  · exact h s hs
theorem vars_sz {w : World} : ∀ {d : Nat} {v : Value} {t : Tm}, IsT w d v t → ∀ {ns : List ByteArray}, (∀ s ∈ ns, s.size ≤ maxLen) → ∀ s ∈ varsT d ns t, s.size ≤ maxLen := by
  intro d
  induction d with
  | zero => intro v t h; cases h
  | succ d ih =>
    intro v t h ns hns
    obtain ⟨k, p, n, N, kids⟩ := t
    obtain ⟨q, c, _, _, hn, _, h5⟩ := h
    have hk : ∀ x ∈ kids, ∃ v, IsT w d v x := fun x hx => by
      obtain ⟨i, hi, hxi⟩ := List.getElem_of_mem hx
      obtain ⟨_, _, _, _, _, _, _, _, _, ht⟩ := h5 i x (by rw [List.getElem?_eq_getElem hi, hxi])
      exact ⟨_, ht⟩
    have key : ∀ (l : List Tm) (ns : List ByteArray), (∀ x ∈ l, ∃ v, IsT w d v x) → (∀ s ∈ ns, s.size ≤ maxLen) → ∀ s ∈ l.foldl (varsT d) ns, s.size ≤ maxLen := by
      intro l
      induction l with
      | nil => intro ns _ h s hs; exact h s hs
      | cons x l ihl =>
        intro ns hl h
        obtain ⟨v, hv⟩ := hl x (by simp)
        exact ihl _ (fun y hy => hl y (by simp [hy])) (ih hv h)
    exact key kids _ hk (put1_sz hns hn)
theorem TAt.of_block {w : World} {g : Nat} {cs : Array Value} {k : Int} {p n : ByteArray} {N : Int} {s : Value} (h : w.heap[g]? = some (.cells cs 24 (0, 0)))
    (j : Nat) (h0 : cs[j]? = some (.int .i64 k)) (h1 : cs[j + 1]? = some (.string p)) (h2 : cs[j + 2]? = some (.string n)) (h3 : cs[j + 3]? = some (.int .i64 N)) (h4 : cs[j + 4]? = some s) : TAt w g j k p n N s :=
  ⟨hb_at h _ h0, hb_at h _ h1, hb_at h _ h2, hb_at h _ h3, hb_at h _ h4⟩
theorem KidsT.one {w : World} {g d : Nat} {k : Int} {p n : ByteArray} {N : Int} {s : Value} {t : Tm} (h : w.heap[g]? = some (.cells #[.int .i64 k, .string p, .string n, .int .i64 N, s] 24 (0, 0))) (ht : IsT w d (tv k p n N s) t) : KidsT w d (.slice (some ⟨g, 0, none⟩) 1 1) [t] := by
  refine ⟨_, 1, rfl, by unfold maxLen; simp, fun i x hx => ?_⟩
  match i, hx with
  | 0, hx =>
    cases hx
    exact ⟨g, 0, k, p, n, N, s, rfl, TAt.of_block h 0 rfl rfl rfl rfl rfl, ht⟩
  | i + 1, hx => simp at hx
theorem info43 : ∃ z, (Tryd.prog.info? 34).map (fun i => (i.zero, i.size, i.bytes)) = some (some z, 6, 88) ∧ z.cells.size = 6 := ⟨.agg #[.string ⟨#[]⟩, .int .i64 0, .string ⟨#[]⟩, .string ⟨#[]⟩, .int .i64 0, .slice none 0 0], by kernel_rfl, rfl⟩
/-- What is looked up is a term. -/
theorem PutOk.got {w : World} {d : Nat} {g : ByteArray → Option Value} {P : ByteArray → Option Tm} (h : PutOk w (d + 1) g P) (s : ByteArray) : ∃ k p n N q l c t, (g s).getD zT = tv k p n N (.slice q l c) ∧ IsT w (d + 1) (tv k p n N (.slice q l c)) t ∧ Sm (d + 1) t := by
  rcases h s with ⟨h1, _⟩ | ⟨v, t, h1, _, h3, h4⟩
  · refine ⟨0, ⟨#[]⟩, ⟨#[]⟩, 0, none, 0, 0, .mk 0 ⟨#[]⟩ ⟨#[]⟩ 0 [], by rw [h1]; rfl, ?_, ⟨Nat.zero_le _, fun x hx => by cases hx⟩⟩
    exact IsT.shut (Nat.zero_le _) (Nat.zero_le _) ⟨none, 0, rfl, Nat.zero_le _, fun i x hx => by simp at hx⟩
  · obtain ⟨dv, kv, pv, nv, Nv, sv, lv, _, _, rfl, _, _, qv, cv, rfl, _, _⟩ := h3.open
    exact ⟨kv, pv, nv, Nv, qv, _, cv, t, by rw [h1]; rfl, h3, h4⟩
theorem oper_append_at {T : TypeId} {w w' : World} {o : Oper} {a : Act} {K : Act → World → Prop} {Q : Exit → Act → World → Prop} (s x : Operand)
    (ho : o.op = .call { callee := .builtin .append, args := #[s, x], argTypes := #[T, T] }) (hty : o.type = T) {v vx v' : Value} (hs : a.eval s = v) (hx : a.eval x = vx)
    (hrun : (Builtin.append_ #[T, T] T #[v, vx]).run Tryd.prog w = .ok v' w') (h : K (a.put o.dst v') w') : Oper.wp Tryd.prog o a w K Q := by
  unfold Oper.wp execOp
  simp only [ho, hty, resolve, invoke, builtin, Sem.run_bind, Sem.run_pure, Result.andThen_ok, List.map_toArray, List.map_cons, List.map_nil, hs, hx, hrun]
  exact h
theorem wpList_append_at {T : TypeId} {w w' : World} {ops : Array Oper} {rest : List Oper} {o : Oper} {a : Act} {Q : Exit → Act → World → Prop} (hg : o.guard = none) (s x : Operand)
    (ho : o.op = .call { callee := .builtin .append, args := #[s, x], argTypes := #[T, T] }) (hty : o.type = T) {v vx v' : Value} (hs : a.eval s = v) (hx : a.eval x = vx)
    (hrun : (Builtin.append_ #[T, T] T #[v, vx]).run Tryd.prog w = .ok v' w') (h : wpList Tryd.prog ops Q rest (a.put o.dst v') w') : wpList Tryd.prog ops Q (o :: rest) a w := by
  have hw : Region.wanted o (yielded ops a.tmps) = true := by simp [Region.wanted, hg]
  unfold wpList
  rw [if_pos hw]
  exact .inl (oper_append_at s x ho hty hs hx hrun h)
end Go.Proofs.YtknbhnicmgglbaaDoor
