/- Texts in a row: Xe Xf Xh. -/
import Derived.Test.YtncebhddcokkoaaDoorZM7
/- Boxes for terms, two of them, and their stores. -/
namespace Go.Proofs.YtncebhddcokkoaaDoor
open Go.RowKit
/-- A box for a term that is new, and empty. -/
def Inv.MP.box (base : Nat) : Inv.MP := ⟨fun v w => ∃ g, v = .pointer (some ⟨g, 0, none⟩) ∧ base ≤ g ∧ w.heap[g]? = some (.cells #[.int .i64 0, .string ⟨#[]⟩, .string ⟨#[]⟩, .int .i64 0, .slice none 0 0] 36 (0, 0)),
  fun v w w' ⟨g, h1, h2, h3⟩ hb => ⟨g, h1, h2, hb_below h3 hb (hb_lt h3)⟩⟩
/-- Two boxes that are two. -/
def Inv.Tie.two (a b : Nat) : Inv.Tie := ⟨a, b, fun v u _ => ∃ g g', v = .pointer (some ⟨g, 0, none⟩) ∧ u = .pointer (some ⟨g', 0, none⟩) ∧ g ≠ g', fun v u w w' h _ => h⟩
theorem two_new (w : World) (o1 o2 : Obj) : ((w.alloc o1).alloc o2).heap[w.heap.size]? = some o1 ∧ ((w.alloc o1).alloc o2).heap[w.heap.size + 1]? = some o2 := by
  have h := hb_new (w.alloc o1) o2
  rw [World.size_alloc] at h
  exact ⟨hb_alloc (hb_new w o1) o2, h⟩
theorem box_set {w : World} {base g : Nat} {z0 z1 z2 z3 z4 : Value} (hbg : base ≤ g) (hz : w.heap[g]? = some (.cells #[z0, z1, z2, z3, z4] 36 (0, 0))) (c0 c1 c2 c3 c4 : Value) :
    (((((w.setCell ⟨g, 0, none⟩ c0).setCell ⟨g, 1, none⟩ c1).setCell ⟨g, 2, none⟩ c2).setCell ⟨g, 3, none⟩ c3).setCell ⟨g, 4, none⟩ c4).heap[g]? = some (.cells #[c0, c1, c2, c3, c4] 36 (0, 0)) ∧
    (∀ b, b ≠ g → (((((w.setCell ⟨g, 0, none⟩ c0).setCell ⟨g, 1, none⟩ c1).setCell ⟨g, 2, none⟩ c2).setCell ⟨g, 3, none⟩ c3).setCell ⟨g, 4, none⟩ c4).heap[b]? = w.heap[b]?) ∧
    Below base w (((((w.setCell ⟨g, 0, none⟩ c0).setCell ⟨g, 1, none⟩ c1).setCell ⟨g, 2, none⟩ c2).setCell ⟨g, 3, none⟩ c3).setCell ⟨g, 4, none⟩ c4) := by
  refine ⟨?_, fun b hb => ?_, (((((Below.refl _ w).setCell (by simpa using hbg) _).setCell (by simpa using hbg) _).setCell (by simpa using hbg) _).setCell (by simpa using hbg) _).setCell (by simpa using hbg) _⟩
  · have h0 := hb_set_same hz 0 c0
    have h1 := hb_set_same h0 1 c1
    have h2 := hb_set_same h1 2 c2
    have h3 := hb_set_same h2 3 c3
    have h4 := hb_set_same h3 4 c4
    simpa using h4
  · rw [Below.heap_setCell _ _ _ b hb, Below.heap_setCell _ _ _ b hb, Below.heap_setCell _ _ _ b hb, Below.heap_setCell _ _ _ b hb, Below.heap_setCell _ _ _ b hb]
end Go.Proofs.YtncebhddcokkoaaDoor
/- One more pair; one more name that is put. -/
namespace Go.Proofs.YtncebhddcokkoaaDoor
open Go.RowKit
theorem info39 : ∃ z, (Tryd.prog.info? 110).map (fun i => (i.zero, i.size, i.bytes)) = some (some z, 10, 144) ∧ z.cells.size = 10 := ⟨.agg #[.int .i64 0, .string ⟨#[]⟩, .string ⟨#[]⟩, .int .i64 0, .slice none 0 0, .int .i64 0, .string ⟨#[]⟩, .string ⟨#[]⟩, .int .i64 0, .slice none 0 0], by kernel_rfl, rfl⟩
theorem MSt.push {w0 W : World} {D M b0 : Nat} {bx : Array Value} {sv : Value} {st : List (Tm × Tm)} {P : ByteArray → Option Tm} {n : Nat} (h : MSt w0 W D M b0 bx sv st P n) (b : Nat)
    (k1 N1 k2 N2 : Int) (p1 n1 p2 n2 : ByteArray) (q1 q2 : Option Addr) (l1 c1 l2 c2 : Nat)
    (hb : W.heap[b]? = some (.cells #[.int .i64 k1, .string p1, .string n1, .int .i64 N1, .slice q1 l1 c1, .int .i64 k2, .string p2, .string n2, .int .i64 N2, .slice q2 l2 c2] 110 (0, 0))) (x : Tm × Tm) (hx1 : IsT w0 D (tv k1 p1 n1 N1 (.slice q1 l1 c1)) x.1) (hx2 : IsT w0 D (tv k2 p2 n2 N2 (.slice q2 l2 c2)) x.2) (hs : Sm D x.2) (hn : st.length ≤ 100000) (cc : Nat) :
    ∃ v' W', (Builtin.append_ #[111, 111] 111 #[sv, .slice (some ⟨b, 0, none⟩) 1 cc]).run Tryd.prog W = .ok v' W' ∧ MSt w0 W' D M b0 bx v' (x :: st) P n ∧ (∀ (g : Nat) (cs : Array Value) (t : TypeId) (f : Nat × Nat), W.heap[g]? = some (Obj.cells cs t f) → t ≠ 110 → W'.heap[g]? = some (Obj.cells cs t f)) := by
  obtain ⟨z, hz, hzc⟩ := info39
  obtain ⟨i0, hi, hz0, hz1, hz2⟩ := info_parts hz
  obtain ⟨vs, hv1, hv2⟩ := h.vs
  obtain ⟨g, hg1, hg2⟩ := h.put
  have hvl := hv1.len
  obtain ⟨v', w', r1, r2, r3, _, r5⟩ := run_append_own_at (P := Tryd.prog) W w0.heap.size 111 111 110 i0 z 10 144 Tryd.underlying111 hi hz0 hz1 hz2 hzc (by decide) sv vs.length (prL vs) hv2 ⟨b, 0, none⟩ 1 cc (prC ((k1, p1, n1, N1, .slice q1 l1 c1), (k2, p2, n2, N2, .slice q2 l2 c2))) rfl
    (fun j u hu => by
      rw [add_zero_none, hb_cell hb]
      unfold prC at hu
      simpa using hu)
    (by simp [prC, Value.oneCell']) (by unfold maxLen; omega) (by omega) h.below.size
  obtain ⟨es, cl, hM⟩ := hg1.heap
  have hkeep : ∀ (g : Nat) (cs : Array Value) (t : TypeId) (f : Nat × Nat), W.heap[g]? = some (Obj.cells cs t f) → t ≠ 110 → w'.heap[g]? = some (Obj.cells cs t f) := fun g cs t f hx ht => hb_grown hx r3 (own_ne hv2 hx fun cs f e => by cases e; exact ht rfl)
  refine ⟨v', w', r1, ⟨⟨_ :: vs, ⟨hx1, hx2, hs, hv1⟩, by rw [prL_cons]; exact r2⟩, ⟨g, hg1.kept fun x hx => ?_, hg2⟩, hkeep _ _ _ _ h.box (by decide), h.lo, h.below.grown r3 h.below.size fun k hk => (hv2.lt k hk).1⟩, hkeep⟩
  rw [hM] at hx
  cases hx
  exact hb_grown hM r3 (own_ne hv2 hM fun cs f e => by cases e)
theorem MSt.turn {w0 w w1 : World} {D M b0 : Nat} {bx : Array Value} {sv : Value} {st : List (Tm × Tm)} {P : ByteArray → Option Tm} {n : Nat} (h : MSt w0 w D M b0 bx sv st P n) {g : ByteArray → Option Value} {nm : ByteArray} {v : Value} {t : Tm} {es : Array MapEntry} {cl : Nat} (hP : PutOk w0 D g P) (hm : w.heap[M]? = some (.map es cl))
    (hT1 : TMap w1 M (n + 1) (upV g nm v)) (ht : w.mapTurned w1 M) (hv : IsT w0 D v t) (hs : Sm D t) : MSt w0 w1 D M b0 bx sv st (upV P nm t) (n + 1) := by
  obtain ⟨vs, hv1, hv2⟩ := h.vs
  have hne : ∀ {g : Nat} {cs : Array Value} {t : TypeId}, w.heap[g]? = some (.cells cs t (0, 0)) → some g ≠ some M := fun hx e => by rw [Option.some.inj e, hm] at hx; cases hx
  have hnv : sv.ownBlock ≠ some M := fun e => own_ne hv2 hm (fun cs f e2 => by cases e2) e.symm
  exact ⟨⟨vs, hv1, World.ownsRow.kept hv2 ht.grown (.inr hnv)⟩, ⟨_, hT1, hP.up nm hv hs⟩, hb_grown h.box ht.grown (hne h.box), h.lo, turned_below h.below (Nat.le_refl _) ht h.lo.1⟩
theorem dp_more : ∀ {d : Nat} {t : Tm}, Dp d t → Dp (d + 1) t := by
  intro d
  induction d with
  | zero => intro t h; cases h
  | succ d ih =>
    intro t h
    obtain ⟨k, p, n, N, kids⟩ := t
    exact fun x hx => ih (h x hx)
theorem kid_sm {d : Nat} {k N : Int} {p n : ByteArray} {ls : List Tm} {y : Tm} (h : Dp d (.mk k p n N ls)) (hs : Sm d (.mk k p n N ls)) (hy : y ∈ ls) : Sm d y := by
  cases d with
  | zero => cases h
  | succ d => exact Sm.all (h y hy) (hs.2 y hy) _
theorem len_zip_meas {d : Nat} {k N : Int} {p n : ByteArray} {l m : List Tm} {y : Tm} {rest : List (Tm × Tm)} (h : Dp d (.mk k p n N l)) (hl : l.length = m.length) : (l.zip m).length ≤ meas d ((.mk k p n N l, y) :: rest) := by
  have h1 := meas_go (y := y) (rest := rest) h (Nat.le_refl _) hl
  rw [meas_append, meas_rev] at h1
  have h2 : ∀ x ∈ l.zip m, Dp d x.1 := fun x hx => by
    have hx1 := (List.of_mem_zip hx).1
    cases d with
    | zero => cases h
    | succ d => exact dp_more (h x.1 hx1)
  have h3 := len_meas h2
  omega
/-- A slice of one pair that is new. -/
def Inv.MP.pair (cs : Array Value) : Inv.MP := ⟨fun v w => ∃ g, v = .slice (some ⟨g, 0, none⟩) 1 1 ∧ w.heap[g]? = some (.cells cs 110 (0, 0)), fun v w w' ⟨g, h1, h2⟩ hb => ⟨g, h1, hb_below h2 hb (hb_lt h2)⟩⟩
theorem zip_at {l m : List Tm} {j : Nat} {x y : Tm} (hx : l[j]? = some x) (hy : m[j]? = some y) : (l.zip m)[j]? = some (x, y) := by
  rw [List.getElem?_zip_eq_some]
  exact ⟨hx, hy⟩
theorem zip_next {l m : List Tm} {j : Nat} {x y : Tm} {st : List (Tm × Tm)} (hx : l[j]? = some x) (hy : m[j]? = some y) : ((l.zip m).take (j + 1)).reverse ++ st = (x, y) :: (((l.zip m).take j).reverse ++ st) := by
  obtain ⟨h1, h2⟩ := List.getElem?_eq_some_iff.1 (zip_at hx hy)
  rw [List.take_succ_eq_append_getElem h1, h2, List.reverse_append]
  rfl
end Go.Proofs.YtncebhddcokkoaaDoor
/- Names of variables; a list of one term. -/
namespace Go.Proofs.YtncebhddcokkoaaDoor
open Go.RowKit
theorem IsT.pos {w : World} {d : Nat} {v : Value} {t : Tm} (h : IsT w d v t) : ∃ e, d = e + 1 := by
  cases d with
  | zero => cases h
  | succ d => exact ⟨d, rfl⟩
theorem put1_sz {ns : List ByteArray} {k : Int} {n : ByteArray} (h : ∀ s ∈ ns, s.size ≤ maxLen) (hn : n.size ≤ maxLen) : ∀ s ∈ put1 ns k n, s.size ≤ maxLen := by
  intro s hs
  unfold put1 at hs
  split at hs
  · rcases List.mem_append.1 hs with h1 | h1
    · exact h s h1
    · rw [List.mem_singleton.1 h1]; exact hn
  · exact h s hs
theorem vars_sz {w : World} : ∀ {d : Nat} {v : Value} {t : Tm}, IsT w d v t → ∀ {ns : List ByteArray}, (∀ s ∈ ns, s.size ≤ maxLen) → ∀ s ∈ varsT d ns t, s.size ≤ maxLen := by
  intro d
  induction d with
  | zero => intro v t h; cases h
  | succ d ih =>
    intro v t h ns hns
    obtain ⟨k, p, n, N, kids⟩ := t
    obtain ⟨q, c, _, _, hn, _, h5⟩ := h
    have hk : ∀ x ∈ kids, ∃ v, IsT w d v x := fun x hx => by
      obtain ⟨i, hi, hxi⟩ := List.getElem_of_mem hx
      obtain ⟨_, _, _, _, _, _, _, _, _, ht⟩ := h5 i x (by rw [List.getElem?_eq_getElem hi, hxi])
      exact ⟨_, ht⟩
    have key : ∀ (l : List Tm) (ns : List ByteArray), (∀ x ∈ l, ∃ v, IsT w d v x) → (∀ s ∈ ns, s.size ≤ maxLen) → ∀ s ∈ l.foldl (varsT d) ns, s.size ≤ maxLen := by
      intro l
      induction l with
      | nil => intro ns _ h s hs; exact h s hs
      | cons x l ihl =>
        intro ns hl h
        obtain ⟨v, hv⟩ := hl x (by simp)
        exact ihl _ (fun y hy => hl y (by simp [hy])) (ih hv h)
    exact key kids _ hk (put1_sz hns hn)
theorem TAt.of_block {w : World} {g : Nat} {cs : Array Value} {k : Int} {p n : ByteArray} {N : Int} {s : Value} (h : w.heap[g]? = some (.cells cs 36 (0, 0)))
    (j : Nat) (h0 : cs[j]? = some (.int .i64 k)) (h1 : cs[j + 1]? = some (.string p)) (h2 : cs[j + 2]? = some (.string n)) (h3 : cs[j + 3]? = some (.int .i64 N)) (h4 : cs[j + 4]? = some s) : TAt w g j k p n N s :=
  ⟨hb_at h _ h0, hb_at h _ h1, hb_at h _ h2, hb_at h _ h3, hb_at h _ h4⟩
theorem KidsT.one {w : World} {g d : Nat} {k : Int} {p n : ByteArray} {N : Int} {s : Value} {t : Tm} (h : w.heap[g]? = some (.cells #[.int .i64 k, .string p, .string n, .int .i64 N, s] 36 (0, 0))) (ht : IsT w d (tv k p n N s) t) : KidsT w d (.slice (some ⟨g, 0, none⟩) 1 1) [t] := by
  refine ⟨_, 1, rfl, by unfold maxLen; simp, fun i x hx => ?_⟩
  match i, hx with
  | 0, hx =>
    cases hx
    exact ⟨g, 0, k, p, n, N, s, rfl, TAt.of_block h 0 rfl rfl rfl rfl rfl, ht⟩
  | i + 1, hx => simp at hx
theorem info43 : ∃ z, (Tryd.prog.info? 38).map (fun i => (i.zero, i.size, i.bytes)) = some (some z, 6, 88) ∧ z.cells.size = 6 := ⟨.agg #[.string ⟨#[]⟩, .int .i64 0, .string ⟨#[]⟩, .string ⟨#[]⟩, .int .i64 0, .slice none 0 0], by kernel_rfl, rfl⟩
/-- What is looked up is a term. -/
theorem PutOk.got {w : World} {d : Nat} {g : ByteArray → Option Value} {P : ByteArray → Option Tm} (h : PutOk w (d + 1) g P) (s : ByteArray) : ∃ k p n N q l c t, (g s).getD zT = tv k p n N (.slice q l c) ∧ IsT w (d + 1) (tv k p n N (.slice q l c)) t ∧ Sm (d + 1) t := by
  rcases h s with ⟨h1, _⟩ | ⟨v, t, h1, _, h3, h4⟩
  · refine ⟨0, ⟨#[]⟩, ⟨#[]⟩, 0, none, 0, 0, .mk 0 ⟨#[]⟩ ⟨#[]⟩ 0 [], by rw [h1]; rfl, ?_, ⟨Nat.zero_le _, fun x hx => by cases hx⟩⟩
    exact IsT.shut (Nat.zero_le _) (Nat.zero_le _) ⟨none, 0, rfl, Nat.zero_le _, fun i x hx => by simp at hx⟩
  · obtain ⟨dv, kv, pv, nv, Nv, sv, lv, _, _, rfl, _, _, qv, cv, rfl, _, _⟩ := h3.open
    exact ⟨kv, pv, nv, Nv, qv, _, cv, t, by rw [h1]; rfl, h3, h4⟩
theorem oper_append_at {T : TypeId} {w w' : World} {o : Oper} {a : Act} {K : Act → World → Prop} {Q : Exit → Act → World → Prop} (s x : Operand)
    (ho : o.op = .call { callee := .builtin .append, args := #[s, x], argTypes := #[T, T] }) (hty : o.type = T) {v vx v' : Value} (hs : a.eval s = v) (hx : a.eval x = vx)
    (hrun : (Builtin.append_ #[T, T] T #[v, vx]).run Tryd.prog w = .ok v' w') (h : K (a.put o.dst v') w') : Oper.wp Tryd.prog o a w K Q := by
  unfold Oper.wp execOp
  simp only [ho, hty, resolve, invoke, builtin, Sem.run_bind, Sem.run_pure, Result.andThen_ok, List.map_toArray, List.map_cons, List.map_nil, hs, hx, hrun]
  exact h
theorem wpList_append_at {T : TypeId} {w w' : World} {ops : Array Oper} {rest : List Oper} {o : Oper} {a : Act} {Q : Exit → Act → World → Prop} (hg : o.guard = none) (s x : Operand)
    (ho : o.op = .call { callee := .builtin .append, args := #[s, x], argTypes := #[T, T] }) (hty : o.type = T) {v vx v' : Value} (hs : a.eval s = v) (hx : a.eval x = vx)
    (hrun : (Builtin.append_ #[T, T] T #[v, vx]).run Tryd.prog w = .ok v' w') (h : wpList Tryd.prog ops Q rest (a.put o.dst v') w') : wpList Tryd.prog ops Q (o :: rest) a w := by
  have hw : Region.wanted o (yielded ops a.tmps) = true := by simp [Region.wanted, hg]
  unfold wpList
  rw [if_pos hw]
  exact .inl (oper_append_at s x ho hty hs hx hrun h)
end Go.Proofs.YtncebhddcokkoaaDoor
