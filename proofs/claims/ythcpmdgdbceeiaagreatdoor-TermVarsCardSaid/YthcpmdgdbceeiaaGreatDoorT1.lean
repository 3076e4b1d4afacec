/- Terms in memory; an argument that is one. -/
import Derived.Test.YthcpmdgdbceeiaaGreatDoorA0
import Derived.Deep.Slices
import Derived.Deep.Fields
import Derived.ChangeSame
namespace Go.Proofs.YthcpmdgdbceeiaaGreatDoor
open Go.ChangeShapes Go.WideShapes Go.RowKit Go.Deep
/-- A term, as a tree. -/
inductive Tm where
  | mk (k : Int) (p n : ByteArray) (N : Int) (kids : List Tm)
/-- A struct of five cells. -/
abbrev tv (k : Int) (p n : ByteArray) (N : Int) (s : Value) : Value := .agg #[.int .i64 k, .string p, .string n, .int .i64 N, s]
def TAt (w : World) (b o : Nat) (k : Int) (p n : ByteArray) (N : Int) (s : Value) : Prop :=
  w.cell? ⟨b, o, none⟩ = some (.int .i64 k) ∧ w.cell? ⟨b, o + 1, none⟩ = some (.string p) ∧ w.cell? ⟨b, o + 2, none⟩ = some (.string n) ∧ w.cell? ⟨b, o + 3, none⟩ = some (.int .i64 N) ∧ w.cell? ⟨b, o + 4, none⟩ = some s
/-- A value is a term, at most so deep. -/
def IsT (w : World) : Nat → Value → Tm → Prop
  | 0, _, _ => False
  | d + 1, v, .mk k p n N kids => ∃ q c, v = tv k p n N (.slice q kids.length c) ∧ p.size ≤ maxLen ∧ n.size ≤ maxLen ∧ kids.length ≤ maxLen ∧
      ∀ i x, kids[i]? = some x → ∃ b o k' p' n' N' s', q = some ⟨b, o, none⟩ ∧ TAt w b (o + i * 5) k' p' n' N' s' ∧ IsT w d (tv k' p' n' N' s') x
/-- A slice of terms. -/
def KidsT (w : World) (d : Nat) (s : Value) (kids : List Tm) : Prop := ∃ q c, s = .slice q kids.length c ∧ kids.length ≤ maxLen ∧
  ∀ i x, kids[i]? = some x → ∃ b o k' p' n' N' s', q = some ⟨b, o, none⟩ ∧ TAt w b (o + i * 5) k' p' n' N' s' ∧ IsT w d (tv k' p' n' N' s') x
theorem TAt.lt {w : World} {b o : Nat} {k : Int} {p n : ByteArray} {N : Int} {s : Value} (h : TAt w b o k p n N s) : b < w.heap.size := block_lt_of_cell h.1
theorem TAt.keep {w w' : World} {b o : Nat} {k : Int} {p n : ByteArray} {N : Int} {s : Value} (h : TAt w b o k p n N s) (hk : ∀ j, w'.cell? ⟨b, j, none⟩ = w.cell? ⟨b, j, none⟩) : TAt w' b o k p n N s :=
  ⟨by rw [hk, h.1], by rw [hk, h.2.1], by rw [hk, h.2.2.1], by rw [hk, h.2.2.2.1], by rw [hk, h.2.2.2.2]⟩
theorem TAt.below {w w' : World} {b o m : Nat} {k : Int} {p n : ByteArray} {N : Int} {s : Value} (h : TAt w b o k p n N s) (hb : Below m w w') (hm : b < m) : TAt w' b o k p n N s :=
  h.keep fun j => hb.cell (p := ⟨b, j, none⟩) hm
theorem IsT.below {w w' : World} {d : Nat} (hb : Below w.heap.size w w') : ∀ {v : Value} {x : Tm}, IsT w d v x → IsT w' d v x := by
  induction d with
  | zero => intro v x h; exact h
  | succ d ih =>
    intro v x h
    obtain ⟨k, p, n, N, kids⟩ := x
    obtain ⟨q, c, h1, h2, h3, h4, h5⟩ := h
    refine ⟨q, c, h1, h2, h3, h4, fun i y hy => ?_⟩
    obtain ⟨b, o, k', p', n', N', s', e, ha, ht⟩ := h5 i y hy
    exact ⟨b, o, k', p', n', N', s', e, ha.below hb ha.lt, ih ht⟩
theorem IsT.more {w : World} {d d' : Nat} (hd : d ≤ d') : ∀ {v : Value} {x : Tm}, IsT w d v x → IsT w d' v x := by
  induction d generalizing d' with
  | zero => intro v x h; cases h
  | succ d ih =>
    intro v x h
    obtain ⟨d', rfl⟩ : ∃ m, d' = m + 1 := ⟨d' - 1, by omega⟩
    obtain ⟨k, p, n, N, kids⟩ := x
    obtain ⟨q, c, h1, h2, h3, h4, h5⟩ := h
    refine ⟨q, c, h1, h2, h3, h4, fun i y hy => ?_⟩
    obtain ⟨b, o, k', p', n', N', s', e, ha, ht⟩ := h5 i y hy
    exact ⟨b, o, k', p', n', N', s', e, ha, ih (by omega) ht⟩
theorem KidsT.below {w w' : World} {d : Nat} {s : Value} {kids : List Tm} (h : KidsT w d s kids) (hb : Below w.heap.size w w') : KidsT w' d s kids := by
  obtain ⟨q, c, h1, h4, h5⟩ := h
  refine ⟨q, c, h1, h4, fun i y hy => ?_⟩
  obtain ⟨b, o, k', p', n', N', s', e, ha, ht⟩ := h5 i y hy
  exact ⟨b, o, k', p', n', N', s', e, ha.below hb ha.lt, ht.below hb⟩
theorem IsT.open {w : World} {d : Nat} {v : Value} {x : Tm} (h : IsT w d v x) : ∃ m k p n N s kids, d = m + 1 ∧ x = .mk k p n N kids ∧ v = tv k p n N s ∧ p.size ≤ maxLen ∧ n.size ≤ maxLen ∧ KidsT w m s kids := by
  cases d with
  | zero => cases h
  | succ d =>
    obtain ⟨k, p, n, N, kids⟩ := x
    obtain ⟨q, c, h1, h2, h3, h4, h5⟩ := h
    exact ⟨d, k, p, n, N, _, kids, rfl, rfl, h1, h2, h3, q, c, rfl, h4, h5⟩
theorem IsT.shut {w : World} {d : Nat} {k : Int} {p n : ByteArray} {N : Int} {s : Value} {kids : List Tm} (hp : p.size ≤ maxLen) (hn : n.size ≤ maxLen) (h : KidsT w d s kids) : IsT w (d + 1) (tv k p n N s) (.mk k p n N kids) := by
  obtain ⟨q, c, rfl, h4, h5⟩ := h
  exact ⟨q, c, rfl, hp, hn, h4, h5⟩
theorem pick_list {α : Type} {P : Nat → α → Prop} (n : Nat) (h : ∀ i, i < n → ∃ x, P i x) : ∃ l : List α, l.length = n ∧ ∀ i x, l[i]? = some x → P i x := by
  induction n with
  | zero => exact ⟨[], rfl, fun i x hx => by simp at hx⟩
  | succ n ih =>
    obtain ⟨l, hl, hp⟩ := ih fun i hi => h i (by omega)
    obtain ⟨x, hx⟩ := h n (by omega)
    refine ⟨l ++ [x], by simp [hl], fun i y hy => ?_⟩
    rcases Nat.lt_or_ge i l.length with hi | hi
    · rw [List.getElem?_append_left hi] at hy
      exact hp i y hy
    · rw [List.getElem?_append_right hi] at hy
      have e : i - l.length = 0 := by
        rcases Nat.eq_zero_or_pos (i - l.length) with h0 | h0
        · exact h0
        · rw [List.getElem?_eq_none (by simp; omega)] at hy
          cases hy
      rw [e] at hy
      obtain rfl := Option.some.inj hy
      have e2 : i = n := by omega
      subst e2
      exact hx
theorem cells24 : Tryz.prog.cellsOf 24 = 5 := by kernel_rfl
theorem cells3 : Tryz.prog.cellsOf 3 = 1 := by kernel_rfl
theorem cells9 : Tryz.prog.cellsOf 9 = 1 := by kernel_rfl
theorem cells22 : Tryz.prog.cellsOf 22 = 1 := by kernel_rfl
section
set_option maxRecDepth 100000
variable {H : Type} {enc : TypeId × Value → H} {W : World} {v : Value} {d : DataW H} {p : List MemPlace}
theorem trod_term : ∀ (fuel : Nat) (cs : List Value) (x : DataW H × List MemPlace), DataW.trod enc Tryz.prog W 0 (fun _ => true) true fuel 24 cs = some x →
    ∃ (k : Int) (p n : ByteArray) (N : Int) (s : Value) (t : Tm), cs = [.int .i64 k, .string p, .string n, .int .i64 N, s] ∧ IsT W fuel (tv k p n N s) t := by
  intro fuel
  induction fuel using Nat.strongRecOn with
  | _ fuel ih =>
    intro cs x h
    obtain ⟨xs, m, rfl, _, hl, hx5, hf⟩ := DataW.trod_struct Tryz.underlying24 h
    rw [cells24] at hl
    match cs, hl with
    | [c0, c1, c2, c3, c4], _ =>
      have hx5' : xs.length = 5 := hx5
      have g0 : DataW.trod enc Tryz.prog W 0 (fun _ => true) true m 3 (([c0, c1, c2, c3, c4].drop 0).take (Tryz.prog.cellsOf 3)) = xs[0]? := hf 0 _ rfl
      have g1 : DataW.trod enc Tryz.prog W 0 (fun _ => true) true m 9 (([c0, c1, c2, c3, c4].drop 1).take (Tryz.prog.cellsOf 9)) = xs[1]? := hf 1 _ rfl
      have g2 : DataW.trod enc Tryz.prog W 0 (fun _ => true) true m 9 (([c0, c1, c2, c3, c4].drop 2).take (Tryz.prog.cellsOf 9)) = xs[2]? := hf 2 _ rfl
      have g3 : DataW.trod enc Tryz.prog W 0 (fun _ => true) true m 3 (([c0, c1, c2, c3, c4].drop 3).take (Tryz.prog.cellsOf 3)) = xs[3]? := hf 3 _ rfl
      have g4 : DataW.trod enc Tryz.prog W 0 (fun _ => true) true m 22 (([c0, c1, c2, c3, c4].drop 4).take (Tryz.prog.cellsOf 22)) = xs[4]? := hf 4 _ rfl
      rw [cells3, List.getElem?_eq_getElem (by omega)] at g0 g3
      rw [cells9, List.getElem?_eq_getElem (by omega)] at g1 g2
      rw [cells22, List.getElem?_eq_getElem (by omega)] at g4
      obtain ⟨k, e0, _, _⟩ := DataW.trod_int Tryz.underlying3 g0
      obtain ⟨p, e1, _, hp⟩ := DataW.trod_string Tryz.underlying9 g1
      obtain ⟨n, e2, _, hn⟩ := DataW.trod_string Tryz.underlying9 g2
      obtain ⟨N, e3, _, _⟩ := DataW.trod_int Tryz.underlying3 g3
      simp at e0 e1 e2 e3
      subst e0 e1 e2 e3
      suffices hk : ∃ kids, KidsT W m c4 kids by
        obtain ⟨kids, hk⟩ := hk
        exact ⟨k, p, n, N, c4, .mk k p n N kids, rfl, IsT.shut hp hn hk⟩
      rcases DataW.trod_slice Tryz.underlying22 g4 with ⟨hcs, _⟩ | ⟨a, len, cap, elems, rest, n', hm', hcs, _, _, hl2, hm, hlen, hel, _, _⟩
      · simp at hcs
        subst hcs
        exact ⟨[], none, 0, rfl, Nat.zero_le _, fun i y hy => by simp at hy⟩
      · simp at hcs
        subst hcs
        by_cases hz : len = 0
        · subst hz
          exact ⟨[], some a, cap, rfl, Nat.zero_le _, fun i y hy => by simp at hy⟩
        have hi : ∀ i, i < len → ∃ cs' y, W.cells? 0 (a.add (i * 5)) 5 = some cs' ∧ DataW.trod enc Tryz.prog W 0 (fun _ => true) true n' 24 cs' = some y := fun i hi => by
          have he := hel i hi
          rw [cells24, List.getElem?_eq_getElem (by omega)] at he
          obtain ⟨cs', h1, h2⟩ := Option.bind_eq_some_iff.1 he
          exact ⟨cs', _, h1, h2⟩
        obtain ⟨b1, o1, rfl⟩ : ∃ b1 o1, a = ⟨b1, o1, none⟩ := by
          obtain ⟨cs, _, hc, _⟩ := hi 0 (by omega)
          obtain ⟨_, hcl, hat⟩ := World.cells?_some hc
          have h0 := hat 0 (by omega)
          rw [List.getElem?_eq_getElem (by omega)] at h0
          have h1 := World.cell?_spot h0
          obtain ⟨b1, o1, sp⟩ := a
          have h2 : sp = none := by simpa [Addr.add] using h1
          exact ⟨b1, o1, by rw [h2]⟩
        obtain ⟨l, hll, hpl⟩ := pick_list (P := fun i (t : Tm) => ∃ k' p' n2 N' s', TAt W b1 (o1 + i * 5) k' p' n2 N' s' ∧ IsT W m (tv k' p' n2 N' s') t) len (fun i hi2 => by
          obtain ⟨cs, y, hc, ht⟩ := hi i hi2
          obtain ⟨_, hcl, hat⟩ := World.cells?_some hc
          obtain ⟨k', p', n2, N', s', t, rfl, ht2⟩ := ih n' (by omega) cs _ ht
          have a0 := hat 0 (by omega)
          have a1 := hat 1 (by omega)
          have a2 := hat 2 (by omega)
          have a3 := hat 3 (by omega)
          have a4 := hat 4 (by omega)
          simp only [Addr.add_lit, Nat.add_zero] at a0 a1 a2 a3 a4
          exact ⟨t, k', p', n2, N', s', ⟨a0, a1, a2, a3, a4⟩, ht2.more (by omega)⟩)
        refine ⟨l, some ⟨b1, o1, none⟩, cap, by rw [hll], by omega, fun i y hy => ?_⟩
        obtain ⟨k', p', n2, N', s', h1, h2⟩ := hpl i y hy
        exact ⟨b1, o1, k', p', n2, N', s', rfl, h1, h2⟩
theorem arg_term (hval : Value.okWide Tryz.prog W .any 0 24 v) (h : DataW.Trod enc Tryz.prog W 0 (fun _ => true) true 24 v d p) : ∃ (m : Nat) (t : Tm), IsT W m v t := by
  obtain ⟨cs, rfl, hsz⟩ := okWide_struct Tryz.underlying24 hval
  obtain ⟨fuel, hf⟩ := h
  obtain ⟨k, p', n, N, s, t, e, ht⟩ := trod_term fuel _ _ hf
  obtain ⟨l⟩ := cs
  simp [Value.cells] at e
  subst e
  exact ⟨fuel, t, ht⟩
end
/-- Are two terms one? -/
noncomputable def same (a b : Tm) : Bool := by classical exact decide (a = b)
theorem same_iff {a b : Tm} : same a b = true ↔ a = b := by unfold same; simp
theorem same_self (a : Tm) : same a a = true := same_iff.2 rfl
theorem same_comm (a b : Tm) : same a b = same b a := by
  rw [Bool.eq_iff_iff, same_iff, same_iff]
  exact ⟨fun h => h.symm, fun h => h.symm⟩
theorem same_no {a b : Tm} (h : a ≠ b) : same a b = false := by
  cases e : same a b with
  | false => rfl
  | true => exact absurd (same_iff.1 e) h
theorem bcell {W w1 : World} (hb : Below W.heap.size W w1) : (∀ b o, b < W.heap.size → w1.cell? ⟨b, o, none⟩ = W.cell? ⟨b, o, none⟩) ∧ (∀ b o, b < W.heap.size → w1.frozen? ⟨b, o, none⟩ = W.frozen? ⟨b, o, none⟩) :=
  ⟨fun b o h => hb.cell (p := ⟨b, o, none⟩) h, fun b o h => hb.frozen (p := ⟨b, o, none⟩) h⟩
theorem keep_cell {w w' : World} {a : Addr} {v : Value} (hb : Below w.heap.size w w') (h : w.cell? a = some v) : w'.cell? a = some v := by
  rw [hb.cell (block_lt_of_cell h), h]
theorem below2 (w : World) (o1 o2 : Obj) : Below w.heap.size w ((w.alloc o1).alloc o2) := (below_alloc _ _).trans ((below_alloc _ _).mono (by simp))
end Go.Proofs.YthcpmdgdbceeiaaGreatDoor
