/- Texts in a row: A0 T1 UA. -/
import Derived.Test.YtncebhddcokkoaaDoorRows
import Derived.WalkKit
import Derived.WalkSpells
import Derived.WalkLawsBesides
import Derived.Lib.Hide
import Derived.Laws.AppendOwn
import Derived.Below
import Derived.Deep.Slices
import Derived.Deep.Fields
import Derived.ChangeSame
/- Facts on whole blocks behind new blocks, stores and draws; endings. -/
namespace Go.Proofs.YtncebhddcokkoaaDoor
open Go.RowKit

theorem ret_int {k : IntKind} {a b : Int} (h : a = b) : Ending.returned (.int k a) = .returned (.int k b) := by rw [h]
theorem ret_bool {a b : Bool} (h : a = b) : Ending.returned (.bool a) = .returned (.bool b) := by rw [h]
theorem setCell_id {w : World} {a : Addr} {v : Value} (h : w.cell? a = some v) : w.setCell a v = w := by
  unfold World.cell? at h
  split at h
  · rename_i c t fr hb
    by_cases hs : a.spot.isSome
    · simp [hs] at h
    · simp [hs] at h
      have e : (w.setCell a v).heap = w.heap := by
        unfold World.setCell
        apply Array.ext_getElem?
        intro i
        rw [Array.getElem?_modify]
        split
        · rename_i hi
          subst hi
          rw [hb]
          simp [hs]
          apply Array.ext_getElem?
          intro j
          rw [Array.getElem?_setIfInBounds]
          split
          · rename_i hj
            subst hj
            split
            · exact h.symm
            · rename_i hlt
              rw [Array.getElem?_eq_none (by omega)] at h
              cases h
          · rfl
        · rfl
      show { w with heap := (w.setCell a v).heap } = w
      rw [e]
  · cases h

section
variable {w w' : World} {b : Nat} {x : Obj}
theorem hb_lt (h : w.heap[b]? = some x) : b < w.heap.size := by
  rcases Nat.lt_or_ge b w.heap.size with h1 | h1
  · exact h1
  · simp [Array.getElem?_eq_none h1] at h
theorem hb_alloc (h : w.heap[b]? = some x) (o : Obj) : (w.alloc o).heap[b]? = some x := by rw [Below.heap_alloc w o b (hb_lt h), h]
theorem hb_set_other (h : w.heap[b]? = some x) {a : Addr} (v : Value) (hn : b ≠ a.block) : (w.setCell a v).heap[b]? = some x := by rw [Below.heap_setCell w a v b hn, h]
theorem hb_set_same {c : Array Value} {t : TypeId} {f : Nat × Nat} (h : w.heap[b]? = some (.cells c t f)) (i : Nat) (v : Value) : (w.setCell ⟨b, i, none⟩ v).heap[b]? = some (.cells (c.setIfInBounds i v) t f) := by
  unfold World.setCell
  simp only [Array.getElem?_modify]
  simp [h]
theorem hb_grown {row : Option Nat} (h : w.heap[b]? = some x) (hg : w.grownBy w' row) (hn : some b ≠ row) : w'.heap[b]? = some x := by rw [hg.block b (hb_lt h) hn, h]
theorem hb_below {B : Nat} (h : w.heap[b]? = some x) (hg : Below B w w') (hn : b < B) : w'.heap[b]? = some x := by rw [hg.block b hn, h]
theorem hb_cell {c : Array Value} {t : TypeId} {f : Nat × Nat} (h : w.heap[b]? = some (.cells c t f)) (i : Nat) : w.cell? ⟨b, i, none⟩ = c[i]? := by simp [World.cell?, h]
theorem add_zero_none (b j : Nat) : ((⟨b, 0, none⟩ : Addr).add j) = ⟨b, j, none⟩ := by
  unfold Addr.add
  by_cases hj : j = 0 <;> simp [hj]
theorem hb_at {c : Array Value} {t : TypeId} {f : Nat × Nat} (h : w.heap[b]? = some (.cells c t f)) (i : Nat) {v : Value} (hv : c[i]? = some v) : w.cell? ⟨b, i, none⟩ = some v := by rw [hb_cell h, hv]
theorem hb_free {c : Array Value} {t : TypeId} (h : w.heap[b]? = some (.cells c t (0, 0))) (i : Nat) : w.frozen? ⟨b, i, none⟩ = false := by simp [World.frozen?, h]
theorem hb_new (w : World) (o : Obj) : (w.alloc o).heap[w.heap.size]? = some o := heap_alloc_new w o
end
theorem own_ne {w : World} {base : Nat} {e : TypeId} {size : Nat} {v : Value} {n : Nat} {xs : List Value} {k : Nat} {x : Obj} (h : w.ownsRow base e size v n xs) (hk : w.heap[k]? = some x) (hx : ∀ cs f, x ≠ .cells cs e f) : some k ≠ v.ownBlock := by
  intro hv
  rcases h with ⟨_, ⟨rfl, _⟩ | ⟨g, cap, cur, rfl, _, hb, _⟩⟩
  · cases hv
  · simp [Value.ownBlock] at hv
    subst hv
    rw [hb] at hk
    exact hx _ _ (Option.some.inj hk).symm
theorem own_kept {w w' : World} {base : Nat} {e : TypeId} {size : Nat} {v : Value} {n : Nat} {xs : List Value} (h : w.ownsRow base e size v n xs) (hk : ∀ g x, v.ownBlock = some g → w.heap[g]? = some x → w'.heap[g]? = some x) : w'.ownsRow base e size v n xs := by
  obtain ⟨hl, h⟩ := h
  refine ⟨hl, ?_⟩
  rcases h with h | ⟨g, cap, cur, rfl, hb, hg, r⟩
  · exact .inl h
  · exact .inr ⟨g, cap, cur, rfl, hb, hk g _ rfl hg, r⟩
theorem below_alloc (w : World) (o : Obj) : Below w.heap.size w (w.alloc o) := (Below.refl _ _).alloc (Nat.le_refl _) o
theorem below_drewN {B : Nat} {a w : World} (h : Below B a w) (n : Nat) : Below B a (w.drewN n) := ⟨h.os, h.tape, h.output, h.size, h.block⟩
/-- A slice that reads as a list of values of one cell each. -/
def Reads (w : World) (v : Value) (xs : List Value) : Prop :=
  (v = .slice none 0 0 ∧ xs = []) ∨ ∃ a c, v = .slice (some a) xs.length c ∧ ∀ k x, xs[k]? = some x → w.cell? (a.add k) = some x
theorem Reads.below {w w' : World} {v : Value} {xs : List Value} (h : Reads w v xs) (hb : Below w.heap.size w w') : Reads w' v xs := by
  rcases h with h | ⟨a, c, rfl, h⟩
  · exact .inl h
  · refine .inr ⟨a, c, rfl, fun k x hx => ?_⟩
    have h1 := h k x hx
    rw [hb.cell (block_lt_of_cell h1), h1]
end Go.Proofs.YtncebhddcokkoaaDoor
/- Terms in memory; an argument that is one. -/
namespace Go.Proofs.YtncebhddcokkoaaDoor
open Go.ChangeShapes Go.WideShapes Go.RowKit Go.Deep
/-- A term, as a tree. -/
inductive Tm where
  | mk (k : Int) (p n : ByteArray) (N : Int) (kids : List Tm)
/-- A struct of five cells. -/
abbrev tv (k : Int) (p n : ByteArray) (N : Int) (s : Value) : Value := .agg #[.int .i64 k, .string p, .string n, .int .i64 N, s]
def TAt (w : World) (b o : Nat) (k : Int) (p n : ByteArray) (N : Int) (s : Value) : Prop :=
  w.cell? ⟨b, o, none⟩ = some (.int .i64 k) ∧ w.cell? ⟨b, o + 1, none⟩ = some (.string p) ∧ w.cell? ⟨b, o + 2, none⟩ = some (.string n) ∧ w.cell? ⟨b, o + 3, none⟩ = some (.int .i64 N) ∧ w.cell? ⟨b, o + 4, none⟩ = some s
/-- A value is a term, at most so deep. -/
def IsT (w : World) : Nat → Value → Tm → Prop
  | 0, _, _ => False
  | d + 1, v, .mk k p n N kids => ∃ q c, v = tv k p n N (.slice q kids.length c) ∧ p.size ≤ maxLen ∧ n.size ≤ maxLen ∧ kids.length ≤ maxLen ∧
      ∀ i x, kids[i]? = some x → ∃ b o k' p' n' N' s', q = some ⟨b, o, none⟩ ∧ TAt w b (o + i * 5) k' p' n' N' s' ∧ IsT w d (tv k' p' n' N' s') x
/-- A slice of terms. -/
def KidsT (w : World) (d : Nat) (s : Value) (kids : List Tm) : Prop := ∃ q c, s = .slice q kids.length c ∧ kids.length ≤ maxLen ∧
  ∀ i x, kids[i]? = some x → ∃ b o k' p' n' N' s', q = some ⟨b, o, none⟩ ∧ TAt w b (o + i * 5) k' p' n' N' s' ∧ IsT w d (tv k' p' n' N' s') x
theorem TAt.lt {w : World} {b o : Nat} {k : Int} {p n : ByteArray} {N : Int} {s : Value} (h : TAt w b o k p n N s) : b < w.heap.size := block_lt_of_cell h.1
theorem TAt.keep {w w' : World} {b o : Nat} {k : Int} {p n : ByteArray} {N : Int} {s : Value} (h : TAt w b o k p n N s) (hk : ∀ j, w'.cell? ⟨b, j, none⟩ = w.cell? ⟨b, j, none⟩) : TAt w' b o k p n N s :=
  ⟨by rw [hk, h.1], by rw [hk, h.2.1], by rw [hk, h.2.2.1], by rw [hk, h.2.2.2.1], by rw [hk, h.2.2.2.2]⟩
theorem TAt.below {w w' : World} {b o m : Nat} {k : Int} {p n : ByteArray} {N : Int} {s : Value} (h : TAt w b o k p n N s) (hb : Below m w w') (hm : b < m) : TAt w' b o k p n N s :=
  h.keep fun j => hb.cell (p := ⟨b, j, none⟩) hm
theorem IsT.below {w w' : World} {d : Nat} (hb : Below w.heap.size w w') : ∀ {v : Value} {x : Tm}, IsT w d v x → IsT w' d v x := by
  induction d with
  | zero => intro v x h; exact h
  | succ d ih =>
    intro v x h
    obtain ⟨k, p, n, N, kids⟩ := x
    obtain ⟨q, c, h1, h2, h3, h4, h5⟩ := h
    refine ⟨q, c, h1, h2, h3, h4, fun i y hy => ?_⟩
    obtain ⟨b, o, k', p', n', N', s', e, ha, ht⟩ := h5 i y hy
    exact ⟨b, o, k', p', n', N', s', e, ha.below hb ha.lt, ih ht⟩
theorem IsT.more {w : World} {d d' : Nat} (hd : d ≤ d') : ∀ {v : Value} {x : Tm}, IsT w d v x → IsT w d' v x := by
  induction d generalizing d' with
  | zero => intro v x h; cases h
  | succ d ih =>
    intro v x h
    obtain ⟨d', rfl⟩ : ∃ m, d' = m + 1 := ⟨d' - 1, by omega⟩
    obtain ⟨k, p, n, N, kids⟩ := x
    obtain ⟨q, c, h1, h2, h3, h4, h5⟩ := h
    refine ⟨q, c, h1, h2, h3, h4, fun i y hy => ?_⟩
    obtain ⟨b, o, k', p', n', N', s', e, ha, ht⟩ := h5 i y hy
    exact ⟨b, o, k', p', n', N', s', e, ha, ih (by omega) ht⟩
theorem KidsT.below {w w' : World} {d : Nat} {s : Value} {kids : List Tm} (h : KidsT w d s kids) (hb : Below w.heap.size w w') : KidsT w' d s kids := by
  obtain ⟨q, c, h1, h4, h5⟩ := h
  refine ⟨q, c, h1, h4, fun i y hy => ?_⟩
  obtain ⟨b, o, k', p', n', N', s', e, ha, ht⟩ := h5 i y hy
  exact ⟨b, o, k', p', n', N', s', e, ha.below hb ha.lt, ht.below hb⟩
theorem IsT.open {w : World} {d : Nat} {v : Value} {x : Tm} (h : IsT w d v x) : ∃ m k p n N s kids, d = m + 1 ∧ x = .mk k p n N kids ∧ v = tv k p n N s ∧ p.size ≤ maxLen ∧ n.size ≤ maxLen ∧ KidsT w m s kids := by
  cases d with
  | zero => cases h
  | succ d =>
    obtain ⟨k, p, n, N, kids⟩ := x
    obtain ⟨q, c, h1, h2, h3, h4, h5⟩ := h
    exact ⟨d, k, p, n, N, _, kids, rfl, rfl, h1, h2, h3, q, c, rfl, h4, h5⟩
theorem IsT.shut {w : World} {d : Nat} {k : Int} {p n : ByteArray} {N : Int} {s : Value} {kids : List Tm} (hp : p.size ≤ maxLen) (hn : n.size ≤ maxLen) (h : KidsT w d s kids) : IsT w (d + 1) (tv k p n N s) (.mk k p n N kids) := by
  obtain ⟨q, c, rfl, h4, h5⟩ := h
  exact ⟨q, c, rfl, hp, hn, h4, h5⟩
theorem pick_list {α : Type} {P : Nat → α → Prop} (n : Nat) (h : ∀ i, i < n → ∃ x, P i x) : ∃ l : List α, l.length = n ∧ ∀ i x, l[i]? = some x → P i x := by
  induction n with
  | zero => exact ⟨[], rfl, fun i x hx => by simp at hx⟩
  | succ n ih =>
    obtain ⟨l, hl, hp⟩ := ih fun i hi => h i (by omega)
    obtain ⟨x, hx⟩ := h n (by omega)
    refine ⟨l ++ [x], by simp [hl], fun i y hy => ?_⟩
    rcases Nat.lt_or_ge i l.length with hi | hi
    · rw [List.getElem?_append_left hi] at hy
      exact hp i y hy
    · rw [List.getElem?_append_right hi] at hy
      have e : i - l.length = 0 := by
        rcases Nat.eq_zero_or_pos (i - l.length) with h0 | h0
        · exact h0
        · rw [List.getElem?_eq_none (by simp; omega)] at hy
          cases hy
      rw [e] at hy
      obtain rfl := Option.some.inj hy
      have e2 : i = n := by omega
      subst e2
      exact hx
theorem cells24 : Tryd.prog.cellsOf 36 = 5 := by kernel_rfl
theorem cells3 : Tryd.prog.cellsOf 3 = 1 := by kernel_rfl
theorem cells9 : Tryd.prog.cellsOf 9 = 1 := by kernel_rfl
theorem cells22 : Tryd.prog.cellsOf 34 = 1 := by kernel_rfl
section
set_option maxRecDepth 100000
variable {H : Type} {enc : TypeId × Value → H} {W : World} {v : Value} {d : DataW H} {p : List MemPlace}
theorem trod_term : ∀ (fuel : Nat) (cs : List Value) (x : DataW H × List MemPlace), DataW.trod enc Tryd.prog W 0 (fun _ => true) true fuel 36 cs = some x →
    ∃ (k : Int) (p n : ByteArray) (N : Int) (s : Value) (t : Tm), cs = [.int .i64 k, .string p, .string n, .int .i64 N, s] ∧ IsT W fuel (tv k p n N s) t := by
  intro fuel
  induction fuel using Nat.strongRecOn with
  | _ fuel ih =>
    intro cs x h
    obtain ⟨xs, m, rfl, _, hl, hx5, hf⟩ := DataW.trod_struct Tryd.underlying36 h
    rw [cells24] at hl
    match cs, hl with
    | [c0, c1, c2, c3, c4], _ =>
      have hx5' : xs.length = 5 := hx5
      have g0 : DataW.trod enc Tryd.prog W 0 (fun _ => true) true m 3 (([c0, c1, c2, c3, c4].drop 0).take (Tryd.prog.cellsOf 3)) = xs[0]? := hf 0 _ rfl
      have g1 : DataW.trod enc Tryd.prog W 0 (fun _ => true) true m 9 (([c0, c1, c2, c3, c4].drop 1).take (Tryd.prog.cellsOf 9)) = xs[1]? := hf 1 _ rfl
      have g2 : DataW.trod enc Tryd.prog W 0 (fun _ => true) true m 9 (([c0, c1, c2, c3, c4].drop 2).take (Tryd.prog.cellsOf 9)) = xs[2]? := hf 2 _ rfl
      have g3 : DataW.trod enc Tryd.prog W 0 (fun _ => true) true m 3 (([c0, c1, c2, c3, c4].drop 3).take (Tryd.prog.cellsOf 3)) = xs[3]? := hf 3 _ rfl
      have g4 : DataW.trod enc Tryd.prog W 0 (fun _ => true) true m 34 (([c0, c1, c2, c3, c4].drop 4).take (Tryd.prog.cellsOf 34)) = xs[4]? := hf 4 _ rfl
      rw [cells3, List.getElem?_eq_getElem (by omega)] at g0 g3
      rw [cells9, List.getElem?_eq_getElem (by omega)] at g1 g2
      rw [cells22, List.getElem?_eq_getElem (by omega)] at g4
      obtain ⟨k, e0, _, _⟩ := DataW.trod_int Tryd.underlying3 g0
      obtain ⟨p, e1, _, hp⟩ := DataW.trod_string Tryd.underlying9 g1
      obtain ⟨n, e2, _, hn⟩ := DataW.trod_string Tryd.underlying9 g2
      obtain ⟨N, e3, _, _⟩ := DataW.trod_int Tryd.underlying3 g3
      simp at e0 e1 e2 e3
      subst e0 e1 e2 e3
      suffices hk : ∃ kids, KidsT W m c4 kids by
        obtain ⟨kids, hk⟩ := hk
        exact ⟨k, p, n, N, c4, .mk k p n N kids, rfl, IsT.shut hp hn hk⟩
      rcases DataW.trod_slice Tryd.underlying34 g4 with ⟨hcs, _⟩ | ⟨a, len, cap, elems, rest, n', hm', hcs, _, _, hl2, hm, hlen, hel, _, _⟩
      · simp at hcs
        subst hcs
        exact ⟨[], none, 0, rfl, Nat.zero_le _, fun i y hy => by simp at hy⟩
      · simp at hcs
        subst hcs
        by_cases hz : len = 0
        · subst hz
          exact ⟨[], some a, cap, rfl, Nat.zero_le _, fun i y hy => by simp at hy⟩
        have hi : ∀ i, i < len → ∃ cs' y, W.cells? 0 (a.add (i * 5)) 5 = some cs' ∧ DataW.trod enc Tryd.prog W 0 (fun _ => true) true n' 36 cs' = some y := fun i hi => by
          have he := hel i hi
          rw [cells24, List.getElem?_eq_getElem (by omega)] at he
          obtain ⟨cs', h1, h2⟩ := Option.bind_eq_some_iff.1 he
          exact ⟨cs', _, h1, h2⟩
        obtain ⟨b1, o1, rfl⟩ : ∃ b1 o1, a = ⟨b1, o1, none⟩ := by
          obtain ⟨cs, _, hc, _⟩ := hi 0 (by omega)
          obtain ⟨_, hcl, hat⟩ := World.cells?_some hc
          have h0 := hat 0 (by omega)
          rw [List.getElem?_eq_getElem (by omega)] at h0
          have h1 := World.cell?_spot h0
          obtain ⟨b1, o1, sp⟩ := a
          have h2 : sp = none := by simpa [Addr.add] using h1
          exact ⟨b1, o1, by rw [h2]⟩
        obtain ⟨l, hll, hpl⟩ := pick_list (P := fun i (t : Tm) => ∃ k' p' n2 N' s', TAt W b1 (o1 + i * 5) k' p' n2 N' s' ∧ IsT W m (tv k' p' n2 N' s') t) len (fun i hi2 => by
          obtain ⟨cs, y, hc, ht⟩ := hi i hi2
          obtain ⟨_, hcl, hat⟩ := World.cells?_some hc
          obtain ⟨k', p', n2, N', s', t, rfl, ht2⟩ := ih n' (by omega) cs _ ht
          have a0 := hat 0 (by omega)
          have a1 := hat 1 (by omega)
          have a2 := hat 2 (by omega)
          have a3 := hat 3 (by omega)
          have a4 := hat 4 (by omega)
          simp only [Addr.add_lit, Nat.add_zero] at a0 a1 a2 a3 a4
          exact ⟨t, k', p', n2, N', s', ⟨a0, a1, a2, a3, a4⟩, ht2.more (by omega)⟩)
        refine ⟨l, some ⟨b1, o1, none⟩, cap, by rw [hll], by omega, fun i y hy => ?_⟩
        obtain ⟨k', p', n2, N', s', h1, h2⟩ := hpl i y hy
        exact ⟨b1, o1, k', p', n2, N', s', rfl, h1, h2⟩
end
/-- Are two terms one? -/
noncomputable def same (a b : Tm) : Bool := by classical exact decide (a = b)
theorem same_iff {a b : Tm} : same a b = true ↔ a = b := by unfold same; simp
theorem same_self (a : Tm) : same a a = true := same_iff.2 rfl
theorem same_no {a b : Tm} (h : a ≠ b) : same a b = false := by
  cases e : same a b with
  | false => rfl
  | true => exact absurd (same_iff.1 e) h
theorem keep_cell {w w' : World} {a : Addr} {v : Value} (hb : Below w.heap.size w w') (h : w.cell? a = some v) : w'.cell? a = some v := by
  rw [hb.cell (block_lt_of_cell h), h]
theorem below2 (w : World) (o1 o2 : Obj) : Below w.heap.size w ((w.alloc o1).alloc o2) := (below_alloc _ _).trans ((below_alloc _ _).mono (by simp))
end Go.Proofs.YtncebhddcokkoaaDoor
/- Types that become the same: what a store of types says, whatever its memory; solutions. -/
namespace Go.Proofs.YtncebhddcokkoaaDoor
set_option linter.unusedSimpArgs false
set_option linter.unusedVariables false
/-- A type of a store, but for what it becomes. -/
structure Inf where
  k : Int
  p : ByteArray
  n : ByteArray
  kids : List Nat
/-- A store: its types, and the type that each has become. -/
structure Abs where
  l : List Inf
  r : Nat → Nat
  lv : Nat → Int
namespace Abs
/-- All is within; what one has become has become nothing else; a type of others is made of earlier ones. -/
structure Ok (A : Abs) : Prop where
  lt : ∀ i, i < A.l.length → A.r i < A.l.length
  idem : ∀ i, A.r (A.r i) = A.r i
  kid : ∀ (i : Nat) (x : Inf), A.l[i]? = some x → ∀ y ∈ x.kids, y < i
  leaf : ∀ (i : Nat) (x : Inf), A.l[i]? = some x → (x.k = 1 ∨ x.k = 5) → x.kids = []
/-- A tree for each type, such as the store says. -/
def Mod (A : Abs) (θ : Nat → Tm) : Prop := (∀ i, i < A.l.length → θ i = θ (A.r i)) ∧ ∀ (i : Nat) (x : Inf), A.l[i]? = some x → x.k ≠ 1 → x.k ≠ 5 → θ i = .mk x.k x.p x.n 0 (x.kids.map θ)
/-- Two lists, place by place. -/
inductive All2 {α β : Type} (R : α → β → Prop) : List α → List β → Prop
  | nil : All2 R [] []
  | cons {a : α} {b : β} {l : List α} {m : List β} : R a b → All2 R l m → All2 R (a :: l) (b :: m)
theorem All2.len {α β : Type} {R : α → β → Prop} {l : List α} {m : List β} (h : All2 R l m) : l.length = m.length := by
  induction h with
  | nil => rfl
  | cons _ _ ih => rw [List.length_cons, List.length_cons, ih]
theorem All2.fn {α β : Type} {f : α → β} : ∀ {l : List α}, All2 (fun a b => b = f a) l (l.map f)
  | [] => .nil
  | a :: l => .cons rfl All2.fn
theorem All2.at {α β : Type} {R : α → β → Prop} {l : List α} {m : List β} (h : All2 R l m) : ∀ {j : Nat} {a : α} {b : β}, l[j]? = some a → m[j]? = some b → R a b := by
  induction h with
  | nil => intro j a b h; simp at h
  | cons h1 _ ih =>
    intro j a b ha hb
    cases j with
    | zero => simp at ha hb; subst ha hb; exact h1
    | succ j => exact ih (by simpa using ha) (by simpa using hb)
theorem All2.of_ex {α β : Type} {R : α → β → Prop} : ∀ {l : List α}, (∀ a ∈ l, ∃ b, R a b) → ∃ m, All2 R l m
  | [], _ => ⟨[], .nil⟩
  | a :: l, h => by
    obtain ⟨b, hb⟩ := h a (by simp)
    obtain ⟨m, hm⟩ := All2.of_ex fun a ha => h a (List.mem_cons_of_mem _ ha)
    exact ⟨b :: m, .cons hb hm⟩
/-- The tree that a type comes to, its variables being these. -/
inductive Unf (A : Abs) (f : Nat → Tm) : Nat → Tm → Prop
  | leaf {i : Nat} {x : Inf} (h : A.l[A.r i]? = some x) (hk : x.k = 1 ∨ x.k = 5) : Unf A f i (f (A.r i))
  | node {i : Nat} {x : Inf} {ts : List Tm} (h : A.l[A.r i]? = some x) (h1 : x.k ≠ 1) (h5 : x.k ≠ 5) (hl : x.kids.length = ts.length) (hk : ∀ (j y : Nat) (t : Tm), x.kids[j]? = some y → ts[j]? = some t → Unf A f y t) : Unf A f i (.mk x.k x.p x.n 0 ts)
theorem Unf.det {A : Abs} {f : Nat → Tm} {i : Nat} {t : Tm} (h : Unf A f i t) : ∀ {u : Tm}, Unf A f i u → t = u := by
  induction h with
  | leaf h hk =>
    intro u hu
    cases hu with
    | leaf _ _ => rfl
    | node h' h1 h5 _ _ => rw [h] at h'; cases h'; omega
  | @node i x ts h h1 h5 hl hk ih =>
    intro u hu
    cases hu with
    | leaf h' hk' => rw [h] at h'; cases h'; omega
    | @node _ x' us h' _ _ hl' hk' =>
      rw [h] at h'
      cases h'
      have e : ts = us := by
        apply List.ext_getElem?
        intro j
        by_cases hj : j < x.kids.length
        · have e1 : x.kids[j]? = some (x.kids[j]) := List.getElem?_eq_getElem hj
          have e2 : ts[j]? = some (ts[j]'(by omega)) := List.getElem?_eq_getElem (by omega)
          have e3 : us[j]? = some (us[j]'(by omega)) := List.getElem?_eq_getElem (by omega)
          rw [e2, e3, ih j _ _ e1 e2 (hk' j _ _ e1 e3)]
        · rw [List.getElem?_eq_none (by omega), List.getElem?_eq_none (by omega)]
      rw [e]
/-- A tree that the store allows is the one that its type comes to. -/
theorem Unf.of_mod {A : Abs} (hA : A.Ok) {θ : Nat → Tm} (hm : A.Mod θ) {i : Nat} {t : Tm} (h : Unf A θ i t) : i < A.l.length → θ i = t := by
  induction h with
  | leaf h hk => intro hi; exact hm.1 _ hi
  | @node i x ts h h1 h5 hl hk ih =>
    intro hi
    rw [hm.1 _ hi, hm.2 _ x h h1 h5]
    congr 1
    apply List.ext_getElem?
    intro j
    rw [List.getElem?_map]
    by_cases hj : j < x.kids.length
    · have e1 : x.kids[j]? = some (x.kids[j]) := List.getElem?_eq_getElem hj
      have e2 : ts[j]? = some (ts[j]'(by omega)) := List.getElem?_eq_getElem (by omega)
      have hlt : x.kids[j] < A.l.length := by
        have := hA.kid _ x h _ (List.getElem_mem hj)
        have := hA.lt i hi
        omega
      rw [e1, e2, ← ih j _ _ e1 e2 hlt]
      rfl
    · rw [List.getElem?_eq_none (by omega), List.getElem?_eq_none (by omega)]
      rfl
/-- Each type comes to a tree. -/
def Fin (A : Abs) : Prop := ∀ f : Nat → Tm, ∀ i, i < A.l.length → ∃ t, Unf A f i t
open Classical in
/-- The trees, as a function. -/
noncomputable def val (A : Abs) (f : Nat → Tm) (i : Nat) : Tm := if h : ∃ t, Unf A f i t then h.choose else f i
theorem val_unf {A : Abs} {f : Nat → Tm} {i : Nat} {t : Tm} (h : Unf A f i t) : A.val f i = t := by
  unfold val
  have h' : ∃ t, Unf A f i t := ⟨t, h⟩
  rw [dif_pos h']
  exact (h'.choose_spec).det h
theorem unf_val {A : Abs} (hF : A.Fin) (f : Nat → Tm) {i : Nat} (hi : i < A.l.length) : Unf A f i (A.val f i) := by
  obtain ⟨t, h⟩ := hF f i hi
  rw [val_unf h]; exact h
theorem Unf.root {A : Abs} (hA : A.Ok) {f : Nat → Tm} {i : Nat} {t : Tm} : Unf A f (A.r i) t ↔ Unf A f i t := by
  constructor
  · intro h
    cases h with
    | leaf h hk => rw [hA.idem] at h ⊢; exact .leaf h hk
    | node h h1 h5 hl hk => rw [hA.idem] at h; exact .node h h1 h5 hl hk
  · intro h
    cases h with
    | leaf h hk =>
      have := Unf.leaf (A := A) (f := f) (i := A.r i) (by rw [hA.idem]; exact h) hk
      rwa [hA.idem] at this
    | node h h1 h5 hl hk => exact .node (by rw [hA.idem]; exact h) h1 h5 hl hk
theorem val_root {A : Abs} (hA : A.Ok) (hF : A.Fin) (f : Nat → Tm) {i : Nat} (hi : i < A.l.length) : A.val f i = A.val f (A.r i) :=
  (val_unf ((Unf.root hA).1 (unf_val hF f (hA.lt i hi))))
theorem val_leaf {A : Abs} {f : Nat → Tm} {i : Nat} {x : Inf} (h : A.l[A.r i]? = some x) (hk : x.k = 1 ∨ x.k = 5) : A.val f i = f (A.r i) := val_unf (.leaf h hk)
/-- What a type that has become another one comes to, said of itself: where all merged ones are alike, this is so. -/
def Like (A : Abs) : Prop := ∀ (i : Nat) (x : Inf), A.l[i]? = some x → x.k ≠ 1 → x.k ≠ 5 → ∃ y, A.l[A.r i]? = some y ∧ y.k = x.k ∧ y.p = x.p ∧ y.n = x.n ∧ y.kids.length = x.kids.length ∧ ∀ (j a b : Nat), x.kids[j]? = some a → y.kids[j]? = some b → A.r a = A.r b
/-- The trees are such as the store says, whatever its variables are. -/
theorem mod_val {A : Abs} (hA : A.Ok) (hF : A.Fin) (hL : A.Like) (f : Nat → Tm) : A.Mod (A.val f) := by
  refine ⟨fun i hi => val_root hA hF f hi, fun i x h h1 h5 => ?_⟩
  have hi := (List.getElem?_eq_some_iff.1 h).1
  obtain ⟨y, hy, e1, e2, e3, e4, e5⟩ := hL i x h h1 h5
  have key : Unf A f i (.mk y.k y.p y.n 0 (x.kids.map (A.val f))) := by
    refine .node hy (by rw [e1]; exact h1) (by rw [e1]; exact h5) (by rw [List.length_map, e4]) fun j a t ha ht => ?_
    rw [List.getElem?_map] at ht
    cases hx : x.kids[j]? with
    | none => rw [hx] at ht; cases ht
    | some b =>
      rw [hx] at ht
      obtain rfl : A.val f b = t := by simpa using ht
      have hb : b < A.l.length := by
        have := hA.kid i x h b (List.mem_of_getElem? hx)
        omega
      have hr := e5 j b a hx ha
      have h3 := unf_val hF f hb
      rw [← Unf.root hA, hr, Unf.root hA] at h3
      exact h3
  rw [val_unf key, e1, e2, e3]
/-- One of a store's trees is another one, its variables being put for. -/
theorem mod_eq {A : Abs} (hA : A.Ok) (hF : A.Fin) {θ : Nat → Tm} (hm : A.Mod θ) {i : Nat} (hi : i < A.l.length) : θ i = A.val θ i := (unf_val hF θ hi).of_mod hA hm hi
/-- What stands in a tree, below its top. -/
inductive Sub : Tm → Tm → Prop
  | kid {k N : Int} {p n : ByteArray} {l : List Tm} {t : Tm} (h : t ∈ l) : Sub t (.mk k p n N l)
  | deep {k N : Int} {p n : ByteArray} {l : List Tm} {t u : Tm} (h : u ∈ l) (h2 : Sub t u) : Sub t (.mk k p n N l)
theorem sizeOf_kid {k N : Int} {p n : ByteArray} {l : List Tm} {t : Tm} (h : t ∈ l) : SizeOf.sizeOf t < SizeOf.sizeOf (Tm.mk k p n N l) := by
  have := List.sizeOf_lt_of_mem h
  simp only [Tm.mk.sizeOf_spec]
  omega
theorem Sub.lt {t u : Tm} (h : Sub t u) : SizeOf.sizeOf t < SizeOf.sizeOf u := by
  induction h with
  | kid h => exact sizeOf_kid h
  | deep h _ ih => exact Nat.lt_trans ih (sizeOf_kid h)
theorem Sub.irrefl {t : Tm} (h : Sub t t) : False := Nat.lt_irrefl _ h.lt
/-- One root is below another one. -/
inductive Reach (A : Abs) : Nat → Nat → Prop
  | here (i : Nat) : Reach A i (A.r i)
  | kid {i y z : Nat} {x : Inf} (h : A.l[A.r i]? = some x) (hy : y ∈ x.kids) (h2 : Reach A y z) : Reach A i z
theorem Reach.mod {A : Abs} (hA : A.Ok) {θ : Nat → Tm} (hm : A.Mod θ) {i z : Nat} (h : Reach A i z) : i < A.l.length → θ i = θ z ∨ Sub (θ z) (θ i) := by
  induction h with
  | here i => intro hi; exact .inl (hm.1 i hi)
  | @kid i y z x h hy h2 ih =>
    intro hi
    have h15 : x.k ≠ 1 ∧ x.k ≠ 5 := by
      constructor
      · intro e; have := hA.leaf _ x h (.inl e); rw [this] at hy; cases hy
      · intro e; have := hA.leaf _ x h (.inr e); rw [this] at hy; cases hy
    have hlt : y < A.l.length := by
      have := hA.kid _ x h y hy
      have := hA.lt i hi
      omega
    have e : θ i = .mk x.k x.p x.n 0 (x.kids.map θ) := by rw [hm.1 i hi, hm.2 _ x h h15.1 h15.2]
    have hmem : θ y ∈ x.kids.map θ := List.mem_map_of_mem hy
    right
    rw [e]
    rcases ih hlt with h3 | h3
    · rw [← h3]; exact .kid hmem
    · exact .deep hmem h3
/-- A variable becomes a type. -/
def bind (A : Abs) (a b : Nat) (m : Nat → Int) : Abs := ⟨A.l, fun i => if A.r i = a then b else A.r i, m⟩
theorem bind_ok {A : Abs} {m : Nat → Int} (hA : A.Ok) {a b : Nat} (hb : A.r b = b) (hbl : b < A.l.length) (hab : a ≠ b) : (A.bind a b m).Ok := by
  refine ⟨fun i hi => ?_, fun i => ?_, hA.kid, hA.leaf⟩
  · show (if A.r i = a then b else A.r i) < A.l.length
    split
    · exact hbl
    · exact hA.lt i hi
  · show (if A.r (if A.r i = a then b else A.r i) = a then b else A.r (if A.r i = a then b else A.r i)) = if A.r i = a then b else A.r i
    by_cases h : A.r i = a
    · rw [if_pos h, hb, if_neg (fun e => hab e.symm)]
    · rw [if_neg h, hA.idem, if_neg h]
/-- Its trees are those in which both are one. -/
theorem bind_mod {A : Abs} {m : Nat → Int} (hA : A.Ok) {a b : Nat} (ha : A.r a = a) (hb : A.r b = b) (hal : a < A.l.length) (hbl : b < A.l.length) (θ : Nat → Tm) : (A.bind a b m).Mod θ ↔ A.Mod θ ∧ θ a = θ b := by
  constructor
  · rintro ⟨h1, h2⟩
    have hab : θ a = θ b := by
      have := h1 a hal
      show θ a = θ b
      have e : (A.bind a b m).r a = b := by show (if A.r a = a then b else A.r a) = b; rw [if_pos ha]
      rwa [e] at this
    refine ⟨⟨fun i hi => ?_, h2⟩, hab⟩
    have h3 := h1 i hi
    have e : (A.bind a b m).r i = if A.r i = a then b else A.r i := rfl
    rw [e] at h3
    by_cases h : A.r i = a
    · rw [if_pos h] at h3; rw [h, hab]; exact h3
    · rw [if_neg h] at h3; exact h3
  · rintro ⟨⟨h1, h2⟩, hab⟩
    refine ⟨fun i hi => ?_, h2⟩
    have e : (A.bind a b m).r i = if A.r i = a then b else A.r i := rfl
    rw [e]
    by_cases h : A.r i = a
    · rw [if_pos h, h1 i hi, h, hab]
    · rw [if_neg h]; exact h1 i hi
/-- A tree in which something is not stays when that is bound. -/
theorem Unf.bind_away {A : Abs} {m : Nat → Int} {f : Nat → Tm} {a b : Nat} (hab : a ≠ b) {i : Nat} {t : Tm} (h : Unf A f i t) : ¬ Reach A i a → Unf (A.bind a b m) f i t := by
  induction h with
  | @leaf i x h hk =>
    intro hr
    have hne : A.r i ≠ a := fun e => hr (e ▸ .here i)
    have e : (A.bind a b m).r i = A.r i := if_neg hne
    rw [← e]
    exact .leaf (by rw [e]; exact h) hk
  | @node i x ts h h1 h5 hl hk ih =>
    intro hr
    have hne : A.r i ≠ a := fun e => hr (e ▸ .here i)
    have e : (A.bind a b m).r i = A.r i := if_neg hne
    exact .node (by rw [e]; exact h) h1 h5 hl fun j y t hy ht => ih j y t hy ht fun h3 => hr (.kid h (List.mem_of_getElem? hy) h3)
/-- Each type comes to a tree still, where a variable is bound to what it is not in. -/
theorem bind_fin {A : Abs} {m : Nat → Int} (hA : A.Ok) (hF : A.Fin) {a b : Nat} {x : Inf} (ha : A.l[a]? = some x) (hx : x.k = 1) (hb : A.r b = b) (hbl : b < A.l.length) (hab : a ≠ b) (hr : ¬ Reach A b a) : (A.bind a b m).Fin := by
  intro f i hi
  obtain ⟨tb, htb⟩ := hF f b hbl
  have hB := htb.bind_away (m := m) hab hr
  obtain ⟨t, ht⟩ := hF f i hi
  clear hi
  induction ht with
  | @leaf i y h hk =>
    by_cases e : A.r i = a
    · refine ⟨tb, ?_⟩
      have e2 : (A.bind a b m).r i = b := if_pos e
      have h3 := (Unf.root (bind_ok (m := m) hA hb hbl hab) (i := i) (f := f) (t := tb)).1
      rw [e2] at h3
      exact h3 hB
    · have e2 : (A.bind a b m).r i = A.r i := if_neg e
      exact ⟨_, .leaf (by rw [e2]; exact h) hk⟩
  | @node i y ts h h1 h5 hl hk ih =>
    by_cases e : A.r i = a
    · rw [e, ha] at h; cases h; exact absurd hx h1
    · have e2 : (A.bind a b m).r i = A.r i := if_neg e
      have hex : ∀ z ∈ y.kids, ∃ t, Unf (A.bind a b m) f z t := by
        intro z hz
        obtain ⟨j, hj, rfl⟩ := List.getElem_of_mem hz
        exact ih j _ (ts[j]'(by omega)) (List.getElem?_eq_getElem hj) (List.getElem?_eq_getElem (by omega))
      obtain ⟨us, hus⟩ := All2.of_ex hex
      have hl2 := hus.len
      exact ⟨_, .node (by rw [e2]; exact h) h1 h5 hl2 fun j z t hz ht => hus.at hz ht⟩
/-- Two types of others that are the same become one. -/
theorem merge_fin {A : Abs} {m : Nat → Int} (hA : A.Ok) (hF : A.Fin) {a b : Nat} {x y : Inf} (ha : A.l[a]? = some x) (hb : A.l[b]? = some y) (hra : A.r a = a) (hrb : A.r b = b) (hx : x.k ≠ 1 ∧ x.k ≠ 5) (hk : y.k = x.k) (hab : a ≠ b)
    (hlen : y.kids.length = x.kids.length) (hkids : ∀ (j u v : Nat), x.kids[j]? = some u → y.kids[j]? = some v → A.r u = A.r v) : (A.bind a b m).Fin := by
  have hbl := (List.getElem?_eq_some_iff.1 hb).1
  intro f i hi
  have key : ∀ i t, Unf A f i t → ∃ u, Unf (A.bind a b m) f i u := by
    intro i t ht
    induction ht with
    | @leaf i z h hk' =>
      by_cases e : A.r i = a
      · rw [e, ha] at h; cases h; omega
      · have e2 : (A.bind a b m).r i = A.r i := if_neg e
        exact ⟨_, .leaf (by rw [e2]; exact h) hk'⟩
    | @node i z ts h h1 h5 hl hk' ih =>
      have hex : ∀ c ∈ z.kids, ∃ t, Unf (A.bind a b m) f c t := by
        intro c hc
        obtain ⟨j, hj, rfl⟩ := List.getElem_of_mem hc
        exact ih j _ (ts[j]'(by omega)) (List.getElem?_eq_getElem hj) (List.getElem?_eq_getElem (by omega))
      by_cases e : A.r i = a
      · rw [e, ha] at h
        cases h
        have e2 : (A.bind a b m).r i = b := if_pos e
        have hex2 : ∀ c ∈ y.kids, ∃ t, Unf (A.bind a b m) f c t := by
          intro c hc
          obtain ⟨j, hj, rfl⟩ := List.getElem_of_mem hc
          have hjx : j < x.kids.length := by omega
          obtain ⟨t, ht⟩ := hex (x.kids[j]) (List.getElem_mem hjx)
          have e3 := hkids j _ _ (List.getElem?_eq_getElem hjx) (List.getElem?_eq_getElem hj)
          have hO := bind_ok (m := m) hA hrb hbl hab
          have e4 : (A.bind a b m).r (x.kids[j]) = (A.bind a b m).r (y.kids[j]) := by show (if A.r (x.kids[j]) = a then b else A.r (x.kids[j])) = (if A.r (y.kids[j]) = a then b else A.r (y.kids[j])); rw [e3]
          refine ⟨t, ?_⟩
          rw [← Unf.root hO, ← e4, Unf.root hO]
          exact ht
        obtain ⟨us, hus⟩ := All2.of_ex hex2
        exact ⟨_, .node (x := y) (by rw [e2]; exact hb) (by rw [hk]; exact hx.1) (by rw [hk]; exact hx.2) hus.len fun j c t hc ht => hus.at hc ht⟩
      · have e2 : (A.bind a b m).r i = A.r i := if_neg e
        obtain ⟨us, hus⟩ := All2.of_ex hex
        exact ⟨_, .node (by rw [e2]; exact h) h1 h5 hus.len fun j c t hc ht => hus.at hc ht⟩
  obtain ⟨t, ht⟩ := hF f i hi
  exact key i t ht
end Abs
end Go.Proofs.YtncebhddcokkoaaDoor
