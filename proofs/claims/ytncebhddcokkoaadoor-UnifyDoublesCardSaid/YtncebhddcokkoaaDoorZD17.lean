/- Texts in a row: Qb Qe Qh. -/
import Derived.Test.YtncebhddcokkoaaDoorZD3
import Derived.Test.YtncebhddcokkoaaDoorZD11
import Derived.Test.YtncebhddcokkoaaDoorZD13
import Derived.Test.YtncebhddcokkoaaDoorZD16
import Derived.Deep.DeepCutAuto
import Derived.StillTailTactics
import Derived.Test.YtncebhddcokkoaaDoorZD9
import Derived.Test.YtncebhddcokkoaaDoorZD10
import Derived.Test.YtncebhddcokkoaaDoorZD8
/- The document's solver in memory. -/
namespace Go.Proofs.YtncebhddcokkoaaDoor
open Go.RowKit
set_option linter.unusedSimpArgs false
set_option linter.unusedVariables false
/-- All stays but one block. -/
structure Gk (B0 g : Nat) (w w' : World) : Prop where
  below : Below B0 w w'
  size : w.heap.size ≤ w'.heap.size
  block : ∀ (k : Nat) (x : Obj), w.heap[k]? = some x → k ≠ g → w'.heap[k]? = some x
theorem Gk.refl (B0 g : Nat) (w : World) : Gk B0 g w w := ⟨Below.refl _ _, Nat.le_refl _, fun _ _ h _ => h⟩
theorem Gk.trans {B0 g : Nat} {w w1 w2 : World} (h : Gk B0 g w w1) (k : Gk B0 g w1 w2) : Gk B0 g w w2 :=
  ⟨h.below.trans k.below, Nat.le_trans h.size k.size, fun b x h1 h2 => k.block b x (h.block b x h1 h2) h2⟩
theorem Gk.of_below {B0 g : Nat} {w w' : World} (hb : B0 ≤ w.heap.size) (h : Below w.heap.size w w') : Gk B0 g w w' :=
  ⟨h.mono hb, h.size, fun b x h1 _ => by rw [h.block b (hb_lt h1)]; exact h1⟩
theorem Gk.cell {B0 g : Nat} {w w' : World} (h : Gk B0 g w w') {b o : Nat} {v : Value} (hc : w.cell? ⟨b, o, none⟩ = some v) (hb : b ≠ g) : w'.cell? ⟨b, o, none⟩ = some v := by
  have hl := block_lt_of_cell hc
  have h1 : w.heap[b]? = some (w.heap[b]'hl) := Array.getElem?_eq_getElem hl
  have h2 := h.block b _ h1 hb
  unfold World.cell? at hc ⊢
  simp only [h1] at hc
  simp only [h2]
  exact hc
theorem IsX.gk {B0 g : Nat} {w w' : World} {d : Nat} {v : Value} {t : Tm} (h : IsX (fun b => b < B0) w d v t) (k : Gk B0 g w w') : IsX (fun b => b < B0) w' d v t :=
  h.move fun b hb _ => ⟨hb, k.below.block b hb⟩
/-- Names in memory, apart from a block. -/
def NmR (g : Nat) (w : World) (v : Value) (ns : List ByteArray) : Prop := ∃ q c, v = .slice q ns.length c ∧ ∀ i s, ns[i]? = some s → ∃ gn o, q = some ⟨gn, o, none⟩ ∧ gn ≠ g ∧ w.cell? ⟨gn, o + i, none⟩ = some (.string s)
theorem NmR.o {g : Nat} {w : World} {v : Value} {ns : List ByteArray} (h : NmR g w v ns) : SRowO w v ns := by
  obtain ⟨q, c, h1, h2⟩ := h
  exact ⟨q, c, h1, fun i s hs => by obtain ⟨gn, o, e, _, hc⟩ := h2 i s hs; exact ⟨gn, o, e, hc⟩⟩
theorem NmR.gk {B0 g : Nat} {w w' : World} {v : Value} {ns : List ByteArray} (h : NmR g w v ns) (k : Gk B0 g w w') : NmR g w' v ns := by
  obtain ⟨q, c, h1, h2⟩ := h
  exact ⟨q, c, h1, fun i s hs => by obtain ⟨gn, o, e, hn, hc⟩ := h2 i s hs; exact ⟨gn, o, e, hn, k.cell hc hn⟩⟩
/-- The document's solver. -/
structure RSt (B0 B g D : Nat) (ns : List ByteArray) (S : RS) (nv : Value) (cg : Nat) (w : World) : Prop where
  hB : B0 ≤ B
  hg : B0 ≤ g
  ne : g ≠ B
  ln : ns.length ≤ 100000
  nm : NmR g w nv ns
  blk : w.heap[B]? = some (.cells #[nv, .slice (some ⟨g, 0, none⟩) ns.length cg] 76 (0, 0))
  row : ∃ ts : List T5, ts.length = ns.length ∧ w.heap[g]? = some (.cells (flatC ts).toArray 36 (0, 0)) ∧ ∀ n ∈ ns, ∃ t, ts[ixO ns n]? = some t ∧ ((S n = none ∧ t.1 = 0) ∨ ∃ x, S n = some x ∧ IsX (fun b => b < B0) w D (t5v t) x ∧ t.1 ≠ 0)
theorem RSt.lt {B0 B g D : Nat} {ns : List ByteArray} {S : RS} {nv : Value} {cg : Nat} {w : World} (h : RSt B0 B g D ns S nv cg w) : B < w.heap.size := hb_lt h.blk
theorem RSt.b0 {B0 B g D : Nat} {ns : List ByteArray} {S : RS} {nv : Value} {cg : Nat} {w : World} (h : RSt B0 B g D ns S nv cg w) : B0 ≤ w.heap.size := Nat.le_trans h.hB (Nat.le_of_lt h.lt)
/-- New blocks. -/
theorem RSt.below {B0 B g D : Nat} {ns : List ByteArray} {S : RS} {nv : Value} {cg : Nat} {w w' : World} (h : RSt B0 B g D ns S nv cg w) (k : Below w.heap.size w w') : RSt B0 B g D ns S nv cg w' := by
  obtain ⟨ts, h1, h2, h3⟩ := h.row
  refine ⟨h.hB, h.hg, h.ne, h.ln, h.nm.gk (Gk.of_below h.b0 k), hb_below h.blk k h.lt, ts, h1, hb_below h2 k (hb_lt h2), fun n hn => ?_⟩
  obtain ⟨t, e, h4⟩ := h3 n hn
  refine ⟨t, e, ?_⟩
  rcases h4 with h4 | ⟨x, h5, h6, h7⟩
  · exact .inl h4
  · exact .inr ⟨x, h5, h6.below k, h7⟩
theorem flatC_row {ts : List T5} {i : Nat} {t : T5} (h : ts[i]? = some t) : ∀ j u, [Value.int .i64 t.1, .string t.2.1, .string t.2.2.1, .int .i64 t.2.2.2.1, t.2.2.2.2][j]? = some u → (flatC ts)[i * 5 + j]? = some u := by
  induction ts generalizing i with
  | nil => simp at h
  | cons y ts ih =>
    intro j u hu
    have e : flatC (y :: ts) = [.int .i64 y.1, .string y.2.1, .string y.2.2.1, .int .i64 y.2.2.2.1, y.2.2.2.2] ++ flatC ts := by simp [flatC]
    rw [e]
    match i, h with
    | 0, h =>
      obtain rfl := Option.some.inj h
      have hj := (List.getElem?_eq_some_iff.1 hu).1
      rw [Nat.zero_mul, Nat.zero_add, List.getElem?_append_left hj]
      exact hu
    | i + 1, h =>
      rw [List.getElem?_append_right (by simp; omega)]
      have := ih (i := i) h j u hu
      rw [← this]
      congr 1
      simp
      omega
theorem flatC_set {ts : List T5} {i : Nat} {t : T5} (h : i < ts.length) : ((((((flatC ts).toArray.setIfInBounds (i * 5) (.int .i64 t.1)).setIfInBounds (i * 5 + 1) (.string t.2.1)).setIfInBounds (i * 5 + 2) (.string t.2.2.1)).setIfInBounds (i * 5 + 3) (.int .i64 t.2.2.2.1)).setIfInBounds (i * 5 + 4) t.2.2.2.2) = (flatC (ts.set i t)).toArray := by
  induction ts generalizing i with
  | nil => simp at h
  | cons y ts ih =>
    have e : ∀ (y : T5) (ts : List T5), flatC (y :: ts) = .int .i64 y.1 :: .string y.2.1 :: .string y.2.2.1 :: .int .i64 y.2.2.2.1 :: y.2.2.2.2 :: flatC ts := fun y ts => by simp [flatC]
    rw [e]
    match i, h with
    | 0, h => simp [e]
    | i + 1, h =>
      have h2 := ih (i := i) (by simpa using h)
      rw [List.set_cons_succ, e]
      simp only [List.setIfInBounds_toArray] at h2 ⊢
      have h3 := congrArg Array.toList h2
      simp only at h3
      congr 1
      rw [← h3]
      have a0 : (i + 1) * 5 = i * 5 + 5 := by omega
      rw [a0]
      rfl
/-- What a name has become. -/
theorem RSt.is {B0 B g D : Nat} {ns : List ByteArray} {S : RS} {nv : Value} {cg : Nat} {w : World} (h : RSt B0 B g D ns S nv cg w) {n : ByteArray} (hn : n ∈ ns) : ∃ k p m N s, TAt w g (ixO ns n * 5) k p m N s ∧ ixO ns n < ns.length ∧ ((S n = none ∧ k = 0) ∨ ∃ x, S n = some x ∧ IsX (fun b => b < B0) w D (tv k p m N s) x ∧ k ≠ 0) := by
  obtain ⟨ts, h1, h2, h3⟩ := h.row
  obtain ⟨⟨k, p, m, N, s⟩, e, h4⟩ := h3 n hn
  have key := flatC_row e
  refine ⟨k, p, m, N, s, ⟨?_, ?_, ?_, ?_, ?_⟩, by rw [← h1]; exact (List.getElem?_eq_some_iff.1 e).1, h4⟩
  · rw [hb_cell h2]; simpa using key 0 _ rfl
  · rw [hb_cell h2]; simpa using key 1 _ rfl
  · rw [hb_cell h2]; simpa using key 2 _ rfl
  · rw [hb_cell h2]; simpa using key 3 _ rfl
  · rw [hb_cell h2]; simpa using key 4 _ rfl
theorem ixO_lt {n : ByteArray} {ns : List ByteArray} (h : n ∈ ns) : ixO ns n < ns.length := (List.getElem?_eq_some_iff.1 (ixO_at h)).1
/-- A name becomes a type. -/
theorem RSt.put {B0 B g D : Nat} {ns : List ByteArray} {S : RS} {nv : Value} {cg : Nat} {w : World} (h : RSt B0 B g D ns S nv cg w) {n : ByteArray} (hn : n ∈ ns) {k N : Int} {p m : ByteArray} {s : Value} {x : Tm} (hx : IsX (fun b => b < B0) w D (tv k p m N s) x) (hk : k ≠ 0) :
    RSt B0 B g D ns (S.put n x) nv cg (((((w.setCell ⟨g, ixO ns n * 5, none⟩ (.int .i64 k)).setCell ⟨g, ixO ns n * 5 + 1, none⟩ (.string p)).setCell ⟨g, ixO ns n * 5 + 2, none⟩ (.string m)).setCell ⟨g, ixO ns n * 5 + 3, none⟩ (.int .i64 N)).setCell ⟨g, ixO ns n * 5 + 4, none⟩ s) ∧
    Gk B0 g w (((((w.setCell ⟨g, ixO ns n * 5, none⟩ (.int .i64 k)).setCell ⟨g, ixO ns n * 5 + 1, none⟩ (.string p)).setCell ⟨g, ixO ns n * 5 + 2, none⟩ (.string m)).setCell ⟨g, ixO ns n * 5 + 3, none⟩ (.int .i64 N)).setCell ⟨g, ixO ns n * 5 + 4, none⟩ s) := by
  obtain ⟨ts, h1, h2, h3⟩ := h.row
  have hlt : ixO ns n < ts.length := by rw [h1]; exact ixO_lt hn
  have hK : Gk B0 g w (((((w.setCell ⟨g, ixO ns n * 5, none⟩ (.int .i64 k)).setCell ⟨g, ixO ns n * 5 + 1, none⟩ (.string p)).setCell ⟨g, ixO ns n * 5 + 2, none⟩ (.string m)).setCell ⟨g, ixO ns n * 5 + 3, none⟩ (.int .i64 N)).setCell ⟨g, ixO ns n * 5 + 4, none⟩ s) :=
    ⟨(((((Below.refl _ _).setCell h.hg _).setCell h.hg _).setCell h.hg _).setCell h.hg _).setCell h.hg _, by simp [World.setCell], fun b z h4 h5 => hb_set_other (hb_set_other (hb_set_other (hb_set_other (hb_set_other h4 _ h5) _ h5) _ h5) _ h5) _ h5⟩
  refine ⟨⟨h.hB, h.hg, h.ne, h.ln, h.nm.gk hK, hK.block _ _ h.blk (fun e => h.ne e.symm), ts.set (ixO ns n) (k, p, m, N, s), by rw [List.length_set]; exact h1, ?_, fun a ha => ?_⟩, hK⟩
  · rw [← flatC_set (t := (k, p, m, N, s)) hlt]
    exact hb_set_same (hb_set_same (hb_set_same (hb_set_same (hb_set_same h2 _ _) _ _) _ _) _ _) _ _
  · by_cases e : a = n
    · subst e
      refine ⟨(k, p, m, N, s), by rw [List.getElem?_set_self hlt], .inr ⟨x, if_pos rfl, hx.gk hK, hk⟩⟩
    · obtain ⟨t, e1, h4⟩ := h3 a ha
      have hne : ixO ns n ≠ ixO ns a := fun e2 => e (ixO_inj hn ha e2).symm
      refine ⟨t, by rw [List.getElem?_set_ne hne]; exact e1, ?_⟩
      have e3 : S.put n x a = S a := if_neg e
      rw [e3]
      rcases h4 with h4 | ⟨y, h5, h6, h7⟩
      · exact .inl h4
      · exact .inr ⟨y, h5, h6.gk hK, h7⟩
end Go.Proofs.YtncebhddcokkoaaDoor
/- The document's solver: Unify where the first one is a variable. -/
namespace Go.Proofs.YtncebhddcokkoaaDoor
open Go.RowKit
set_option linter.unusedSimpArgs false
set_option linter.unusedVariables false
theorem RS.put_put (S : RS) (n : ByteArray) (c : Tm) : (S.put n c).put n c = S.put n c := by
  funext m
  show (if m = n then some c else (if m = n then some c else S m)) = if m = n then some c else S m
  split <;> rfl
/-- The solver, ahead of a store or behind it. -/
def RSt2 (B0 B g D : Nat) (ns : List ByteArray) (S : RS) (nv : Value) (cg : Nat) (n : ByteArray) (c : Tm) (w : World) : Prop := RSt B0 B g D ns S nv cg w ∨ RSt B0 B g D ns (S.put n c) nv cg w
theorem RSt2.below {B0 B g D : Nat} {ns : List ByteArray} {S : RS} {nv : Value} {cg : Nat} {n : ByteArray} {c : Tm} {w w' : World} (h : RSt2 B0 B g D ns S nv cg n c w) (hb : Below w.heap.size w w') : RSt2 B0 B g D ns S nv cg n c w' := by
  rcases h with h | h
  · exact .inl (h.below hb)
  · exact .inr (h.below hb)
theorem RSt.frz {B0 B g D : Nat} {ns : List ByteArray} {S : RS} {nv : Value} {cg : Nat} {w : World} (h : RSt B0 B g D ns S nv cg w) (o : Nat) : w.frozen? ⟨g, o, none⟩ = false := by
  obtain ⟨ts, _, h2, _⟩ := h.row
  exact hb_free h2 o
theorem RSt2.at {B0 B g D : Nat} {ns : List ByteArray} {S : RS} {nv : Value} {cg : Nat} {n : ByteArray} {c : Tm} {w : World} (h : RSt2 B0 B g D ns S nv cg n c w) (hn : n ∈ ns) : ∃ k p m N s, TAt w g (ixO ns n * 5) k p m N s ∧ ∀ o, w.frozen? ⟨g, o, none⟩ = false := by
  rcases h with h | h
  · obtain ⟨k, p, m, N, s, ht, _⟩ := h.is hn
    exact ⟨k, p, m, N, s, ht, h.frz⟩
  · obtain ⟨k, p, m, N, s, ht, _⟩ := h.is hn
    exact ⟨k, p, m, N, s, ht, h.frz⟩
theorem RSt2.put {B0 B g D : Nat} {ns : List ByteArray} {S : RS} {nv : Value} {cg : Nat} {n : ByteArray} {x : Tm} {w : World} (h : RSt2 B0 B g D ns S nv cg n x w) (hn : n ∈ ns) {k N : Int} {p m : ByteArray} {s : Value} (hx : IsX (fun b => b < B0) w D (tv k p m N s) x) (hk : k ≠ 0) :
    RSt B0 B g D ns (S.put n x) nv cg (((((w.setCell ⟨g, ixO ns n * 5, none⟩ (.int .i64 k)).setCell ⟨g, ixO ns n * 5 + 1, none⟩ (.string p)).setCell ⟨g, ixO ns n * 5 + 2, none⟩ (.string m)).setCell ⟨g, ixO ns n * 5 + 3, none⟩ (.int .i64 N)).setCell ⟨g, ixO ns n * 5 + 4, none⟩ s) ∧
    Gk B0 g w (((((w.setCell ⟨g, ixO ns n * 5, none⟩ (.int .i64 k)).setCell ⟨g, ixO ns n * 5 + 1, none⟩ (.string p)).setCell ⟨g, ixO ns n * 5 + 2, none⟩ (.string m)).setCell ⟨g, ixO ns n * 5 + 3, none⟩ (.int .i64 N)).setCell ⟨g, ixO ns n * 5 + 4, none⟩ s) := by
  rcases h with h | h
  · exact h.put hn hx hk
  · have := h.put hn hx hk
    rw [RS.put_put] at this
    exact this
end Go.Proofs.YtncebhddcokkoaaDoor
/- The document's solver: a type with all that its variables became. -/
namespace Go.Proofs.YtncebhddcokkoaaDoor
open Go.RowKit
set_option linter.unusedSimpArgs false
set_option linter.unusedVariables false
theorem RS.Fu.shape {S : RS} {ns : List ByteArray} {t x u : Tm} (hl : RS.Look S t x) (h : RS.Fu S x u) (hw : Wt ns x) : ∃ (k : Int) (p m : ByteArray) (l ms : List Tm), x = .mk k p m 0 l ∧ u = .mk k p m 0 ms ∧ l.length = ms.length ∧ ∀ (i : Nat) (a b : Tm), l[i]? = some a → ms[i]? = some b → RS.Fu S a b ∧ Wt ns a := by
  obtain ⟨k, N, p, m, l, rfl, hf⟩ := hl.top
  obtain rfl := hw.zero
  rcases h.inv rfl with ⟨rfl, hn, e⟩ | ⟨rfl, c, hc, _⟩ | ⟨hk, ms, e, hl, hm⟩
  · obtain ⟨h1, rfl, rfl, _⟩ := hw.var
    exact ⟨1, _, m, [], [], rfl, e, rfl, fun i a b ha => by simp at ha⟩
  · rw [hf rfl] at hc; cases hc
  · exact ⟨k, p, m, l, ms, rfl, e, hl, fun i a b ha hb => ⟨hm i a b ha hb, hw.kid hk (List.mem_of_getElem? ha)⟩⟩
end Go.Proofs.YtncebhddcokkoaaDoor
