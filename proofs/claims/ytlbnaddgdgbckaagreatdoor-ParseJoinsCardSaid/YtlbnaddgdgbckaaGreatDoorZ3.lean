/- Texts in a row: U2 Pb. -/
import Derived.Test.YtlbnaddgdgbckaaGreatDoorZ2
import Derived.Maps.AppendAt
/- Terms whose lists lie in given blocks; an append of one term. -/
namespace Go.Proofs.YtlbnaddgdgbckaaGreatDoor
open Go.RowKit
/-- A value is a term, at most so deep, and the blocks of its lists are in X. -/
def IsX (X : Nat → Prop) (w : World) : Nat → Value → Tm → Prop
  | 0, _, _ => False
  | d + 1, v, .mk k p n N kids => ∃ q c, v = tv k p n N (.slice q kids.length c) ∧ p.size ≤ maxLen ∧ n.size ≤ maxLen ∧ kids.length ≤ maxLen ∧
      ∀ i x, kids[i]? = some x → ∃ b o k' p' n' N' s', q = some ⟨b, o, none⟩ ∧ X b ∧ TAt w b (o + i * 5) k' p' n' N' s' ∧ IsX X w d (tv k' p' n' N' s') x
theorem IsX.isT {X : Nat → Prop} {w : World} {d : Nat} : ∀ {v : Value} {x : Tm}, IsX X w d v x → IsT w d v x := by
  induction d with
  | zero => intro v x h; cases h
  | succ d ih =>
    intro v x h
    obtain ⟨k, p, n, N, kids⟩ := x
    obtain ⟨q, c, h1, h2, h3, h4, h5⟩ := h
    refine ⟨q, c, h1, h2, h3, h4, fun i y hy => ?_⟩
    obtain ⟨b, o, k', p', n', N', s', e, _, ha, ht⟩ := h5 i y hy
    exact ⟨b, o, k', p', n', N', s', e, ha, ih ht⟩
theorem IsX.move {X Y : Nat → Prop} {w w' : World} (hXY : ∀ b, X b → b < w.heap.size → Y b ∧ w'.heap[b]? = w.heap[b]?) {d : Nat} : ∀ {v : Value} {x : Tm}, IsX X w d v x → IsX Y w' d v x := by
  induction d with
  | zero => intro v x h; cases h
  | succ d ih =>
    intro v x h
    obtain ⟨k, p, n, N, kids⟩ := x
    obtain ⟨q, c, h1, h2, h3, h4, h5⟩ := h
    refine ⟨q, c, h1, h2, h3, h4, fun i y hy => ?_⟩
    obtain ⟨b, o, k', p', n', N', s', e, hX, ha, ht⟩ := h5 i y hy
    obtain ⟨hY, hb⟩ := hXY b hX ha.lt
    exact ⟨b, o, k', p', n', N', s', e, hY, ha.keep fun j => by simp [World.cell?, hb], ih ht⟩
theorem IsX.below {X : Nat → Prop} {w w' : World} {d : Nat} {v : Value} {x : Tm} (h : IsX X w d v x) (hb : Below w.heap.size w w') : IsX X w' d v x :=
  h.move fun b hX hl => ⟨hX, hb.block b hl⟩
/-- The cells of some terms, one behind the other. -/
def flatC (l : List (Int × ByteArray × ByteArray × Int × Value)) : List Value := l.flatMap fun t => [.int .i64 t.1, .string t.2.1, .string t.2.2.1, .int .i64 t.2.2.2.1, t.2.2.2.2]
theorem flatC_length (l : List (Int × ByteArray × ByteArray × Int × Value)) : (flatC l).length = l.length * 5 := by
  induction l with
  | nil => rfl
  | cons t l ih => unfold flatC at *; rw [List.flatMap_cons, List.length_append, ih, List.length_cons]; simp; omega
theorem flatC_snoc (l : List (Int × ByteArray × ByteArray × Int × Value)) (t : Int × ByteArray × ByteArray × Int × Value) : flatC (l ++ [t]) = flatC l ++ [.int .i64 t.1, .string t.2.1, .string t.2.2.1, .int .i64 t.2.2.2.1, t.2.2.2.2] := by simp [flatC]
end Go.Proofs.YtlbnaddgdgbckaaGreatDoor
/- A reader's steps in memory; rows of anything, that are made by appends. -/
namespace Go.Proofs.YtlbnaddgdgbckaaGreatDoor
open Go.RowKit
set_option linter.unusedSimpArgs false
set_option linter.unusedVariables false
/-- All but one block is as it was. -/
def Rg (r : Nat) (w w' : World) : Prop := w.grownBy w' (some r)
theorem Rg.refl (r : Nat) (w : World) : Rg r w w := ⟨rfl, rfl, rfl, Nat.le_refl _, fun _ _ _ => rfl⟩
theorem Rg.trans {r : Nat} {a b c : World} (h : Rg r a b) (k : Rg r b c) : Rg r a c :=
  ⟨k.os.trans h.os, k.tape.trans h.tape, k.output.trans h.output, Nat.le_trans h.size k.size, fun i hi hr => (k.block i (Nat.lt_of_lt_of_le hi h.size) hr).trans (h.block i hi hr)⟩
theorem Rg.of_below {r : Nat} {a b : World} (h : Below a.heap.size a b) : Rg r a b := ⟨h.os, h.tape, h.output, h.size, fun i hi _ => h.block i hi⟩
theorem Rg.alloc {r : Nat} {a b : World} (h : Rg r a b) (o : Obj) : Rg r a (b.alloc o) := h.trans (Rg.of_below (below_alloc b o))
theorem Rg.drew {r : Nat} {a b : World} (h : Rg r a b) : Rg r a b.drew := ⟨h.os, h.tape, h.output, h.size, h.block⟩
theorem Rg.drewN {r : Nat} {a b : World} (h : Rg r a b) (n : Nat) : Rg r a (b.drewN n) := ⟨h.os, h.tape, h.output, h.size, h.block⟩
theorem Rg.set {r : Nat} {a b : World} (h : Rg r a b) (i : Nat) (v : Value) : Rg r a (b.setCell ⟨r, i, none⟩ v) := h.trans (grown_set b ⟨r, i, none⟩ v)
/-- A store into a new block. -/
theorem Rg.set_new {r : Nat} {a b : World} (h : Rg r a b) {g : Nat} (hg : a.heap.size ≤ g) (i : Nat) (v : Value) : Rg r a (b.setCell ⟨g, i, none⟩ v) := by
  have hs := grown_set b ⟨g, i, none⟩ v
  refine ⟨hs.os.trans h.os, hs.tape.trans h.tape, hs.output.trans h.output, Nat.le_trans h.size hs.size, fun k hk hr => ?_⟩
  rw [hs.block k (Nat.lt_of_lt_of_le hk h.size) (fun e => by have := Option.some.inj e; simp at this; omega)]
  exact h.block k hk hr
/-- An append to a row of one's own. -/
theorem Rg.grown {r : Nat} {a b c : World} (h : Rg r a b) {row : Option Nat} (hg : b.grownBy c row) (hr : ∀ k, row = some k → a.heap.size ≤ k) : Rg r a c :=
  ⟨hg.os.trans h.os, hg.tape.trans h.tape, hg.output.trans h.output, Nat.le_trans h.size hg.size, fun k hk hne => by
    rw [hg.block k (Nat.lt_of_lt_of_le hk h.size) (fun e => by have := hr k e.symm; omega)]
    exact h.block k hk hne⟩
theorem Rg.keep {r : Nat} {a b : World} (h : Rg r a b) {k : Nat} {x : Obj} (hk : a.heap[k]? = some x) (hne : k ≠ r) : b.heap[k]? = some x := by
  rw [h.block k (hb_lt hk) (fun e => hne (Option.some.inj e))]; exact hk
theorem Rg.cell {r : Nat} {a b : World} (h : Rg r a b) {k i : Nat} {v : Value} (hk : a.cell? ⟨k, i, none⟩ = some v) (hne : k ≠ r) : b.cell? ⟨k, i, none⟩ = some v :=
  World.grownBy.cell h hk (fun e => hne (Option.some.inj e))
theorem Rg.same {r : Nat} {a b : World} (h : Rg r a b) {k : Nat} (hk : k < a.heap.size) (hne : k ≠ r) : b.heap[k]? = a.heap[k]? := h.block k hk (fun e => hne (Option.some.inj e))
/-- A token in memory. -/
def TokAt (w : World) (b o : Nat) (x : Tk × Nat) : Prop :=
  w.cell? ⟨b, o, none⟩ = some (.int .i64 x.1.k) ∧ w.cell? ⟨b, o + 1, none⟩ = some (.string x.1.s) ∧ w.cell? ⟨b, o + 2, none⟩ = some (.int .i64 x.1.n) ∧ w.cell? ⟨b, o + 3, none⟩ = some (.int .i64 (x.2 : Nat))
theorem TokAt.move {w w' : World} {b o : Nat} {x : Tk × Nat} (h : TokAt w b o x) (hb : w'.heap[b]? = w.heap[b]?) : TokAt w' b o x := by
  have hk : ∀ j, w'.cell? ⟨b, j, none⟩ = w.cell? ⟨b, j, none⟩ := fun j => World.cell?_of_block (a := ⟨b, j, none⟩) hb
  exact ⟨by rw [hk, h.1], by rw [hk, h.2.1], by rw [hk, h.2.2.1], by rw [hk, h.2.2.2]⟩
theorem TokAt.lt {w : World} {b o : Nat} {x : Tk × Nat} (h : TokAt w b o x) : b < w.heap.size := block_lt_of_cell h.1
/-- Tokens, as a slice tells them; not in block r. -/
def TokS (r : Nat) (w : World) (v : Value) (ts : Ts) : Prop := ∃ q c, v = .slice q ts.length c ∧ ts.length ≤ c ∧ c ≤ maxLen ∧ ts.length ≤ 6000 ∧
  ∀ i x, ts[i]? = some x → x.1.s.size ≤ 4194304 ∧ ∃ b o, q = some ⟨b, o, none⟩ ∧ b < r ∧ TokAt w b (o + i * 4) x
theorem TokS.upto {r : Nat} {w w' : World} {v : Value} {ts : Ts} (h : TokS r w v ts) (hg : ∀ b, b < r → b < w.heap.size → w'.heap[b]? = w.heap[b]?) : TokS r w' v ts := by
  obtain ⟨q, c, h1, h2, h3, h4, h5⟩ := h
  refine ⟨q, c, h1, h2, h3, h4, fun i x hx => ?_⟩
  obtain ⟨hz, b, o, e, hb, ht⟩ := h5 i x hx
  exact ⟨hz, b, o, e, hb, ht.move (hg b hb ht.lt)⟩
theorem TokS.move {r : Nat} {w w' : World} {v : Value} {ts : Ts} (h : TokS r w v ts) (hg : Rg r w w') : TokS r w' v ts := h.upto fun b hb hl => hg.same hl (by omega)
/-- A reader: the tokens that are still to read, and the source's length. -/
def Rd (r E : Nat) (w : World) (ts : Ts) : Prop := E ≤ 4194304 ∧ ∃ v, w.heap[r]? = some (.cells #[v, .int .i64 (E : Nat)] 91 (0, 0)) ∧ TokS r w v ts
theorem Rd.lt {r E : Nat} {w : World} {ts : Ts} (h : Rd r E w ts) : r < w.heap.size := let ⟨_, _, hb, _⟩ := h; hb_lt hb
theorem Rd.move {r E : Nat} {w w' : World} {ts : Ts} (h : Rd r E w ts) (hg : Rg r w w') (hr : w'.heap[r]? = w.heap[r]?) : Rd r E w' ts := by
  obtain ⟨hE, v, h1, h2⟩ := h
  exact ⟨hE, v, by rw [hr]; exact h1, h2.move hg⟩
theorem Rd.upto {r E : Nat} {w w' : World} {ts : Ts} (h : Rd r E w ts) (hg : ∀ b, b ≤ r → b < w.heap.size → w'.heap[b]? = w.heap[b]?) : Rd r E w' ts := by
  have hl := h.lt
  obtain ⟨hE, v, h1, h2⟩ := h
  exact ⟨hE, v, by rw [hg r (Nat.le_refl _) hl]; exact h1, h2.upto fun b hb hl2 => hg b (by omega) hl2⟩
/-- Behind an append to a row of one's own. -/
theorem Rd.grown {r E : Nat} {w w' : World} {ts : Ts} (h : Rd r E w ts) {row : Option Nat} (hg : w.grownBy w' row) (hr : ∀ k, row = some k → r < k) : Rd r E w' ts :=
  h.upto fun b hb hl => hg.block b hl fun e => by have := hr b e.symm; omega
/-- Behind a store into a new block. -/
theorem Rd.set_new {r E : Nat} {w : World} {ts : Ts} (h : Rd r E w ts) {g : Nat} (hg : r < g) (i : Nat) (v : Value) : Rd r E (w.setCell ⟨g, i, none⟩ v) ts :=
  h.upto fun b hb _ => Below.heap_setCell w ⟨g, i, none⟩ v b (by show b ≠ g; omega)
theorem Rd.below {r E : Nat} {w w' : World} {ts : Ts} (h : Rd r E w ts) (hb : Below w.heap.size w w') : Rd r E w' ts := h.move (Rg.of_below hb) (hb.block r h.lt)
theorem Rd.alloc {r E : Nat} {w : World} {ts : Ts} (h : Rd r E w ts) (o : Obj) : Rd r E (w.alloc o) ts := h.below (below_alloc w o)
theorem Rd.few {r E : Nat} {w : World} {ts : Ts} (h : Rd r E w ts) : ts.length ≤ 6000 := by obtain ⟨_, v, _, q, c, _, _, _, h4, _⟩ := h; exact h4
/-- The fault that ends a reader. -/
def flt (x : Nat × Nat) : List PanicEntry := [{ v := .iface 88 (.agg #[.int .i64 (x.1 : Nat), .int .i64 (x.2 : Nat)]), recovered := false }]
/-- What a reader's call comes to. -/
def Got {α : Type} (r E : Nat) (V : World → World → Value → α → Prop) (w : World) (x : Res α) (e : Ending) (w' : World) : Prop :=
  Rg r w w' ∧ match x with
  | .ok y => (∃ v, e = .returned v ∧ V w w' v y.1) ∧ Rd r E w' y.2
  | .error y => e = .panicked (flt y)
/-- The blocks that are new. -/
def New (w : World) (b : Nat) : Prop := w.heap.size ≤ b
/-- A term, whose lists are new. -/
def TmV (w w' : World) (v : Value) (t : Tm) : Prop := ∃ d, IsX (New w) w' d v t
set_option maxRecDepth 100000 in
theorem res_term {fn : Func} {i : Nat} (hres : fn.results = #[ResultVar.cell i 39]) {tmps : Array Value} {g : Nat} (h : tmps[i]?.getD undef = .pointer (some ⟨g, 0, none⟩)) {w : World} {c0 c1 c2 c3 c4 : Value} {t : TypeId} {f : Nat × Nat} (hb : w.heap[g]? = some (.cells #[c0, c1, c2, c3, c4] t f)) :
    (results fn tmps).run Tryz.prog w = .ok (.agg #[c0, c1, c2, c3, c4]) w := by
  have x0 := hb_at hb 0 rfl
  have x1 := hb_at hb 1 rfl
  have x2 := hb_at hb 2 rfl
  have x3 := hb_at hb 3 rfl
  have x4 := hb_at hb 4 rfl
  simp [results, hres, h, go_sem, Tryz.isAgg39, x0, x1, x2, x3, x4]
set_option maxRecDepth 100000 in
theorem res_fault {fn : Func} {i : Nat} (hres : fn.results = #[ResultVar.cell i 88]) {tmps : Array Value} {g : Nat} (h : tmps[i]?.getD undef = .pointer (some ⟨g, 0, none⟩)) {w : World} {c0 c1 : Value} {t : TypeId} {f : Nat × Nat} (hb : w.heap[g]? = some (.cells #[c0, c1] t f)) :
    (results fn tmps).run Tryz.prog w = .ok (.agg #[c0, c1]) w := by
  have x0 := hb_at hb 0 rfl
  have x1 := hb_at hb 1 rfl
  simp [results, hres, h, go_sem, Tryz.isAgg88, x0, x1]
/-- A box's cells. -/
theorem box2 {w : World} {g : Nat} {c0 c1 : Value} {t : TypeId} (hb : w.heap[g]? = some (.cells #[c0, c1] t (0, 0))) : w.cell? ⟨g, 0, none⟩ = some c0 ∧ w.cell? ⟨g, 1, none⟩ = some c1 ∧ w.frozen? ⟨g, 0, none⟩ = false ∧ w.frozen? ⟨g, 1, none⟩ = false :=
  ⟨hb_at hb 0 rfl, hb_at hb 1 rfl, hb_free hb 0, hb_free hb 1⟩
theorem box5 {w : World} {g : Nat} {c0 c1 c2 c3 c4 : Value} {t : TypeId} (hb : w.heap[g]? = some (.cells #[c0, c1, c2, c3, c4] t (0, 0))) : w.cell? ⟨g, 0, none⟩ = some c0 ∧ w.cell? ⟨g, 1, none⟩ = some c1 ∧ w.cell? ⟨g, 2, none⟩ = some c2 ∧ w.cell? ⟨g, 3, none⟩ = some c3 ∧ w.cell? ⟨g, 4, none⟩ = some c4 ∧ w.frozen? ⟨g, 0, none⟩ = false ∧ w.frozen? ⟨g, 1, none⟩ = false ∧ w.frozen? ⟨g, 2, none⟩ = false ∧ w.frozen? ⟨g, 3, none⟩ = false ∧ w.frozen? ⟨g, 4, none⟩ = false :=
  ⟨hb_at hb 0 rfl, hb_at hb 1 rfl, hb_at hb 2 rfl, hb_at hb 3 rfl, hb_at hb 4 rfl, hb_free hb 0, hb_free hb 1, hb_free hb 2, hb_free hb 3, hb_free hb 4⟩
theorem set5 {w : World} {g : Nat} {c0 c1 c2 c3 c4 : Value} {t : TypeId} {f : Nat × Nat} (hb : w.heap[g]? = some (.cells #[c0, c1, c2, c3, c4] t f)) (d0 d1 d2 d3 d4 : Value) :
    (((((w.setCell ⟨g, 0, none⟩ d0).setCell ⟨g, 1, none⟩ d1).setCell ⟨g, 2, none⟩ d2).setCell ⟨g, 3, none⟩ d3).setCell ⟨g, 4, none⟩ d4).heap[g]? = some (.cells #[d0, d1, d2, d3, d4] t f) :=
  hb_set_same (hb_set_same (hb_set_same (hb_set_same (hb_set_same hb 0 d0) 1 d1) 2 d2) 3 d3) 4 d4
theorem TAt.rg {r : Nat} {w w' : World} {b o : Nat} {k : Int} {p n : ByteArray} {N : Int} {s : Value} (h : TAt w b o k p n N s) (hg : Rg r w w') (hb : b ≠ r) : TAt w' b o k p n N s :=
  h.keep fun j => World.cell?_of_block (a := ⟨b, j, none⟩) (hg.same h.lt hb)
theorem TAt.move_alloc {w : World} {b o : Nat} {k : Int} {p n : ByteArray} {N : Int} {s : Value} (h : TAt w b o k p n N s) (x : Obj) : TAt (w.alloc x) b o k p n N s := h.below (below_alloc w x) h.lt
end Go.Proofs.YtlbnaddgdgbckaaGreatDoor
