/- Texts in a row: U2 Pb Pc Pd. -/
import Derived.Test.YtmkjalnlldpdcaaGreatDoorZT9
import Derived.Maps.AppendAt
import Derived.Outline
import Derived.Deep.DeepCutAuto
import Derived.Deep.RegionHeld3
set_option maxHeartbeats 16000000
set_option maxRecDepth 100000
namespace Go.Proofs.YtmkjalnlldpdcaaGreatDoor
open Go.RowKit
def IsX (X : Nat → Prop) (w : World) : Nat → Value → Tm → Prop
 | 0, _, _ => False
 | d + 1, v, .mk k p n N kids => ∃ q c, v = tv k p n N (.slice q kids.length c) ∧ p.size ≤ maxLen ∧ n.size ≤ maxLen ∧ kids.length ≤ maxLen ∧
   ∀ i x, kids[i]? = some x → ∃ b o k' p' n' N' s', q = some ⟨b, o, none⟩ ∧ X b ∧ TAt w b (o + i * 5) k' p' n' N' s' ∧ IsX X w d (tv k' p' n' N' s') x
theorem IsX.isT {X : Nat → Prop} {w : World} {d : Nat} : ∀ {v : Value} {x : Tm}, IsX X w d v x → IsT w d v x := by
 induction d with
 | zero => intro v x h; cases h
 | succ d ih =>
  intro v x h
  obtain ⟨k, p, n, N, kids⟩ := x
  obtain ⟨q, c, h1, h2, h3, h4, h5⟩ := h
  refine ⟨q, c, h1, h2, h3, h4, fun i y hy => ?_⟩
  obtain ⟨b, o, k', p', n', N', s', e, _, ha, ht⟩ := h5 i y hy
  exact ⟨b, o, k', p', n', N', s', e, ha, ih ht⟩
theorem IsX.move {X Y : Nat → Prop} {w w' : World} (hXY : ∀ b, X b → b < w.heap.size → Y b ∧ w'.heap[b]? = w.heap[b]?) {d : Nat} : ∀ {v : Value} {x : Tm}, IsX X w d v x → IsX Y w' d v x := by
 induction d with
 | zero => intro v x h; cases h
 | succ d ih =>
  intro v x h
  obtain ⟨k, p, n, N, kids⟩ := x
  obtain ⟨q, c, h1, h2, h3, h4, h5⟩ := h
  refine ⟨q, c, h1, h2, h3, h4, fun i y hy => ?_⟩
  obtain ⟨b, o, k', p', n', N', s', e, hX, ha, ht⟩ := h5 i y hy
  obtain ⟨hY, hb⟩ := hXY b hX ha.lt
  exact ⟨b, o, k', p', n', N', s', e, hY, ha.keep fun j => by simp [World.cell?, hb], ih ht⟩
theorem IsX.below {X : Nat → Prop} {w w' : World} {d : Nat} {v : Value} {x : Tm} (h : IsX X w d v x) (hb : Below w.heap.size w w') : IsX X w' d v x :=
 h.move fun b hX hl => ⟨hX, hb.block b hl⟩
end Go.Proofs.YtmkjalnlldpdcaaGreatDoor
namespace Go.Proofs.YtmkjalnlldpdcaaGreatDoor
open Go.RowKit
set_option linter.unusedSimpArgs false
set_option linter.unusedVariables false
def Rg (r : Nat) (w w' : World) : Prop := w.grownBy w' (some r)
theorem Rg.refl (r : Nat) (w : World) : Rg r w w := ⟨rfl, rfl, rfl, Nat.le_refl _, fun _ _ _ => rfl⟩
theorem Rg.trans {r : Nat} {a b c : World} (h : Rg r a b) (k : Rg r b c) : Rg r a c :=
 ⟨k.os.trans h.os, k.tape.trans h.tape, k.output.trans h.output, Nat.le_trans h.size k.size, fun i hi hr => (k.block i (Nat.lt_of_lt_of_le hi h.size) hr).trans (h.block i hi hr)⟩
theorem Rg.of_below {r : Nat} {a b : World} (h : Below a.heap.size a b) : Rg r a b := ⟨h.os, h.tape, h.output, h.size, fun i hi _ => h.block i hi⟩
theorem Rg.alloc {r : Nat} {a b : World} (h : Rg r a b) (o : Obj) : Rg r a (b.alloc o) := h.trans (Rg.of_below (below_alloc b o))
theorem Rg.drew {r : Nat} {a b : World} (h : Rg r a b) : Rg r a b.drew := ⟨h.os, h.tape, h.output, h.size, h.block⟩
theorem Rg.drewN {r : Nat} {a b : World} (h : Rg r a b) (n : Nat) : Rg r a (b.drewN n) := ⟨h.os, h.tape, h.output, h.size, h.block⟩
theorem Rg.set {r : Nat} {a b : World} (h : Rg r a b) (i : Nat) (v : Value) : Rg r a (b.setCell ⟨r, i, none⟩ v) := h.trans (grown_set b ⟨r, i, none⟩ v)
theorem Rg.set_new {r : Nat} {a b : World} (h : Rg r a b) {g : Nat} (hg : a.heap.size ≤ g) (i : Nat) (v : Value) : Rg r a (b.setCell ⟨g, i, none⟩ v) := by
 have hs := grown_set b ⟨g, i, none⟩ v
 refine ⟨hs.os.trans h.os, hs.tape.trans h.tape, hs.output.trans h.output, Nat.le_trans h.size hs.size, fun k hk hr => ?_⟩
 rw [hs.block k (Nat.lt_of_lt_of_le hk h.size) (fun e => by have := Option.some.inj e; simp at this; omega)]
 exact h.block k hk hr
theorem Rg.grown {r : Nat} {a b c : World} (h : Rg r a b) {row : Option Nat} (hg : b.grownBy c row) (hr : ∀ k, row = some k → a.heap.size ≤ k) : Rg r a c :=
 ⟨hg.os.trans h.os, hg.tape.trans h.tape, hg.output.trans h.output, Nat.le_trans h.size hg.size, fun k hk hne => by
  rw [hg.block k (Nat.lt_of_lt_of_le hk h.size) (fun e => by have := hr k e.symm; omega)]
  exact h.block k hk hne⟩
theorem Rg.keep {r : Nat} {a b : World} (h : Rg r a b) {k : Nat} {x : Obj} (hk : a.heap[k]? = some x) (hne : k ≠ r) : b.heap[k]? = some x := by
 rw [h.block k (hb_lt hk) (fun e => hne (Option.some.inj e))]; exact hk
theorem Rg.cell {r : Nat} {a b : World} (h : Rg r a b) {k i : Nat} {v : Value} (hk : a.cell? ⟨k, i, none⟩ = some v) (hne : k ≠ r) : b.cell? ⟨k, i, none⟩ = some v :=
 World.grownBy.cell h hk (fun e => hne (Option.some.inj e))
theorem Rg.same {r : Nat} {a b : World} (h : Rg r a b) {k : Nat} (hk : k < a.heap.size) (hne : k ≠ r) : b.heap[k]? = a.heap[k]? := h.block k hk (fun e => hne (Option.some.inj e))
def TokAt (w : World) (b o : Nat) (x : Tk × Nat) : Prop :=
 w.cell? ⟨b, o, none⟩ = some (.int .i64 x.1.k) ∧ w.cell? ⟨b, o + 1, none⟩ = some (.string x.1.s) ∧ w.cell? ⟨b, o + 2, none⟩ = some (.int .i64 x.1.n) ∧ w.cell? ⟨b, o + 3, none⟩ = some (.int .i64 (x.2 : Nat))
theorem TokAt.move {w w' : World} {b o : Nat} {x : Tk × Nat} (h : TokAt w b o x) (hb : w'.heap[b]? = w.heap[b]?) : TokAt w' b o x := by
 have hk : ∀ j, w'.cell? ⟨b, j, none⟩ = w.cell? ⟨b, j, none⟩ := fun j => World.cell?_of_block (a := ⟨b, j, none⟩) hb
 exact ⟨by rw [hk, h.1], by rw [hk, h.2.1], by rw [hk, h.2.2.1], by rw [hk, h.2.2.2]⟩
theorem TokAt.lt {w : World} {b o : Nat} {x : Tk × Nat} (h : TokAt w b o x) : b < w.heap.size := block_lt_of_cell h.1
def TokS (r : Nat) (w : World) (v : Value) (ts : Ts) : Prop := ∃ q c, v = .slice q ts.length c ∧ ts.length ≤ c ∧ c ≤ maxLen ∧ ts.length ≤ 6000 ∧
 ∀ i x, ts[i]? = some x → x.1.s.size ≤ 4194304 ∧ ∃ b o, q = some ⟨b, o, none⟩ ∧ b < r ∧ TokAt w b (o + i * 4) x
theorem TokS.upto {r : Nat} {w w' : World} {v : Value} {ts : Ts} (h : TokS r w v ts) (hg : ∀ b, b < r → b < w.heap.size → w'.heap[b]? = w.heap[b]?) : TokS r w' v ts := by
 obtain ⟨q, c, h1, h2, h3, h4, h5⟩ := h
 refine ⟨q, c, h1, h2, h3, h4, fun i x hx => ?_⟩
 obtain ⟨hz, b, o, e, hb, ht⟩ := h5 i x hx
 exact ⟨hz, b, o, e, hb, ht.move (hg b hb ht.lt)⟩
theorem TokS.move {r : Nat} {w w' : World} {v : Value} {ts : Ts} (h : TokS r w v ts) (hg : Rg r w w') : TokS r w' v ts := h.upto fun b hb hl => hg.same hl (by omega)
def Rd (r E : Nat) (w : World) (ts : Ts) : Prop := E ≤ 4194304 ∧ ∃ v, w.heap[r]? = some (.cells #[v, .int .i64 (E : Nat)] 149 (0, 0)) ∧ TokS r w v ts
theorem Rd.lt {r E : Nat} {w : World} {ts : Ts} (h : Rd r E w ts) : r < w.heap.size := let ⟨_, _, hb, _⟩ := h; hb_lt hb
theorem Rd.move {r E : Nat} {w w' : World} {ts : Ts} (h : Rd r E w ts) (hg : Rg r w w') (hr : w'.heap[r]? = w.heap[r]?) : Rd r E w' ts := by
 obtain ⟨hE, v, h1, h2⟩ := h
 exact ⟨hE, v, by rw [hr]; exact h1, h2.move hg⟩
theorem Rd.upto {r E : Nat} {w w' : World} {ts : Ts} (h : Rd r E w ts) (hg : ∀ b, b ≤ r → b < w.heap.size → w'.heap[b]? = w.heap[b]?) : Rd r E w' ts := by
 have hl := h.lt
 obtain ⟨hE, v, h1, h2⟩ := h
 exact ⟨hE, v, by rw [hg r (Nat.le_refl _) hl]; exact h1, h2.upto fun b hb hl2 => hg b (by omega) hl2⟩
theorem Rd.grown {r E : Nat} {w w' : World} {ts : Ts} (h : Rd r E w ts) {row : Option Nat} (hg : w.grownBy w' row) (hr : ∀ k, row = some k → r < k) : Rd r E w' ts :=
 h.upto fun b hb hl => hg.block b hl fun e => by have := hr b e.symm; omega
theorem Rd.set_new {r E : Nat} {w : World} {ts : Ts} (h : Rd r E w ts) {g : Nat} (hg : r < g) (i : Nat) (v : Value) : Rd r E (w.setCell ⟨g, i, none⟩ v) ts :=
 h.upto fun b hb _ => Below.heap_setCell w ⟨g, i, none⟩ v b (by show b ≠ g; omega)
theorem Rd.below {r E : Nat} {w w' : World} {ts : Ts} (h : Rd r E w ts) (hb : Below w.heap.size w w') : Rd r E w' ts := h.move (Rg.of_below hb) (hb.block r h.lt)
theorem Rd.alloc {r E : Nat} {w : World} {ts : Ts} (h : Rd r E w ts) (o : Obj) : Rd r E (w.alloc o) ts := h.below (below_alloc w o)
theorem Rd.few {r E : Nat} {w : World} {ts : Ts} (h : Rd r E w ts) : ts.length ≤ 6000 := by obtain ⟨_, v, _, q, c, _, _, _, h4, _⟩ := h; exact h4
def flt (x : Nat × Nat) : List PanicEntry := [{ v := .iface 146 (.agg #[.int .i64 (x.1 : Nat), .int .i64 (x.2 : Nat)]), recovered := false }]
def Got {α : Type} (r E : Nat) (V : World → World → Value → α → Prop) (w : World) (x : Res α) (e : Ending) (w' : World) : Prop :=
 Rg r w w' ∧ match x with
 | .ok y => (∃ v, e = .returned v ∧ V w w' v y.1) ∧ Rd r E w' y.2
 | .error y => e = .panicked (flt y)
def New (w : World) (b : Nat) : Prop := w.heap.size ≤ b
def TmV (w w' : World) (v : Value) (t : Tm) : Prop := ∃ d, IsX (New w) w' d v t
theorem res_term {fn : Func} {i : Nat} (hres : fn.results = #[ResultVar.cell i 24]) {tmps : Array Value} {g : Nat} (h : tmps[i]?.getD undef = .pointer (some ⟨g, 0, none⟩)) {w : World} {c0 c1 c2 c3 c4 : Value} {t : TypeId} {f : Nat × Nat} (hb : w.heap[g]? = some (.cells #[c0, c1, c2, c3, c4] t f)) :
 (results fn tmps).run Tryz.prog w = .ok (.agg #[c0, c1, c2, c3, c4]) w := by
 obtain ⟨x0, x1, x2, x3, x4⟩ := hb5 hb
 simp [results, hres, h, go_sem, Tryz.isAgg24, x0, x1, x2, x3, x4]
theorem res_fault {fn : Func} {i : Nat} (hres : fn.results = #[ResultVar.cell i 146]) {tmps : Array Value} {g : Nat} (h : tmps[i]?.getD undef = .pointer (some ⟨g, 0, none⟩)) {w : World} {c0 c1 : Value} {t : TypeId} {f : Nat × Nat} (hb : w.heap[g]? = some (.cells #[c0, c1] t f)) :
 (results fn tmps).run Tryz.prog w = .ok (.agg #[c0, c1]) w := by
 have x0 := hb_at hb 0 rfl
 have x1 := hb_at hb 1 rfl
 simp [results, hres, h, go_sem, Tryz.isAgg146, x0, x1]
theorem box2 {w : World} {g : Nat} {c0 c1 : Value} {t : TypeId} (hb : w.heap[g]? = some (.cells #[c0, c1] t (0, 0))) : w.cell? ⟨g, 0, none⟩ = some c0 ∧ w.cell? ⟨g, 1, none⟩ = some c1 ∧ w.frozen? ⟨g, 0, none⟩ = false ∧ w.frozen? ⟨g, 1, none⟩ = false :=
 ⟨hb_at hb 0 rfl, hb_at hb 1 rfl, hb_free hb 0, hb_free hb 1⟩
theorem box5 {w : World} {g : Nat} {c0 c1 c2 c3 c4 : Value} {t : TypeId} (hb : w.heap[g]? = some (.cells #[c0, c1, c2, c3, c4] t (0, 0))) : w.cell? ⟨g, 0, none⟩ = some c0 ∧ w.cell? ⟨g, 1, none⟩ = some c1 ∧ w.cell? ⟨g, 2, none⟩ = some c2 ∧ w.cell? ⟨g, 3, none⟩ = some c3 ∧ w.cell? ⟨g, 4, none⟩ = some c4 ∧ w.frozen? ⟨g, 0, none⟩ = false ∧ w.frozen? ⟨g, 1, none⟩ = false ∧ w.frozen? ⟨g, 2, none⟩ = false ∧ w.frozen? ⟨g, 3, none⟩ = false ∧ w.frozen? ⟨g, 4, none⟩ = false :=
 ⟨hb_at hb 0 rfl, hb_at hb 1 rfl, hb_at hb 2 rfl, hb_at hb 3 rfl, hb_at hb 4 rfl, hb_free hb 0, hb_free hb 1, hb_free hb 2, hb_free hb 3, hb_free hb 4⟩
theorem set5 {w : World} {g : Nat} {c0 c1 c2 c3 c4 : Value} {t : TypeId} {f : Nat × Nat} (hb : w.heap[g]? = some (.cells #[c0, c1, c2, c3, c4] t f)) (d0 d1 d2 d3 d4 : Value) :
 (((((w.setCell ⟨g, 0, none⟩ d0).setCell ⟨g, 1, none⟩ d1).setCell ⟨g, 2, none⟩ d2).setCell ⟨g, 3, none⟩ d3).setCell ⟨g, 4, none⟩ d4).heap[g]? = some (.cells #[d0, d1, d2, d3, d4] t f) :=
 hb_set_same (hb_set_same (hb_set_same (hb_set_same (hb_set_same hb 0 d0) 1 d1) 2 d2) 3 d3) 4 d4
theorem TAt.rg {r : Nat} {w w' : World} {b o : Nat} {k : Int} {p n : ByteArray} {N : Int} {s : Value} (h : TAt w b o k p n N s) (hg : Rg r w w') (hb : b ≠ r) : TAt w' b o k p n N s :=
 h.keep fun j => World.cell?_of_block (a := ⟨b, j, none⟩) (hg.same h.lt hb)
theorem TAt.move_alloc {w : World} {b o : Nat} {k : Int} {p n : ByteArray} {N : Int} {s : Value} (h : TAt w b o k p n N s) (x : Obj) : TAt (w.alloc x) b o k p n N s := h.below (below_alloc w x) h.lt
structure Mem (α : Type) where
 t : TypeId
 e : TypeId
 size : Nat
 bytes : Nat
 V : (Nat → Prop) → World → List Value → α → Prop
 und : Tryz.prog.underlying t = some (.slice e)
 inf : ∃ z, (Tryz.prog.info? e).map (fun i => (i.zero, i.size, i.bytes)) = some (some z, size, bytes) ∧ z.cells.size = size
 pos : 0 < size
 few : bytes ≤ 1000
 len : ∀ {X : Nat → Prop} {w : World} {cs : List Value} {a : α}, V X w cs a → cs.length = size
 one : ∀ {X : Nat → Prop} {w : World} {cs : List Value} {a : α}, V X w cs a → ∀ u ∈ cs, u.oneCell' = true
 move : ∀ {X Y : Nat → Prop} {w w' : World} {cs : List Value} {a : α}, (∀ b, X b → b < w.heap.size → Y b ∧ w'.heap[b]? = w.heap[b]?) → V X w cs a → V Y w' cs a
variable {α : Type}
def SlG (K : Mem α) (X : Nat → Prop) (w : World) (v : Value) (l : List α) : Prop := ∃ q c, v = .slice q l.length c ∧
 ∀ (i : Nat) (a : α), l[i]? = some a → ∃ (b o : Nat) (cs : List Value), q = some ⟨b, o, none⟩ ∧ X b ∧ (∀ j u, cs[j]? = some u → w.cell? ⟨b, o + i * K.size + j, none⟩ = some u) ∧ K.V X w cs a
theorem SlG.nil (K : Mem α) (X : Nat → Prop) (w : World) : SlG K X w (.slice none 0 0) [] := ⟨none, 0, rfl, fun i a h => by simp at h⟩
theorem SlG.move {K : Mem α} {X Y : Nat → Prop} {w w' : World} {v : Value} {l : List α} (hXY : ∀ b, X b → b < w.heap.size → Y b ∧ w'.heap[b]? = w.heap[b]?) (h : SlG K X w v l) : SlG K Y w' v l := by
 obtain ⟨q, c, h1, h2⟩ := h
 refine ⟨q, c, h1, fun i a ha => ?_⟩
 obtain ⟨b, o, cs, e, hX, hc, hV⟩ := h2 i a ha
 have hlen := K.len hV
 have hlt : b < w.heap.size := block_lt_of_cell (hc 0 (cs[0]'(by have := K.pos; omega)) (List.getElem?_eq_getElem _))
 refine ⟨b, o, cs, e, (hXY b hX hlt).1, fun j u hu => ?_, K.move hXY hV⟩
 rw [← hc j u hu]
 exact World.cell?_of_block (a := ⟨b, o + i * K.size + j, none⟩) (hXY b hX hlt).2
def RowG (K : Mem α) (base : Nat) (w : World) (sv : Value) (l : List α) : Prop :=
 ∃ cl : List (List Value), cl.length = l.length ∧ w.ownsRow base K.e K.size sv l.length cl.flatten ∧
  ∀ (i : Nat) (a : α), l[i]? = some a → ∃ cs : List Value, cl[i]? = some cs ∧ K.V (fun b => base ≤ b ∧ some b ≠ sv.ownBlock) w cs a
theorem RowG.nil (K : Mem α) (base : Nat) (w : World) : RowG K base w (.slice none 0 0) [] := ⟨[], rfl, World.ownsRow_nil _ _ _ _, fun i a h => by simp at h⟩
theorem RowG.shape {K : Mem α} {base : Nat} {w : World} {sv : Value} {l : List α} (h : RowG K base w sv l) : ∃ q c, sv = .slice q l.length c := by
 obtain ⟨cl, hl, ho, _⟩ := h
 rcases ho.2 with ⟨rfl, h0⟩ | ⟨g, cap, cur, rfl, _⟩
 · exact ⟨none, 0, by rw [h0]⟩
 · exact ⟨_, _, rfl⟩
theorem RowG.lt {K : Mem α} {base : Nat} {w : World} {sv : Value} {l : List α} (h : RowG K base w sv l) : ∀ g, sv.ownBlock = some g → base ≤ g ∧ g < w.heap.size := by
 obtain ⟨cl, hl, ho, _⟩ := h
 exact ho.lt
theorem RowG.move {K : Mem α} {base : Nat} {w w' : World} {sv : Value} {l : List α} (h : RowG K base w sv l) (hw : ∀ b, base ≤ b → b < w.heap.size → w'.heap[b]? = w.heap[b]?) : RowG K base w' sv l := by
 obtain ⟨cl, hl, ho, hd⟩ := h
 refine ⟨cl, hl, own_kept ho fun g x hg hx => ?_, fun i a ha => ?_⟩
 · have := ho.lt g hg
   rw [hw g this.1 this.2]; exact hx
 · obtain ⟨cs, h1, h2⟩ := hd i a ha
   exact ⟨cs, h1, K.move (fun b hX hb => ⟨hX, hw b hX.1 hb⟩) h2⟩
theorem flat_len {n : Nat} : ∀ (cl : List (List Value)), (∀ cs ∈ cl, cs.length = n) → cl.flatten.length = cl.length * n
 | [], _ => by simp
 | c :: cl, h => by
  have h1 := flat_len cl (fun cs hc => h cs (List.mem_cons_of_mem _ hc))
  have h2 := h c (List.mem_cons_self ..)
  rw [List.flatten_cons, List.length_append, h1, h2, List.length_cons, Nat.add_mul]; omega
theorem flat_at {n : Nat} : ∀ (cl : List (List Value)) (i j : Nat) (cs : List Value), (∀ cs ∈ cl, cs.length = n) → cl[i]? = some cs → j < n → cl.flatten[i * n + j]? = cs[j]?
 | [], i, j, cs, _, h, _ => by simp at h
 | c :: cl, 0, j, cs, hn, h, hj => by
  obtain rfl : c = cs := by simpa using h
  have := hn c (List.mem_cons_self ..)
  rw [List.flatten_cons, Nat.zero_mul, Nat.zero_add, List.getElem?_append_left (by omega)]
 | c :: cl, i + 1, j, cs, hn, h, hj => by
  have h2 := hn c (List.mem_cons_self ..)
  rw [List.flatten_cons, List.getElem?_append_right (by rw [h2, Nat.add_mul]; omega), h2]
  have e : (i + 1) * n + j - n = i * n + j := by rw [Nat.add_mul]; omega
  rw [e]
  exact flat_at cl i j cs (fun cs hc => hn cs (List.mem_cons_of_mem _ hc)) (by simpa using h) hj
theorem RowG.all {K : Mem α} {base : Nat} {w w' : World} {sv : Value} {l : List α} (h : RowG K base w sv l) (hw : ∀ b, base ≤ b → b < w.heap.size → w'.heap[b]? = w.heap[b]?) : SlG K (fun b => base ≤ b) w' sv l := by
 obtain ⟨cl, hl, ⟨hfl, ⟨rfl, h0⟩ | ⟨g, cap, cur, rfl, hbg, hh, hnc, _, hcs, htk⟩⟩, hd⟩ := h
 · have : l = [] := List.eq_nil_of_length_eq_zero (by omega)
   subst this
   exact SlG.nil _ _ _
 · refine ⟨some ⟨g, 0, none⟩, cap, rfl, fun i a ha => ?_⟩
   obtain ⟨cs, h1, h2⟩ := hd i a ha
   have hall : ∀ cs ∈ cl, cs.length = K.size := by
    intro cs hc
    obtain ⟨j, hj⟩ := List.getElem?_of_mem hc
    have hjl := (List.getElem?_eq_some_iff.1 hj).1
    obtain ⟨cs', e1, e2⟩ := hd j (l[j]'(by omega)) (List.getElem?_eq_getElem _)
    rw [hj] at e1
    cases e1
    exact K.len e2
   have hi := (List.getElem?_eq_some_iff.1 ha).1
   have hg := hb_lt hh
   refine ⟨g, 0, cs, rfl, hbg, fun j u hu => ?_, K.move (fun b hX hb => ⟨hX.1, hw b hX.1 hb⟩) h2⟩
   have hj : j < K.size := by rw [← K.len h2]; exact (List.getElem?_eq_some_iff.1 hu).1
   have hh2 : w'.heap[g]? = some (.cells cur K.e (0, 0)) := by rw [hw g hbg hg, hh]
   have hlt : i * K.size + j < l.length * K.size := by
    have : (i + 1) * K.size ≤ l.length * K.size := Nat.mul_le_mul_right _ hi
    rw [Nat.add_mul] at this; omega
   rw [hb_cell hh2, Nat.zero_add, ← Array.getElem?_toList]
   have e1 : cl.flatten[i * K.size + j]? = some u := by rw [flat_at cl i j cs hall h1 hj]; exact hu
   rw [← htk, List.getElem?_take, if_pos hlt] at e1
   exact e1
theorem RowG.one {K : Mem α} {base : Nat} {w : World} {cs : List Value} {a : α} (hV : K.V (fun b => base ≤ b) w cs a) (hb : base ≤ w.heap.size) (n : Nat) (hn : n = w.heap.size) : RowG K base (w.alloc (.cells cs.toArray K.e)) (.slice (some ⟨n, 0, none⟩) 1 1) [a] := by
 subst hn
 refine ⟨[cs], rfl, ⟨by simp [K.len hV], .inr ⟨_, 1, cs.toArray, rfl, hb, heap_alloc_new w _, Nat.le_refl _, by decide, by simp [K.len hV], by simp [K.len hV]; rw [← K.len hV, List.take_length]⟩⟩, fun i x hx => ?_⟩
 match i, hx with
 | 0, hx =>
  obtain rfl : a = x := by simpa using hx
  exact ⟨cs, rfl, K.move (fun b hX hlt => ⟨⟨hX, fun e => by simp [Value.ownBlock] at e; omega⟩, by rw [Below.heap_alloc w _ b hlt]⟩) hV⟩
 | i + 1, hx => simp at hx
theorem RowG.append {K : Mem α} {base : Nat} {w wq : World} {sv : Value} {l ms : List α} (h : RowG K base w sv l) (hbase : base ≤ w.heap.size) (hsz : w.heap.size ≤ wq.heap.size) (hw : ∀ b, base ≤ b → b < w.heap.size → wq.heap[b]? = w.heap[b]?)
 {g o cc : Nat} (hm : ∀ i a, ms[i]? = some a → ∃ cs, (∀ j u, cs[j]? = some u → wq.cell? ⟨g, o + i * K.size + j, none⟩ = some u) ∧ K.V (fun b => w.heap.size ≤ b) wq cs a) (hn : l.length ≤ 100000) (hn2 : ms.length ≤ 100000) :
 ∃ v' w', (Builtin.append_ #[K.t, K.t] K.t #[sv, .slice (some ⟨g, o, none⟩) ms.length cc]).run Tryz.prog wq = .ok v' w' ∧ RowG K base w' v' (l ++ ms) ∧ wq.grownBy w' sv.ownBlock ∧ (∀ k, sv.ownBlock = some k → base ≤ k) := by
 have h' := h.move hw
 obtain ⟨cl, hl, ho, hd⟩ := h'
 obtain ⟨z, hz, hzc⟩ := K.inf
 obtain ⟨i0, hi, hz0, hz1, hz2⟩ := info_parts hz
 obtain ⟨ml, hml, hmp⟩ := pick_list (P := fun i cs => ∀ a, ms[i]? = some a → (∀ j u, cs[j]? = some u → wq.cell? ⟨g, o + i * K.size + j, none⟩ = some u) ∧ K.V (fun b => w.heap.size ≤ b) wq cs a) ms.length (fun i hi => by
  obtain ⟨cs, h1, h2⟩ := hm i (ms[i]) (List.getElem?_eq_getElem hi)
  exact ⟨cs, fun a ha => by rw [List.getElem?_eq_getElem hi] at ha; cases ha; exact ⟨h1, h2⟩⟩)
 have hpick : ∀ i a, ms[i]? = some a → ∃ cs, ml[i]? = some cs ∧ (∀ j u, cs[j]? = some u → wq.cell? ⟨g, o + i * K.size + j, none⟩ = some u) ∧ K.V (fun b => w.heap.size ≤ b) wq cs a := by
  intro i a ha
  have hi := (List.getElem?_eq_some_iff.1 ha).1
  have h1 : ml[i]? = some (ml[i]'(by omega)) := List.getElem?_eq_getElem _
  exact ⟨_, h1, hmp i _ h1 a ha⟩
 have hall : ∀ cs ∈ ml, cs.length = K.size := by
  intro cs hc
  obtain ⟨j, hj⟩ := List.getElem?_of_mem hc
  have hjl := (List.getElem?_eq_some_iff.1 hj).1
  obtain ⟨cs', e1, _, e2⟩ := hpick j (ms[j]'(by omega)) (List.getElem?_eq_getElem _)
  rw [hj] at e1
  cases e1
  exact K.len e2
 have hfew := K.few
 have hlt := ho.lt
 obtain ⟨v', w', h1, h2, h3, _, h5⟩ := run_append_own_at (P := Tryz.prog) wq base K.t K.t K.e i0 z K.size K.bytes K.und hi hz0 hz1 hz2 hzc K.pos sv l.length cl.flatten ho ⟨g, o, none⟩ ms.length cc ml.flatten (by rw [flat_len ml hall, hml])
  (fun j u hu => by
   have hj := (List.getElem?_eq_some_iff.1 hu).1
   rw [flat_len ml hall, hml] at hj
   have hdiv : j / K.size < ms.length := Nat.div_lt_of_lt_mul (by rw [Nat.mul_comm]; exact hj)
   have hmod : j % K.size < K.size := Nat.mod_lt _ K.pos
   have hjj : j / K.size * K.size + j % K.size = j := by rw [Nat.mul_comm]; exact Nat.div_add_mod j K.size
   obtain ⟨cs, e1, e2, e3⟩ := hpick (j / K.size) (ms[j / K.size]) (List.getElem?_eq_getElem hdiv)
   have e4 := flat_at ml (j / K.size) (j % K.size) cs hall e1 hmod
   rw [hjj, hu] at e4
   have e5 := e2 _ _ e4.symm
   rw [Addr.add_lit]
   rw [Nat.add_assoc, hjj] at e5
   exact e5)
  (fun u hu => by
   obtain ⟨cs, hc, hu2⟩ := List.mem_flatten.1 hu
   obtain ⟨j, hj⟩ := List.getElem?_of_mem hc
   have hjl := (List.getElem?_eq_some_iff.1 hj).1
   obtain ⟨cs', e1, _, e2⟩ := hpick j (ms[j]'(by omega)) (List.getElem?_eq_getElem _)
   rw [hj] at e1
   cases e1
   exact K.one e2 u hu2)
  Q66 (by have : (l.length + ms.length) * K.bytes ≤ 200000 * 1000 := Nat.mul_le_mul (by omega) hfew; omega) (by omega)
 refine ⟨v', w', h1, ⟨cl ++ ml, by simp [hl, hml], by rw [List.flatten_append, List.length_append]; exact h2, fun i a ha => ?_⟩, h3, fun k hk => (hlt k hk).1⟩
 rw [List.getElem?_append] at ha
 split at ha
 · rename_i hi
   obtain ⟨cs, e1, e2⟩ := hd i a ha
   refine ⟨cs, by rw [List.getElem?_append_left (by omega)]; exact e1, K.move (fun b hX hb => ⟨⟨hX.1, fun e => ?_⟩, by rw [h3.block b hb hX.2]⟩) e2⟩
   rcases h5 with h | h
   · exact hX.2 (e.trans h)
   · rw [h] at e; have := Option.some.inj e; omega
 · rename_i hi
   obtain ⟨cs, e1, _, e2⟩ := hpick (i - l.length) a ha
   have hne : ∀ b, w.heap.size ≤ b → some b ≠ sv.ownBlock := fun b hX e => by
    have := (h.lt b e.symm).2
    omega
   refine ⟨cs, by rw [List.getElem?_append_right (by omega), hl]; exact e1, K.move (fun b hX hb => ⟨⟨by omega, fun e => ?_⟩, by rw [h3.block b hb (hne b hX)]⟩) e2⟩
   rcases h5 with h | h
   · exact hne b hX (e.trans h)
   · rw [h] at e; have := Option.some.inj e; omega
end Go.Proofs.YtmkjalnlldpdcaaGreatDoor
namespace Go.Proofs.YtmkjalnlldpdcaaGreatDoor
open Go.RowKit
set_option linter.unusedSimpArgs false
set_option linter.unusedVariables false
abbrev rp (r : Nat) : Value := .pointer (some ⟨r, 0, none⟩)
def tokV (x : Tk × Nat) : Value := x.1.v (x.2 : Nat)
theorem Rd.cons {r E : Nat} {w : World} {t : Tk × Nat} {ts : Ts} (h : Rd r E w (t :: ts)) : ∃ b o c, w.heap[r]? = some (.cells #[.slice (some ⟨b, o, none⟩) (ts.length + 1) c, .int .i64 (E : Nat)] 149 (0, 0)) ∧ ts.length + 1 ≤ c ∧ c ≤ maxLen ∧ b < r ∧ TokAt w b o t ∧ t.1.s.size ≤ 4194304 ∧
 ∀ w' q' c', Rg r w w' → w'.heap[r]? = w.heap[r]? → (ts = [] ∨ q' = some ⟨b, o + 4, none⟩) → ts.length ≤ c' → c' ≤ maxLen → Rd r E (w'.setCell ⟨r, 0, none⟩ (.slice q' ts.length c')) ts := by
 obtain ⟨hE, v, hr, q, c, rfl, hlc, hcm, hl6, hts⟩ := h
 obtain ⟨hz, b, o, rfl, hbr, ht⟩ := hts 0 t rfl
 rw [Nat.zero_mul, Nat.add_zero] at ht
 rw [List.length_cons] at hlc hl6
 refine ⟨b, o, c, hr, hlc, hcm, hbr, ht, hz, fun w' q' c' hg hs hq hc1 hc2 => ⟨hE, .slice q' ts.length c', ?_, ⟨_, _, rfl, by omega, by omega, by omega, fun i x hx => ?_⟩⟩⟩
 · rw [hr] at hs
   exact hb_set_same hs 0 _
 · obtain ⟨hz2, b2, o2, e, hb2, ht2⟩ := hts (i + 1) x hx
   cases e
   rcases hq with rfl | rfl
   · simp at hx
   refine ⟨hz2, b, o + 4, rfl, hbr, ?_⟩
   have e2 : o + (i + 1) * 4 = o + 4 + i * 4 := by omega
   rw [e2] at ht2
   exact ht2.move ((hg.set 0 _).same ht2.lt (by omega))
theorem next_any (r E : Nat) (ts : Ts) (w : World) (hR : Rd r E w ts) : Calls Tryz.prog 173 #[rp r] w fun e w' => e = .returned (tokV (nx E ts)) ∧ Below w.heap.size w w' := by
 have hrl := hR.lt
 unfold tokV
 cases ts with
 | nil =>
  obtain ⟨hE, v, hr, q, c, rfl, hlc, hcm, hl6, hts⟩ := hR
  have x0 := hb_at hr 0 rfl
  have x1 := hb_at hr 1 rfl
  clear hr hts
  go_enter Tryz.func173, Tryz.ntmps173
  go_wp2
  exact bodyPost_ret (v := .agg #[.int .i64 0, .string ⟨#[]⟩, .int .i64 0, .int .i64 (E : Nat)]) (by simp [results, Tryz.results173, go_sem]) rfl ⟨rfl, below_alloc _ _⟩
 | cons t ts =>
  obtain ⟨b, o, c, hr, hlc, hcm, hbr, ⟨ht0, ht1, ht2, ht3⟩, _, _⟩ := hR.cons
  have x0 := hb_at hr 0 rfl
  have x1 := hb_at hr 1 rfl
  have hbl := block_lt_of_cell ht0
  obtain ⟨⟨tk, tz, tn⟩, ta⟩ := t
  clear hr
  go_enter Tryz.func173, Tryz.ntmps173
  go_wp2
  exact bodyPost_ret (v := .agg #[.int .i64 tk, .string tz, .int .i64 tn, .int .i64 (ta : Nat)]) (by simp [results, Tryz.results173, go_sem]) rfl ⟨rfl, below_alloc _ _⟩
theorem fld0 (k n a : Int) (s : ByteArray) (w : World) : (Instr.field 159 (.agg #[.int .i64 k, .string s, .int .i64 n, .int .i64 a]) 0).run Tryz.prog w = .ok (.int .i64 k) w := by kernel_rfl
theorem fld3 (k n a : Int) (s : ByteArray) (w : World) : (Instr.field 159 (.agg #[.int .i64 k, .string s, .int .i64 n, .int .i64 a]) 3).run Tryz.prog w = .ok (.int .i64 a) w := by kernel_rfl
theorem fault_any (r E : Nat) (e : Int) (ts : Ts) (w : World) (hR : Rd r E w ts) : Calls Tryz.prog 123 #[rp r, .int .i64 e] w fun e' w' => e' = .returned (.agg #[.int .i64 ((nx E ts).2 : Nat), .int .i64 e]) ∧ Below w.heap.size w w' := by
 have HN := Hd (fun W hW => next_any r E ts W hW)
 have HR := Hd hR
 clear hR
 generalize nx E ts = T at *
 obtain ⟨⟨tk, tz, tn⟩, ta⟩ := T
 have HN2 : RowKit.Hid (∀ W, Rd r E W ts → Calls Tryz.prog 173 #[rp r] W fun e w' => e = .returned (.agg #[.int .i64 tk, .string tz, .int .i64 tn, .int .i64 (ta : Nat)]) ∧ Below W.heap.size W w') := HN
 clear HN
 have hf := fld3 tk tn ta tz
 go_enter Tryz.func123, Tryz.ntmps123
 go_wp2_with (go_at_call 173; (with_reducible refine (HN2.out _ (HR.out.alloc _)).mono ?_); rintro e w1 ⟨rfl, hb⟩; have k1 := hb_below (hb_new _ _) hb (hb_lt (hb_new _ _)); obtain ⟨k2, k3, k4, k5⟩ := box2 k1; have K1 := Hd k1; have HB := Hd hb; clear hb k1)
 have hB : Below w.heap.size w w1 := (below_alloc w _).trans (HB.out.mono (by simp))
 exact bodyPost_ret (v := .agg #[.int .i64 (ta : Nat), .int .i64 e]) (res_fault rfl rfl (hb_set_same (hb_set_same K1.out 0 _) 1 _)) rfl ⟨rfl, (hB.setCell (Nat.le_refl _) _).setCell (Nat.le_refl _) _⟩
theorem fault_at (r E : Nat) (e : Nat) (ts : Ts) (w : World) (hR : Rd r E w ts) (i : Int) (hi : i = (e : Nat)) : Calls Tryz.prog 123 #[rp r, .int .i64 i] w fun e' w' => e' = .returned (.agg #[.int .i64 ((nx E ts).2 : Nat), .int .i64 (e : Nat)]) ∧ Below w.heap.size w w' := by
 subst hi
 exact fault_any r E e ts w hR
theorem take_any (r E : Nat) (k : Int) (ts : Ts) (hk : k ≠ 0) (w : World) (hR : Rd r E w ts) : Calls Tryz.prog 180 #[rp r, .int .i64 k] w (Got r E (fun _ _ v s => v = .string s) w (takeP E k ts)) := by
 have HN := Hd (fun W hW => next_any r E ts W hW)
 have HF := Hd (fun W hW => fault_at r E 10 ts W hW 10 rfl)
 have HR := Hd hR
 have hnx : (nx E ts).1 = (nx 0 ts).1 := by cases ts <;> rfl
 unfold tokV at HN
 by_cases hK : kd ts = k
 · cases ts with
   | nil => exact absurd hK.symm hk
   | cons t ts =>
    obtain ⟨⟨tk, tz, tn⟩, ta⟩ := t
    obtain rfl : tk = k := hK
    have hP : takeP E tk ((⟨tk, tz, tn⟩, ta) :: ts) = .ok (tz, ts) := if_pos rfl
    rw [hP]
    have HN2 : RowKit.Hid (∀ W, Rd r E W ((⟨tk, tz, tn⟩, ta) :: ts) → Calls Tryz.prog 173 #[rp r] W fun e w' => e = .returned (.agg #[.int .i64 tk, .string tz, .int .i64 tn, .int .i64 (ta : Nat)]) ∧ Below W.heap.size W w') := HN
    obtain ⟨b, o, c, hr, hlc, hcm, hbr, htok, hz, hnext⟩ := hR.cons
    have hrl := hR.lt
    have HX := Hd hnext
    have HK := Hd hr
    clear hR HN hnext hr htok hnx hP
    go_enter Tryz.func180, Tryz.ntmps180
    go_wp2_with (go_at_call 173; (with_reducible refine (HN2.out _ HR.out).mono ?_); rintro e w1 ⟨rfl, hb⟩; have k1 := hb_below HK.out hb hrl; obtain ⟨k2, k3, k4, k5⟩ := box2 k1; have hrl1 := hb_lt k1; have HB := Hd hb; clear hb k1)
    all_goals
     have hs1 : w1.heap[r]? = w.heap[r]? := HB.out.block r hrl
     have hg1 : Rg r w w1 := Rg.of_below HB.out
     refine bodyPost_ret (v := .string tz) (by simp [results, Tryz.results180, go_sem]) rfl ⟨(hg1.set 0 _).alloc _, ⟨_, rfl, rfl⟩, (HX.out w1 _ _ hg1 hs1 ?_ ?_ ?_).alloc _⟩
     · first
        | exact .inr rfl
        | exact .inl (List.eq_nil_of_length_eq_zero (by omega))
     · show ts.length ≤ _
       omega
     · omega
 · have hP : takeP E k ts = .error ((nx E ts).2, 10) := if_neg hK
   rw [hP]
   have hK2 : (nx E ts).1.k ≠ k := by rw [hnx]; exact hK
   generalize nx E ts = T at *
   obtain ⟨⟨tk, tz, tn⟩, ta⟩ := T
   have HN2 : RowKit.Hid (∀ W, Rd r E W ts → Calls Tryz.prog 173 #[rp r] W fun e w' => e = .returned (.agg #[.int .i64 tk, .string tz, .int .i64 tn, .int .i64 (ta : Nat)]) ∧ Below W.heap.size W w') := HN
   have HF2 : RowKit.Hid (∀ W, Rd r E W ts → Calls Tryz.prog 123 #[rp r, .int .i64 10] W fun e w' => e = .returned (.agg #[.int .i64 (ta : Nat), .int .i64 10]) ∧ Below W.heap.size W w') := HF
   have hne : (tk != k) = true := by simpa using hK2
   clear hR HN HF hP hK hK2 hnx
   go_enter Tryz.func180, Tryz.ntmps180
   go_wp2_with (first
    | (go_at_call 173; (with_reducible refine (HN2.out _ HR.out).mono ?_); rintro e w1 ⟨rfl, hb⟩; have HB := Hd hb; have HR1 := Hd (HR.out.below hb); clear hb)
    | (go_at_call 123; (with_reducible refine (HF2.out _ (by exact HR1.out.alloc _)).mono ?_); rintro e w2 ⟨rfl, hb⟩; have HB2 := Hd hb; clear hb))
   exact ⟨rfl, ((Rg.of_below HB.out).alloc _).trans (Rg.of_below HB2.out), rfl⟩
theorem is_any (r E : Nat) (k : Int) (x : ByteArray) (ts : Ts) (w : World) (hR : Rd r E w ts) : Calls Tryz.prog 191 #[rp r, .int .i64 k, .string x] w fun e w' => e = .returned (.bool (isB k x ts)) ∧ Below w.heap.size w w' := by
 have HN := Hd (fun W hW => next_any r E ts W hW)
 have HR := Hd hR
 have hnx : (nx E ts).1 = (nx 0 ts).1 := by cases ts <;> rfl
 unfold tokV at HN
 unfold isB kd tx
 rw [← hnx]
 generalize nx E ts = T at *
 obtain ⟨⟨tk, tz, tn⟩, ta⟩ := T
 have HN2 : RowKit.Hid (∀ W, Rd r E W ts → Calls Tryz.prog 173 #[rp r] W fun e w' => e = .returned (.agg #[.int .i64 tk, .string tz, .int .i64 tn, .int .i64 (ta : Nat)]) ∧ Below W.heap.size W w') := HN
 clear hR HN hnx
 by_cases h1 : tk = k
 · by_cases h2 : tz = x
   · subst h1 h2
     have hd : (decide (tk = tk) && decide (tz = tz)) = true := by simp
     show Calls _ _ _ _ fun e w' => e = .returned (.bool (decide (tk = tk) && decide (tz = tz))) ∧ _
     rw [hd]
     clear hd
     go_enter Tryz.func191, Tryz.ntmps191
     go_wp2_with (go_at_call 173; (with_reducible refine (HN2.out _ HR.out).mono ?_); rintro e w1 ⟨rfl, hb⟩; have HB := Hd hb; clear hb)
     go_ret
     exact ⟨rfl, HB.out.alloc HB.out.size _⟩
   · have h2' : ¬ tz.toList = x.toList := fun h => h2 (by rw [ByteArray.toList_eq, ByteArray.toList_eq] at h; cases tz; cases x; simpa using h)
     have h2b : (tz.toList == x.toList) = false := by simpa using h2'
     subst h1
     have hd : (decide (tk = tk) && decide (tz = x)) = false := by simp [h2]
     show Calls _ _ _ _ fun e w' => e = .returned (.bool (decide (tk = tk) && decide (tz = x))) ∧ _
     rw [hd]
     clear hd h2 h2'
     go_enter Tryz.func191, Tryz.ntmps191
     go_wp2_with (go_at_call 173; (with_reducible refine (HN2.out _ HR.out).mono ?_); rintro e w1 ⟨rfl, hb⟩; have HB := Hd hb; clear hb)
     go_ret
     exact ⟨rfl, HB.out.alloc HB.out.size _⟩
 · have h1b : (tk == k) = false := by simpa using h1
   have hd : (decide (tk = k) && decide (tz = x)) = false := by simp [h1]
   show Calls _ _ _ _ fun e w' => e = .returned (.bool (decide (tk = k) && decide (tz = x))) ∧ _
   rw [hd]
   clear hd
   go_enter Tryz.func191, Tryz.ntmps191
   go_wp2_with (go_at_call 173; (with_reducible refine (HN2.out _ HR.out).mono ?_); rintro e w1 ⟨rfl, hb⟩; have HB := Hd hb; clear hb)
   go_ret
   exact ⟨rfl, HB.out.alloc HB.out.size _⟩
end Go.Proofs.YtmkjalnlldpdcaaGreatDoor
