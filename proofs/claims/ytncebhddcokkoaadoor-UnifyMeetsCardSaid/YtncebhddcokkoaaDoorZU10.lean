/- Texts in a row: U8 Va Vo. -/
import Derived.Test.YtncebhddcokkoaaDoorZU9
import Derived.Test.YtncebhddcokkoaaDoorZU5
import Derived.Test.YtncebhddcokkoaaDoorZU8
/- Types put in the place of variables, whole. -/
namespace Go.Proofs.YtncebhddcokkoaaDoor
open Go.RowKit
/-- Where each text first stands among the first. -/
def fg (names : List ByteArray) : Nat → ByteArray → Option Int
  | 0, _ => none
  | k + 1, t => match fg names k t with
    | some i => some i
    | none => if names[k]? = some t then some (k : Int) else none
structure SubSt (w wr : World) (k : Int) (p n : ByteArray) (N : Int) (q : Option Addr) (ln c : Nat) (qb : Option Addr) (lb cb : Nat) (m : Nat) (g : ByteArray → Option Int) : Prop where
  t : wr.heap[w.heap.size]? = some (.cells #[.int .i64 k, .string p, .string n, .int .i64 N, .slice q ln c] 36 (0, 0))
  y : wr.heap[w.heap.size + 1]? = some (.cells #[.slice qb lb cb] 34 (0, 0))
  r : wr.heap[w.heap.size + 1 + 1]? = some (.cells #[.int .i64 0, .string ⟨#[]⟩, .string ⟨#[]⟩, .int .i64 0, .slice none 0 0] 36 (0, 0))
  f : wr.heap[w.heap.size + 1 + 1 + 1 + 1]? = some (.cells #[.map (some (w.heap.size + 1 + 1 + 1))] 83 (0, 0))
  m : PMap wr (w.heap.size + 1 + 1 + 1) m g
  b : Below w.heap.size w wr
theorem SubSt.turned {w wr w' : World} {k : Int} {p n : ByteArray} {N : Int} {q : Option Addr} {ln c : Nat} {qb : Option Addr} {lb cb : Nat} {m m' : Nat} {g g' : ByteArray → Option Int} (h : SubSt w wr k p n N q ln c qb lb cb m g) (ht : wr.mapTurned w' (w.heap.size + 1 + 1 + 1)) (hp : PMap w' (w.heap.size + 1 + 1 + 1) m' g') : SubSt w w' k p n N q ln c qb lb cb m' g' :=
  ⟨hb_grown h.t ht.grown (by simp; omega), hb_grown h.y ht.grown (by simp), hb_grown h.r ht.grown (by simp), hb_grown h.f ht.grown (by simp), hp, turned_below h.b (Nat.le_refl _) ht (by omega)⟩
end Go.Proofs.YtncebhddcokkoaaDoor
/- Lists of terms that are made out of terms that were there, and new ones. -/
namespace Go.Proofs.YtncebhddcokkoaaDoor
open Go.RowKit
theorem IsT.isX {w : World} {d : Nat} : ∀ {v : Value} {x : Tm}, IsT w d v x → IsX (fun b => b < w.heap.size) w d v x := by
  induction d with
  | zero => intro v x h; cases h
  | succ d ih =>
    intro v x h
    obtain ⟨k, p, n, N, kids⟩ := x
    obtain ⟨q, c, h1, h2, h3, h4, h5⟩ := h
    refine ⟨q, c, h1, h2, h3, h4, fun i y hy => ?_⟩
    obtain ⟨b, o, k', p', n', N', s', e, ha, ht⟩ := h5 i y hy
    exact ⟨b, o, k', p', n', N', s', e, ha.lt, ha, ih ht⟩
theorem TAt.of_blk {w : World} {g j : Nat} {cs : Array Value} {k : Int} {p n : ByteArray} {N : Int} {s : Value} (h : w.heap[g]? = some (.cells cs 36 (0, 0)))
    (h0 : cs[j]? = some (.int .i64 k)) (h1 : cs[j + 1]? = some (.string p)) (h2 : cs[j + 2]? = some (.string n)) (h3 : cs[j + 3]? = some (.int .i64 N)) (h4 : cs[j + 4]? = some s) : TAt w g j k p n N s :=
  ⟨hb_at h _ h0, hb_at h _ h1, hb_at h _ h2, hb_at h _ h3, hb_at h _ h4⟩
theorem SRow.nil (w : World) : SRow w (.slice none 0 0) [] := ⟨none, 0, rfl, fun i s h => by simp at h⟩
theorem SRow.two {w : World} {g : Nat} {x y : ByteArray} (h : w.heap[g]? = some (.cells #[.string x, .string y] 9 (0, 0))) : SRow w (.slice (some ⟨g, 0, none⟩) 2 2) [x, y] := by
  refine ⟨_, 2, rfl, fun i z hz => ⟨g, rfl, ?_⟩⟩
  match i, hz with
  | 0, hz => cases hz; exact hb_at h 0 rfl
  | 1, hz => cases hz; exact hb_at h 1 rfl
  | i + 2, hz => simp at hz
/-- What a list of terms that is being made holds, the terms out of old blocks and new ones. -/
def MadeB (B0 base : Nat) (w : World) (d : Nat) (sv : Value) (done : List Tm) : Prop :=
  ∃ l : List T5, l.length = done.length ∧ w.ownsRow base 36 5 sv l.length (flatC l) ∧ ∀ (i : Nat) (x : Tm), done[i]? = some x → ∃ t : T5, l[i]? = some t ∧ IsX (fun b => (b < B0 ∨ base ≤ b) ∧ some b ≠ sv.ownBlock) w d (t5v t) x
theorem MadeB.nil (B0 base : Nat) (w : World) (d : Nat) : MadeB B0 base w d (.slice none 0 0) [] := ⟨[], rfl, World.ownsRow_nil _ _ _ _, fun i x h => by simp at h⟩
theorem MadeB.shape {B0 base : Nat} {w : World} {d : Nat} {sv : Value} {done : List Tm} (h : MadeB B0 base w d sv done) : ∃ q c, sv = .slice q done.length c := by
  obtain ⟨l, hl, ho, _⟩ := h
  rcases ho.2 with ⟨rfl, h0⟩ | ⟨g, cap, cur, rfl, _⟩
  · exact ⟨none, 0, by rw [← hl, h0]⟩
  · exact ⟨_, _, by rw [hl]⟩
theorem MadeB.move {B0 base : Nat} {w w' : World} {d : Nat} {sv : Value} {done : List Tm} (h : MadeB B0 base w d sv done) (hw : ∀ b, (b < B0 ∨ base ≤ b) → b < w.heap.size → w'.heap[b]? = w.heap[b]?) : MadeB B0 base w' d sv done := by
  obtain ⟨l, hl, ho, hd⟩ := h
  refine ⟨l, hl, own_kept ho fun g x hg hx => ?_, fun i x hx => ?_⟩
  · have := ho.lt g hg
    rw [hw g (.inr this.1) this.2]; exact hx
  · obtain ⟨t, h1, h2⟩ := hd i x hx
    exact ⟨t, h1, h2.move fun b hX hb => ⟨hX, hw b hX.1 hb⟩⟩
theorem MadeB.append {B0 base : Nat} {w wq : World} {d : Nat} {sv : Value} {done : List Tm} {x : Tm} {g : Nat} {k N : Int} {p n : ByteArray} {q : Option Addr} {ln c : Nat} (h : MadeB B0 base w d sv done) (hB : B0 ≤ base) (hbase : base ≤ w.heap.size) (hb : Below w.heap.size w wq)
    (hx : IsX (fun b => b < B0 ∨ w.heap.size ≤ b) wq d (tv k p n N (.slice q ln c)) x) (hg : wq.heap[g]? = some (.cells #[.int .i64 k, .string p, .string n, .int .i64 N, .slice q ln c] 36 (0, 0))) (cc : Nat) (hn : done.length ≤ 100000) :
    ∃ v' w', (Builtin.append_ #[34, 34] 34 #[sv, .slice (some ⟨g, 0, none⟩) 1 cc]).run Tryd.prog wq = .ok v' w' ∧ MadeB B0 base w' d v' (done ++ [x]) ∧ Below base wq w' := by
  obtain ⟨l, hl, ho, hd⟩ := h
  have hlt := ho.lt
  have hsz := hb.size
  obtain ⟨v', w', hr, h2, hgr, hblk⟩ := append_t wq base sv l (own_below ho hb) g 0 (TAt.of_blk hg rfl rfl rfl rfl rfl) cc (by omega) (by omega)
  refine ⟨v', w', hr, ⟨l ++ [(k, p, n, N, Value.slice q ln c)], by simp [hl], h2, fun i y hy => ?_⟩, (Below.refl _ wq).grown hgr (by omega) (fun j hj => (hlt j hj).1)⟩
  rw [List.getElem?_append] at hy
  split at hy
  · rename_i hi
    obtain ⟨t, h3, h4⟩ := hd i y hy
    refine ⟨t, by rw [List.getElem?_append_left (by omega)]; exact h3, ?_⟩
    refine h4.move fun b hX hl2 => ⟨⟨hX.1, fun e => ?_⟩, by rw [hgr.block b (by omega) hX.2, hb.block b hl2]⟩
    rcases hblk with h | h
    · exact hX.2 (e.trans h)
    · rw [h] at e; have := Option.some.inj e; omega
  · rename_i hi
    have hi2 : i - done.length = 0 := by
      have := (List.getElem?_eq_some_iff.1 hy).1
      simp at this
      omega
    rw [hi2] at hy
    obtain rfl : x = y := by simpa using hy
    have hil : i = l.length := by omega
    refine ⟨_, by rw [hil]; exact List.getElem?_concat_length, ?_⟩
    have hne : ∀ b, (b < B0 ∨ w.heap.size ≤ b) → some b ≠ sv.ownBlock := fun b hX e => by have := hlt b e.symm; omega
    refine hx.move fun b hX hl2 => ⟨⟨by omega, fun e => ?_⟩, by rw [hgr.block b hl2 (hne b hX)]⟩
    rcases hblk with h | h
    · exact hne b hX (e.trans h)
    · rw [h] at e; have := Option.some.inj e; omega
theorem MadeB.all {B0 base : Nat} {w w' : World} {d : Nat} {sv : Value} {kids : List Tm} (h : MadeB B0 base w d sv kids) (hk : kids.length ≤ maxLen) (hw : ∀ b, (b < B0 ∨ base ≤ b) → w'.heap[b]? = w.heap[b]?) : KidsX (fun b => b < B0 ∨ base ≤ b) w' d sv kids := by
  obtain ⟨l, hl, ho, hd⟩ := h
  obtain ⟨hfl, ⟨rfl, h0⟩ | ⟨g, cap, cur, rfl, hbg, hh, _, _, _, htk⟩⟩ := ho
  · have : kids = [] := List.eq_nil_of_length_eq_zero (by omega)
    subst this
    exact ⟨none, 0, rfl, hk, fun i x h => by simp at h⟩
  · refine ⟨some ⟨g, 0, none⟩, cap, by rw [hl], hk, fun i x hx => ?_⟩
    obtain ⟨t, h1, h2⟩ := hd i x hx
    have hi : i < l.length := (List.getElem?_eq_some_iff.1 h1).1
    have hcell : ∀ j (hj : j < 5), w'.cell? ⟨g, 0 + i * 5 + j, none⟩ = (flatC l)[i * 5 + j]? := fun j hj => by
      have h3 : w'.cell? ⟨g, 0 + i * 5 + j, none⟩ = cur[0 + i * 5 + j]? := by
        have hh2 : w'.heap[g]? = some (.cells cur 36 (0, 0)) := by rw [hw g (.inr hbg), hh]
        exact hb_cell hh2 _
      rw [h3, ← htk, List.getElem?_take, if_pos (by omega), Array.getElem?_toList, Nat.zero_add]
    have hflat : ∀ j (hj : j < 5), (flatC l)[i * 5 + j]? = [Value.int .i64 t.1, .string t.2.1, .string t.2.2.1, .int .i64 t.2.2.2.1, t.2.2.2.2][j]? := fun j hj => by
      have e : l = l.take i ++ t :: l.drop (i + 1) := by
        have h4 := List.getElem?_eq_some_iff.1 h1
        rw [← h4.2, ← List.drop_eq_getElem_cons hi, List.take_append_drop]
      have e2 : flatC l = flatC (l.take i) ++ ([Value.int .i64 t.1, .string t.2.1, .string t.2.2.1, .int .i64 t.2.2.2.1, t.2.2.2.2] ++ flatC (l.drop (i + 1))) := by
        conv => lhs; rw [e]
        simp [flatC]
      have hlen : (flatC (l.take i)).length = i * 5 := by rw [flatC_length, List.length_take, Nat.min_eq_left (by omega)]
      rw [e2, List.getElem?_append_right (by omega), hlen, Nat.add_sub_cancel_left, List.getElem?_append_left (by simpa using hj)]
    refine ⟨g, 0, t.1, t.2.1, t.2.2.1, t.2.2.2.1, t.2.2.2.2, rfl, .inr hbg, ⟨?_, ?_, ?_, ?_, ?_⟩, h2.move fun b hX _ => ⟨hX.1, hw b hX.1⟩⟩
    · have := hcell 0 (by decide); rw [hflat 0 (by decide)] at this; exact this
    · have := hcell 1 (by decide); rw [hflat 1 (by decide)] at this; exact this
    · have := hcell 2 (by decide); rw [hflat 2 (by decide)] at this; exact this
    · have := hcell 3 (by decide); rw [hflat 3 (by decide)] at this; exact this
    · have := hcell 4 (by decide); rw [hflat 4 (by decide)] at this; exact this
end Go.Proofs.YtncebhddcokkoaaDoor
/- Slices of texts from any place of a block on. -/
namespace Go.Proofs.YtncebhddcokkoaaDoor
open Go.RowKit
def SRowO (w : World) (v : Value) (l : List ByteArray) : Prop := ∃ q c, v = .slice q l.length c ∧ ∀ i s, l[i]? = some s → ∃ g o, q = some ⟨g, o, none⟩ ∧ w.cell? ⟨g, o + i, none⟩ = some (.string s)
theorem SRowO.below {w w' : World} {v : Value} {l : List ByteArray} (h : SRowO w v l) (hb : Below w.heap.size w w') : SRowO w' v l := by
  obtain ⟨q, c, h1, h2⟩ := h
  refine ⟨q, c, h1, fun i s hs => ?_⟩
  obtain ⟨g, o, e, hc⟩ := h2 i s hs
  exact ⟨g, o, e, keep_cell hb hc⟩
theorem SRowO.nil (w : World) : SRowO w (.slice none 0 0) [] := ⟨none, 0, rfl, fun i s h => by simp at h⟩
end Go.Proofs.YtncebhddcokkoaaDoor
