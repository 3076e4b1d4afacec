/- clone, and withKids of it. -/
import Derived.Test.YthcpmdgdbceeiaaGreatDoorU2
import Derived.Deep.DeepCutAuto
import Derived.Outline
namespace Go.Proofs.YthcpmdgdbceeiaaGreatDoor
open Go.RowKit
abbrev T5 := Int × ByteArray × ByteArray × Int × Value
abbrev t5v (t : T5) : Value := tv t.1 t.2.1 t.2.2.1 t.2.2.2.1 t.2.2.2.2
/-- No list is too long for an append. -/
def Sm : Nat → Tm → Prop
  | 0, _ => True
  | d + 1, .mk _ _ _ _ kids => kids.length ≤ 100000 ∧ ∀ x ∈ kids, Sm d x
def KidsX (X : Nat → Prop) (w : World) (d : Nat) (s : Value) (kids : List Tm) : Prop := ∃ q c, s = .slice q kids.length c ∧ kids.length ≤ maxLen ∧
  ∀ i x, kids[i]? = some x → ∃ b o k' p' n' N' s', q = some ⟨b, o, none⟩ ∧ X b ∧ TAt w b (o + i * 5) k' p' n' N' s' ∧ IsX X w d (tv k' p' n' N' s') x
theorem IsX.shape {X : Nat → Prop} {w : World} {d : Nat} {v : Value} {x : Tm} (h : IsX X w d v x) : ∃ k p n N q ln c, v = tv k p n N (.slice q ln c) := by
  cases d with
  | zero => cases h
  | succ d =>
    obtain ⟨k, p, n, N, kids⟩ := x
    obtain ⟨q, c, h1, _⟩ := h
    exact ⟨k, p, n, N, q, _, c, h1⟩
/-- What a list of terms that is being made holds. -/
def Made (base : Nat) (w : World) (d : Nat) (sv : Value) (done : List Tm) : Prop :=
  ∃ l : List T5, l.length = done.length ∧ w.ownsRow base 24 5 sv l.length (flatC l) ∧ ∀ (i : Nat) (x : Tm), done[i]? = some x → ∃ t : T5, l[i]? = some t ∧ IsX (fun b => base ≤ b ∧ some b ≠ sv.ownBlock) w d (t5v t) x
theorem Made.nil (base : Nat) (w : World) (d : Nat) : Made base w d (.slice none 0 0) [] := ⟨[], rfl, World.ownsRow_nil _ _ _ _, fun i x h => by simp at h⟩
/-- One more term: it was made behind w (in new blocks), and appended. -/
theorem Made.next {base : Nat} {w w3 w4 : World} {d : Nat} {sv sv4 : Value} {done : List Tm} {x : Tm} {k N : Int} {p n : ByteArray} {q : Option Addr} {ln c : Nat} {l : List T5} (hl : l.length = done.length)
    (hown : w.ownsRow base 24 5 sv l.length (flatC l)) (hd : ∀ (i : Nat) (x : Tm), done[i]? = some x → ∃ t : T5, l[i]? = some t ∧ IsX (fun b => base ≤ b ∧ some b ≠ sv.ownBlock) w d (t5v t) x) (hbase : base ≤ w.heap.size)
    (hb : Below w.heap.size w w3) (hx : IsX (fun b => w.heap.size ≤ b) w3 d (tv k p n N (.slice q ln c)) x) (w5 : World) (hw5 : ∀ b, b < w3.heap.size → w5.heap[b]? = w3.heap[b]?) (hz5 : w3.heap.size ≤ w5.heap.size)
    (ho4 : w4.ownsRow base 24 5 sv4 (l.length + 1) (flatC (l ++ [(k, p, n, N, Value.slice q ln c)]))) (hg : w5.grownBy w4 sv.ownBlock) (hblk : sv4.ownBlock = sv.ownBlock ∨ sv4.ownBlock = some w5.heap.size) : Made base w4 d sv4 (done ++ [x]) := by
  have hlt : ∀ g, sv.ownBlock = some g → g < w.heap.size := fun g h => (hown.lt g h).2
  have hsz := hb.size
  have hstep : ∀ b, b < w3.heap.size → some b ≠ sv.ownBlock → w4.heap[b]? = w3.heap[b]? := fun b h1 h2 => by rw [hg.block b (by omega) h2, hw5 b h1]
  refine ⟨l ++ [(k, p, n, N, Value.slice q ln c)], by simp [hl], by rw [List.length_append]; exact ho4, fun i y hy => ?_⟩
  rw [List.getElem?_append] at hy
  split at hy
  · rename_i hi
    obtain ⟨t, h1, h2⟩ := hd i y hy
    refine ⟨t, by rw [List.getElem?_append_left (by omega)]; exact h1, ?_⟩
    exact h2.move fun b hX hl2 => ⟨⟨hX.1, fun e => by
      rcases hblk with h | h
      · exact hX.2 (e.trans h)
      · rw [h] at e; have := Option.some.inj e; omega⟩, by rw [hstep b (by omega) hX.2, hb.block b hl2]⟩
  · rename_i hi
    have hi2 : i - done.length = 0 := by
      have := (List.getElem?_eq_some_iff.1 hy).1
      simp at this
      omega
    rw [hi2] at hy
    obtain rfl : x = y := by simpa using hy
    have hil : i = l.length := by omega
    refine ⟨_, by rw [hil]; exact List.getElem?_concat_length, ?_⟩
    exact hx.move fun b hX hl2 => ⟨⟨by omega, fun e => by
      rcases hblk with h | h
      · have := hlt b (by rw [← h, ← e]); omega
      · rw [h] at e; have := Option.some.inj e; omega⟩, hstep b hl2 fun e => by have := hlt b e.symm; omega⟩
/-- All made: it is the list. -/
theorem Made.all {base : Nat} {w w' : World} {d : Nat} {sv : Value} {kids : List Tm} (h : Made base w d sv kids) (hk : kids.length ≤ maxLen) (hw : ∀ b, base ≤ b → w'.heap[b]? = w.heap[b]?) : KidsX (fun b => base ≤ b) w' d sv kids := by
  obtain ⟨l, hl, ho, hd⟩ := h
  obtain ⟨hfl, ⟨rfl, h0⟩ | ⟨g, cap, cur, rfl, hbg, hh, _, _, _, htk⟩⟩ := ho
  · have : kids = [] := List.eq_nil_of_length_eq_zero (by omega)
    subst this
    exact ⟨none, 0, rfl, hk, fun i x h => by simp at h⟩
  · refine ⟨some ⟨g, 0, none⟩, cap, by rw [hl], hk, fun i x hx => ?_⟩
    obtain ⟨t, h1, h2⟩ := hd i x hx
    have hi : i < l.length := (List.getElem?_eq_some_iff.1 h1).1
    have hcell : ∀ j (hj : j < 5), w'.cell? ⟨g, 0 + i * 5 + j, none⟩ = (flatC l)[i * 5 + j]? := fun j hj => by
      have h3 : w'.cell? ⟨g, 0 + i * 5 + j, none⟩ = cur[0 + i * 5 + j]? := by
        have hh2 : w'.heap[g]? = some (.cells cur 24 (0, 0)) := by rw [hw g hbg, hh]
        exact hb_cell hh2 _
      rw [h3, ← htk, List.getElem?_take, if_pos (by omega), Array.getElem?_toList, Nat.zero_add]
    have hflat : ∀ j (hj : j < 5), (flatC l)[i * 5 + j]? = [Value.int .i64 t.1, .string t.2.1, .string t.2.2.1, .int .i64 t.2.2.2.1, t.2.2.2.2][j]? := fun j hj => by
      have e : l = l.take i ++ t :: l.drop (i + 1) := by
        have h4 := List.getElem?_eq_some_iff.1 h1
        rw [← h4.2, ← List.drop_eq_getElem_cons hi, List.take_append_drop]
      have e2 : flatC l = flatC (l.take i) ++ ([Value.int .i64 t.1, .string t.2.1, .string t.2.2.1, .int .i64 t.2.2.2.1, t.2.2.2.2] ++ flatC (l.drop (i + 1))) := by
        conv => lhs; rw [e]
        simp [flatC]
      have hlen : (flatC (l.take i)).length = i * 5 := by rw [flatC_length, List.length_take, Nat.min_eq_left (by omega)]
      rw [e2, List.getElem?_append_right (by omega), hlen, Nat.add_sub_cancel_left, List.getElem?_append_left (by simpa using hj)]
    refine ⟨g, 0, t.1, t.2.1, t.2.2.1, t.2.2.2.1, t.2.2.2.2, rfl, hbg, ⟨?_, ?_, ?_, ?_, ?_⟩, h2.move fun b hX _ => ⟨hX.1, hw b hX.1⟩⟩
    · have := hcell 0 (by decide); rw [hflat 0 (by decide)] at this; exact this
    · have := hcell 1 (by decide); rw [hflat 1 (by decide)] at this; exact this
    · have := hcell 2 (by decide); rw [hflat 2 (by decide)] at this; exact this
    · have := hcell 3 (by decide); rw [hflat 3 (by decide)] at this; exact this
    · have := hcell 4 (by decide); rw [hflat 4 (by decide)] at this; exact this
end Go.Proofs.YthcpmdgdbceeiaaGreatDoor
