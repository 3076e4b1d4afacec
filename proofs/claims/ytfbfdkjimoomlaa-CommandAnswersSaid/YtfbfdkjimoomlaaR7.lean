/- What the document's Decode carries along. -/
import Derived.Test.YtfbfdkjimoomlaaR6
namespace Go.Proofs.Ytfbfdkjimoomlaa
open Go.RowKit
structure IvQ (w W : World) (R C : Nat) (st : Cm.St) (c : Cm.Cmd) : Prop where
  rs : W.heap[w.heap.size]? = some (.cells zeroCmd 27 (0, 0))
  rd : Rq W R st
  cm : W.heap[C]? = some (.cells (cmdCells c) 27 (0, 0))
  bl : Below w.heap.size w W
structure DisQ (w : World) (R C : Nat) : Prop where
  r : w.heap.size < R
  c : R < C
section
variable {w W W' : World} {R C : Nat} {st st' : Cm.St} {c : Cm.Cmd}
theorem IvQ.call (h : IvQ w W R C st c) (d : DisQ w R C) (hg : W.grownBy W' (some R)) (hr : Rq W' R st') : IvQ w W' R C st' c :=
  ⟨hb_grown h.rs hg (by have := d.r; simp; omega), hr, hb_grown h.cm hg (by have := d.c; simp; omega), h.bl.grown hg h.bl.size (fun j hj => by cases hj; have := d.r; omega)⟩
theorem IvQ.below (h : IvQ w W R C st c) (hb : Below W.heap.size W W') : IvQ w W' R C st c :=
  ⟨hb_below h.rs hb (hb_lt h.rs), h.rd.kept (fun x hx => hb_below hx hb (hb_lt hx)), hb_below h.cm hb (hb_lt h.cm), h.bl.trans (hb.mono h.bl.size)⟩
theorem IvQ.set (h : IvQ w W R C st c) (d : DisQ w R C) (i : Nat) (v : Value) (c' : Cm.Cmd) (hc : (cmdCells c).setIfInBounds i v = cmdCells c') : IvQ w (W.setCell ⟨C, i, none⟩ v) R C st c' := by
  have h1 := d.r
  have h3 := d.c
  refine ⟨hb_set_other h.rs v (by simp; omega), h.rd.kept (fun x hx => hb_set_other hx v (by simp; omega)), ?_, h.bl.setCell (by simp; omega) v⟩
  have := hb_set_same h.cm i v
  rwa [hc] at this
theorem IvQ.setA (h : IvQ w W R C st c) (d : DisQ w R C) (x : Cm.Pn) : IvQ w ((((W.setCell ⟨C, 1, none⟩ (.string x.p)).setCell ⟨C, 2, none⟩ (.int .i64 x.v.a)).setCell ⟨C, 3, none⟩ (.int .i64 x.v.b)).setCell ⟨C, 4, none⟩ (.int .i64 x.v.c)) R C st ⟨c.k, x, c.b, c.s⟩ :=
  (((h.set d 1 _ ⟨c.k, ⟨x.p, c.a.v⟩, c.b, c.s⟩ rfl).set d 2 _ ⟨c.k, ⟨x.p, ⟨x.v.a, c.a.v.b, c.a.v.c⟩⟩, c.b, c.s⟩ rfl).set d 3 _ ⟨c.k, ⟨x.p, ⟨x.v.a, x.v.b, c.a.v.c⟩⟩, c.b, c.s⟩ rfl).set d 4 _ ⟨c.k, x, c.b, c.s⟩ rfl
theorem IvQ.setB (h : IvQ w W R C st c) (d : DisQ w R C) (x : Cm.Pn) : IvQ w ((((W.setCell ⟨C, 5, none⟩ (.string x.p)).setCell ⟨C, 6, none⟩ (.int .i64 x.v.a)).setCell ⟨C, 7, none⟩ (.int .i64 x.v.b)).setCell ⟨C, 8, none⟩ (.int .i64 x.v.c)) R C st ⟨c.k, c.a, x, c.s⟩ :=
  (((h.set d 5 _ ⟨c.k, c.a, ⟨x.p, c.b.v⟩, c.s⟩ rfl).set d 6 _ ⟨c.k, c.a, ⟨x.p, ⟨x.v.a, c.b.v.b, c.b.v.c⟩⟩, c.s⟩ rfl).set d 7 _ ⟨c.k, c.a, ⟨x.p, ⟨x.v.a, x.v.b, c.b.v.c⟩⟩, c.s⟩ rfl).set d 8 _ ⟨c.k, c.a, x, c.s⟩ rfl
theorem IvQ.setS (h : IvQ w W R C st c) (d : DisQ w R C) (s : ByteArray) : IvQ w (W.setCell ⟨C, 9, none⟩ (.string s)) R C st ⟨c.k, c.a, c.b, s⟩ := h.set d 9 _ _ rfl
theorem IvQ.k0 (h : IvQ w W R C st c) : W.cell? ⟨C, 0, none⟩ = some (.int .i64 c.k) := hb_at h.cm 0 rfl
end
/-- What the document asks of the reader at the end, by its two cells. -/
theorem rq_end {W : World} {R : Nat} {st : Cm.St} (h : Rq W R st) : (∃ v, W.cell? ⟨R, 1, none⟩ = some (.bool true) ∧ W.cell? ⟨R, 0, none⟩ = some (.string v) ∧ stDone st = false) ∨
    (∃ s : ByteArray, W.cell? ⟨R, 1, none⟩ = some (.bool false) ∧ W.cell? ⟨R, 0, none⟩ = some (.string s) ∧ ((¬ s.toList = [] ∧ s.toList.isEmpty = false ∧ stDone st = false) ∨ (s.toList = [] ∧ s.toList.isEmpty = true ∧ stDone st = true))) := by
  cases st with
  | none => obtain ⟨v, h⟩ := h; exact .inl ⟨v, hb_at h 1 rfl, hb_at h 0 rfl, rfl⟩
  | some l =>
    refine .inr ⟨str l, hb_at h.1 1 rfl, hb_at h.1 0 rfl, ?_⟩
    have e : (str l).toList = l := by rw [ByteArray.toList_eq, str_list]
    rw [e]
    cases l with
    | nil => exact .inr ⟨rfl, rfl, rfl⟩
    | cons a r => exact .inl ⟨by simp, rfl, rfl⟩
theorem spT_size {st : Cm.St} {N : Nat} (h : ∀ l, st = some l → l.length ≤ N) : (str (Cx.spT st).1).size ≤ N := by
  rw [str_size]
  have e : Cx.spT st = match Cx.spU st with
    | (_, none) => ([], none)
    | (y, some l) => if l.length < y then ([], none) else (l.take y, some (l.drop y)) := rfl
  rcases hp : Cx.spU st with ⟨y, st2⟩
  rw [hp] at e
  cases st2 with
  | none => rw [e]; exact Nat.zero_le _
  | some l =>
    have hl := spU_len h l (by rw [hp])
    have e2 : Cx.spT st = if l.length < y then ([], none) else (l.take y, some (l.drop y)) := e
    by_cases hc : l.length < y
    · rw [e2, if_pos hc]; exact Nat.zero_le _
    · rw [e2, if_neg hc]; simp only [List.length_take]; omega
end Go.Proofs.Ytfbfdkjimoomlaa
