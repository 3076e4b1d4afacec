/- What Decode carries along: the result's block, the reader, the command. -/
import Derived.Test.YtfbfdkjimoomlaaR4
namespace Go.Proofs.Ytfbfdkjimoomlaa
open Go.RowKit
abbrev zeroCmd : Array Value := #[.int .i64 0, .string ⟨#[]⟩, .int .i64 0, .int .i64 0, .int .i64 0, .string ⟨#[]⟩, .int .i64 0, .int .i64 0, .int .i64 0, .string ⟨#[]⟩]
structure Inv (w W : World) (X R C : Nat) (st : Cm.St) (c : Cm.Cmd) : Prop where
  rs : W.heap[w.heap.size]? = some (.cells zeroCmd 27 (0, 0))
  px : W.heap[X]? = some (.cells #[.pointer (some ⟨R, 0, none⟩)] 80 (0, 0))
  rd : Rd W R st
  cm : W.heap[C]? = some (.cells (cmdCells c) 27 (0, 0))
  bl : Below w.heap.size w W
structure Dis (w : World) (X R C : Nat) : Prop where
  r : w.heap.size < R
  x : R < X
  c : X < C
section
variable {w W W' : World} {X R C : Nat} {st st' : Cm.St} {c : Cm.Cmd}
theorem Inv.call (h : Inv w W X R C st c) (d : Dis w X R C) (hg : W.grownBy W' (some R)) (hr : Rd W' R st') : Inv w W' X R C st' c :=
  ⟨hb_grown h.rs hg (by have := d.r; simp; omega), hb_grown h.px hg (by have := d.x; simp; omega), hr, hb_grown h.cm hg (by have := d.x; have := d.c; simp; omega), h.bl.grown hg h.bl.size (fun j hj => by cases hj; have := d.r; omega)⟩
theorem Inv.below (h : Inv w W X R C st c) (hb : Below W.heap.size W W') : Inv w W' X R C st c :=
  ⟨hb_below h.rs hb (hb_lt h.rs), hb_below h.px hb (hb_lt h.px), h.rd.kept (fun x hx => hb_below hx hb (hb_lt hx)), hb_below h.cm hb (hb_lt h.cm), h.bl.trans (hb.mono h.bl.size)⟩
theorem Inv.alloc (h : Inv w W X R C st c) (o : Obj) : Inv w (W.alloc o) X R C st c := h.below (below_alloc W o)
theorem Inv.set (h : Inv w W X R C st c) (d : Dis w X R C) (i : Nat) (v : Value) (c' : Cm.Cmd) (hc : (cmdCells c).setIfInBounds i v = cmdCells c') : Inv w (W.setCell ⟨C, i, none⟩ v) X R C st c' := by
  have h1 := d.r
  have h2 := d.x
  have h3 := d.c
  refine ⟨hb_set_other h.rs v (by simp; omega), hb_set_other h.px v (by simp; omega), h.rd.kept (fun x hx => hb_set_other hx v (by simp; omega)), ?_, h.bl.setCell (by simp; omega) v⟩
  have := hb_set_same h.cm i v
  rwa [hc] at this
theorem Inv.setA (h : Inv w W X R C st c) (d : Dis w X R C) (x : Cm.Pn) : Inv w ((((W.setCell ⟨C, 1, none⟩ (.string x.p)).setCell ⟨C, 2, none⟩ (.int .i64 x.v.a)).setCell ⟨C, 3, none⟩ (.int .i64 x.v.b)).setCell ⟨C, 4, none⟩ (.int .i64 x.v.c)) X R C st ⟨c.k, x, c.b, c.s⟩ :=
  (((h.set d 1 _ ⟨c.k, ⟨x.p, c.a.v⟩, c.b, c.s⟩ rfl).set d 2 _ ⟨c.k, ⟨x.p, ⟨x.v.a, c.a.v.b, c.a.v.c⟩⟩, c.b, c.s⟩ rfl).set d 3 _ ⟨c.k, ⟨x.p, ⟨x.v.a, x.v.b, c.a.v.c⟩⟩, c.b, c.s⟩ rfl).set d 4 _ ⟨c.k, x, c.b, c.s⟩ rfl
theorem Inv.setB (h : Inv w W X R C st c) (d : Dis w X R C) (x : Cm.Pn) : Inv w ((((W.setCell ⟨C, 5, none⟩ (.string x.p)).setCell ⟨C, 6, none⟩ (.int .i64 x.v.a)).setCell ⟨C, 7, none⟩ (.int .i64 x.v.b)).setCell ⟨C, 8, none⟩ (.int .i64 x.v.c)) X R C st ⟨c.k, c.a, x, c.s⟩ :=
  (((h.set d 5 _ ⟨c.k, c.a, ⟨x.p, c.b.v⟩, c.s⟩ rfl).set d 6 _ ⟨c.k, c.a, ⟨x.p, ⟨x.v.a, c.b.v.b, c.b.v.c⟩⟩, c.s⟩ rfl).set d 7 _ ⟨c.k, c.a, ⟨x.p, ⟨x.v.a, x.v.b, c.b.v.c⟩⟩, c.s⟩ rfl).set d 8 _ ⟨c.k, c.a, x, c.s⟩ rfl
theorem Inv.setS (h : Inv w W X R C st c) (d : Dis w X R C) (s : ByteArray) : Inv w (W.setCell ⟨C, 9, none⟩ (.string s)) X R C st ⟨c.k, c.a, c.b, s⟩ := h.set d 9 _ _ rfl
theorem free_all {W : World} {b : Nat} {cs : Array Value} {t : TypeId} (h : W.heap[b]? = some (.cells cs t (0, 0))) : ∀ i, W.frozen? ⟨b, i, none⟩ = false := fun i => hb_free h i
end
theorem zero_cells {W : World} {b : Nat} (h : W.heap[b]? = some (.cells zeroCmd 27 (0, 0))) :
    W.cell? ⟨b, 0, none⟩ = some (.int .i64 0) ∧ W.cell? ⟨b, 1, none⟩ = some (.string ⟨#[]⟩) ∧ W.cell? ⟨b, 2, none⟩ = some (.int .i64 0) ∧ W.cell? ⟨b, 3, none⟩ = some (.int .i64 0) ∧ W.cell? ⟨b, 4, none⟩ = some (.int .i64 0) ∧
    W.cell? ⟨b, 5, none⟩ = some (.string ⟨#[]⟩) ∧ W.cell? ⟨b, 6, none⟩ = some (.int .i64 0) ∧ W.cell? ⟨b, 7, none⟩ = some (.int .i64 0) ∧ W.cell? ⟨b, 8, none⟩ = some (.int .i64 0) ∧ W.cell? ⟨b, 9, none⟩ = some (.string ⟨#[]⟩) :=
  ⟨hb_at h 0 rfl, hb_at h 1 rfl, hb_at h 2 rfl, hb_at h 3 rfl, hb_at h 4 rfl, hb_at h 5 rfl, hb_at h 6 rfl, hb_at h 7 rfl, hb_at h 8 rfl, hb_at h 9 rfl⟩
theorem ten_free {W : World} {b : Nat} {cs : Array Value} {t : TypeId} (h : W.heap[b]? = some (.cells cs t (0, 0))) :
    W.frozen? ⟨b, 0, none⟩ = false ∧ W.frozen? ⟨b, 1, none⟩ = false ∧ W.frozen? ⟨b, 2, none⟩ = false ∧ W.frozen? ⟨b, 3, none⟩ = false ∧ W.frozen? ⟨b, 4, none⟩ = false ∧ W.frozen? ⟨b, 5, none⟩ = false ∧ W.frozen? ⟨b, 6, none⟩ = false ∧ W.frozen? ⟨b, 7, none⟩ = false ∧ W.frozen? ⟨b, 8, none⟩ = false ∧ W.frozen? ⟨b, 9, none⟩ = false :=
  ⟨hb_free h 0, hb_free h 1, hb_free h 2, hb_free h 3, hb_free h 4, hb_free h 5, hb_free h 6, hb_free h 7, hb_free h 8, hb_free h 9⟩
namespace Cm
theorem dec_ok {f : Nat → Int} {l : List UInt8} {c : Cmd} {ss : St} (h : raw f l = (c, ss)) (hd : stDone ss = true) (hr : rightB c = true) : dec f l = (c, 0) := by
  unfold dec; rw [h, if_pos ⟨hd, hr⟩]
theorem dec_bad1 {f : Nat → Int} {l : List UInt8} {c : Cmd} {ss : St} (h : raw f l = (c, ss)) (hd : stDone ss = false) : dec f l = (noCmd, 8) := by
  unfold dec; rw [h, if_neg (fun q => by have := q.1; simp only [hd] at this; cases this)]
theorem dec_bad2 {f : Nat → Int} {l : List UInt8} {c : Cmd} {ss : St} (h : raw f l = (c, ss)) (hr : rightB c = false) : dec f l = (noCmd, 8) := by
  unfold dec; rw [h, if_neg (fun q => by have := q.2; simp only [hr] at this; cases this)]
theorem raw_eq (f : Nat → Int) (l : List UInt8) (P O S : Bool) (hP : hasPin (f (Cx.spU (some l)).1) = P) (hO : hasOther (f (Cx.spU (some l)).1) = O) (hS : hasSource (f (Cx.spU (some l)).1) = S) :
    raw f l = (⟨f (Cx.spU (some l)).1, (if P then rdPin f (Cx.spU (some l)).2 else (noPin, (Cx.spU (some l)).2)).1,
      (if O then rdPin f (if P then rdPin f (Cx.spU (some l)).2 else (noPin, (Cx.spU (some l)).2)).2 else (noPin, (if P then rdPin f (Cx.spU (some l)).2 else (noPin, (Cx.spU (some l)).2)).2)).1,
      (if S then (str (Cx.spT (if O then rdPin f (if P then rdPin f (Cx.spU (some l)).2 else (noPin, (Cx.spU (some l)).2)).2 else (noPin, (if P then rdPin f (Cx.spU (some l)).2 else (noPin, (Cx.spU (some l)).2)).2)).2).1, (Cx.spT (if O then rdPin f (if P then rdPin f (Cx.spU (some l)).2 else (noPin, (Cx.spU (some l)).2)).2 else (noPin, (if P then rdPin f (Cx.spU (some l)).2 else (noPin, (Cx.spU (some l)).2)).2)).2).2) else (⟨#[]⟩, (if O then rdPin f (if P then rdPin f (Cx.spU (some l)).2 else (noPin, (Cx.spU (some l)).2)).2 else (noPin, (if P then rdPin f (Cx.spU (some l)).2 else (noPin, (Cx.spU (some l)).2)).2)).2)).1⟩,
     (if S then (str (Cx.spT (if O then rdPin f (if P then rdPin f (Cx.spU (some l)).2 else (noPin, (Cx.spU (some l)).2)).2 else (noPin, (if P then rdPin f (Cx.spU (some l)).2 else (noPin, (Cx.spU (some l)).2)).2)).2).1, (Cx.spT (if O then rdPin f (if P then rdPin f (Cx.spU (some l)).2 else (noPin, (Cx.spU (some l)).2)).2 else (noPin, (if P then rdPin f (Cx.spU (some l)).2 else (noPin, (Cx.spU (some l)).2)).2)).2).2) else (⟨#[]⟩, (if O then rdPin f (if P then rdPin f (Cx.spU (some l)).2 else (noPin, (Cx.spU (some l)).2)).2 else (noPin, (if P then rdPin f (Cx.spU (some l)).2 else (noPin, (Cx.spU (some l)).2)).2)).2)).2) := by
  subst hP hO hS; rfl
end Cm
theorem rdPin_len {f : Nat → Int} {st : Cm.St} {N : Nat} (h : ∀ l, st = some l → l.length ≤ N) : ∀ l, (Cm.rdPin f st).2 = some l → l.length ≤ N :=
  spU_len (spU_len (spU_len (spT_len h)))
structure InvH (w W : World) (X R C H : Nat) (hv : Array Value) (st : Cm.St) (c : Cm.Cmd) : Prop where
  i : Inv w W X R C st c
  h : W.heap[H]? = some (.cells hv 66 (0, 0))
structure DisH (w : World) (X R C H : Nat) : Prop where
  d : Dis w X R C
  h : C < H
section
variable {w W W' : World} {X R C H : Nat} {hv : Array Value} {st st' : Cm.St} {c : Cm.Cmd}
theorem InvH.call (h : InvH w W X R C H hv st c) (d : DisH w X R C H) (hg : W.grownBy W' (some R)) (hr : Rd W' R st') : InvH w W' X R C H hv st' c :=
  ⟨h.i.call d.d hg hr, hb_grown h.h hg (by have := d.d.x; have := d.d.c; have := d.h; simp; omega)⟩
theorem InvH.setA (h : InvH w W X R C H hv st c) (d : DisH w X R C H) (x : Cm.Pn) : InvH w ((((W.setCell ⟨C, 1, none⟩ (.string x.p)).setCell ⟨C, 2, none⟩ (.int .i64 x.v.a)).setCell ⟨C, 3, none⟩ (.int .i64 x.v.b)).setCell ⟨C, 4, none⟩ (.int .i64 x.v.c)) X R C H hv st ⟨c.k, x, c.b, c.s⟩ := by
  have := d.h
  exact ⟨h.i.setA d.d x, hb_set_other (hb_set_other (hb_set_other (hb_set_other h.h _ (by simp; omega)) _ (by simp; omega)) _ (by simp; omega)) _ (by simp; omega)⟩
theorem InvH.setB (h : InvH w W X R C H hv st c) (d : DisH w X R C H) (x : Cm.Pn) : InvH w ((((W.setCell ⟨C, 5, none⟩ (.string x.p)).setCell ⟨C, 6, none⟩ (.int .i64 x.v.a)).setCell ⟨C, 7, none⟩ (.int .i64 x.v.b)).setCell ⟨C, 8, none⟩ (.int .i64 x.v.c)) X R C H hv st ⟨c.k, c.a, x, c.s⟩ := by
  have := d.h
  exact ⟨h.i.setB d.d x, hb_set_other (hb_set_other (hb_set_other (hb_set_other h.h _ (by simp; omega)) _ (by simp; omega)) _ (by simp; omega)) _ (by simp; omega)⟩
theorem InvH.setS (h : InvH w W X R C H hv st c) (d : DisH w X R C H) (s : ByteArray) : InvH w (W.setCell ⟨C, 9, none⟩ (.string s)) X R C H hv st ⟨c.k, c.a, c.b, s⟩ := by
  have := d.h
  exact ⟨h.i.setS d.d s, hb_set_other h.h _ (by simp; omega)⟩
theorem InvH.px0 (h : InvH w W X R C H hv st c) : W.cell? ⟨X, 0, none⟩ = some (.pointer (some ⟨R, 0, none⟩)) := hb_at h.i.px 0 rfl
end
end Go.Proofs.Ytfbfdkjimoomlaa
