/- What Answer carries along. -/
import Derived.Test.YtfbfdkjimoomlaaU4
import Derived.Test.YtfbfdkjimoomlaaR5
namespace Go.Proofs.Ytfbfdkjimoomlaa
open Go.RowKit
abbrev zeroAns : Array Value := ansCells Cm.noAn (.slice none 0 0)
structure IvA (w W : World) (X R C : Nat) (st : Cm.St) (a : Cm.An) (v : Value) : Prop where
  rs : W.heap[w.heap.size]? = some (.cells zeroAns 49 (0, 0))
  px : W.heap[X]? = some (.cells #[.pointer (some ⟨R, 0, none⟩)] 80 (0, 0))
  rd : Rd W R st
  cm : W.heap[C]? = some (.cells (ansCells a v) 49 (0, 0))
  bl : Below w.heap.size w W
  ow : W.ownsRow (C + 1) 25 4 v a.ps.length (a.ps.flatMap fun x => [.string x.p, .int .i64 x.v.a, .int .i64 x.v.b, .int .i64 x.v.c])
section
variable {w W W' : World} {X R C : Nat} {st st' : Cm.St} {a : Cm.An} {v : Value}
theorem IvA.call (h : IvA w W X R C st a v) (d : Dis w X R C) (hg : W.grownBy W' (some R)) (hr : Rd W' R st') : IvA w W' X R C st' a v := by
  have h1 := d.r
  have h2 := d.x
  have h3 := d.c
  refine ⟨hb_grown h.rs hg (by simp; omega), hb_grown h.px hg (by simp; omega), hr, hb_grown h.cm hg (by simp; omega), h.bl.grown hg h.bl.size (fun j hj => by cases hj; omega), h.ow.kept hg ?_⟩
  rcases hv : v.ownBlock with _ | k
  · exact .inl rfl
  · right
    have := (h.ow.lt k hv).1
    intro e
    cases e
    omega
theorem IvA.set (h : IvA w W X R C st a v) (d : Dis w X R C) (i : Nat) (u : Value) (a' : Cm.An) (hc : (ansCells a v).setIfInBounds i u = ansCells a' v) (hp : a'.ps = a.ps) : IvA w (W.setCell ⟨C, i, none⟩ u) X R C st a' v := by
  have h1 := d.r
  have h2 := d.x
  have h3 := d.c
  refine ⟨hb_set_other h.rs u (by simp; omega), hb_set_other h.px u (by simp; omega), h.rd.kept (fun x hx => hb_set_other hx u (by simp; omega)), ?_, h.bl.setCell (by simp; omega) u, ?_⟩
  · have := hb_set_same h.cm i u
    rwa [hc] at this
  · rw [hp]
    refine own_kept h.ow (fun g x hg hx => hb_set_other hx u ?_)
    have := (h.ow.lt g hg).1
    simp
    omega
theorem IvA.px0 (h : IvA w W X R C st a v) : W.cell? ⟨X, 0, none⟩ = some (.pointer (some ⟨R, 0, none⟩)) := hb_at h.px 0 rfl
end
theorem ans_cells {W : World} {b : Nat} {a : Cm.An} {v : Value} (h : W.heap[b]? = some (.cells (ansCells a v) 49 (0, 0))) : W.cell? ⟨b, 0, none⟩ = some (.int .i64 a.e) ∧ W.cell? ⟨b, 1, none⟩ = some (.int .i64 a.t) ∧ W.cell? ⟨b, 2, none⟩ = some (.int .i64 a.g) ∧ W.cell? ⟨b, 3, none⟩ = some (.int .i64 a.k) ∧ W.cell? ⟨b, 4, none⟩ = some (.string a.cn) ∧ W.cell? ⟨b, 5, none⟩ = some (.string a.cc) ∧ W.cell? ⟨b, 6, none⟩ = some (v) ∧ W.cell? ⟨b, 7, none⟩ = some (.string a.tx) ∧ W.cell? ⟨b, 8, none⟩ = some (.bool a.y) ∧ W.cell? ⟨b, 9, none⟩ = some (.int .i64 a.r1) ∧ W.cell? ⟨b, 10, none⟩ = some (.int .i64 a.r2) ∧ W.cell? ⟨b, 11, none⟩ = some (.int .i64 a.r3) ∧ W.cell? ⟨b, 12, none⟩ = some (.int .i64 a.r4) := ⟨hb_at h 0 rfl, hb_at h 1 rfl, hb_at h 2 rfl, hb_at h 3 rfl, hb_at h 4 rfl, hb_at h 5 rfl, hb_at h 6 rfl, hb_at h 7 rfl, hb_at h 8 rfl, hb_at h 9 rfl, hb_at h 10 rfl, hb_at h 11 rfl, hb_at h 12 rfl⟩
theorem zeroA_cells {W : World} {b : Nat} (h : W.heap[b]? = some (.cells zeroAns 49 (0, 0))) : W.cell? ⟨b, 0, none⟩ = some (.int .i64 0) ∧ W.cell? ⟨b, 1, none⟩ = some (.int .i64 0) ∧ W.cell? ⟨b, 2, none⟩ = some (.int .i64 0) ∧ W.cell? ⟨b, 3, none⟩ = some (.int .i64 0) ∧ W.cell? ⟨b, 4, none⟩ = some (.string ⟨#[]⟩) ∧ W.cell? ⟨b, 5, none⟩ = some (.string ⟨#[]⟩) ∧ W.cell? ⟨b, 6, none⟩ = some (.slice none 0 0) ∧ W.cell? ⟨b, 7, none⟩ = some (.string ⟨#[]⟩) ∧ W.cell? ⟨b, 8, none⟩ = some (.bool false) ∧ W.cell? ⟨b, 9, none⟩ = some (.int .i64 0) ∧ W.cell? ⟨b, 10, none⟩ = some (.int .i64 0) ∧ W.cell? ⟨b, 11, none⟩ = some (.int .i64 0) ∧ W.cell? ⟨b, 12, none⟩ = some (.int .i64 0) := ⟨hb_at h 0 rfl, hb_at h 1 rfl, hb_at h 2 rfl, hb_at h 3 rfl, hb_at h 4 rfl, hb_at h 5 rfl, hb_at h 6 rfl, hb_at h 7 rfl, hb_at h 8 rfl, hb_at h 9 rfl, hb_at h 10 rfl, hb_at h 11 rfl, hb_at h 12 rfl⟩
theorem ans_free {W : World} {b : Nat} {cs : Array Value} {t : TypeId} (h : W.heap[b]? = some (.cells cs t (0, 0))) : W.frozen? ⟨b, 0, none⟩ = false ∧ W.frozen? ⟨b, 1, none⟩ = false ∧ W.frozen? ⟨b, 2, none⟩ = false ∧ W.frozen? ⟨b, 3, none⟩ = false ∧ W.frozen? ⟨b, 4, none⟩ = false ∧ W.frozen? ⟨b, 5, none⟩ = false ∧ W.frozen? ⟨b, 6, none⟩ = false ∧ W.frozen? ⟨b, 7, none⟩ = false ∧ W.frozen? ⟨b, 8, none⟩ = false ∧ W.frozen? ⟨b, 9, none⟩ = false ∧ W.frozen? ⟨b, 10, none⟩ = false ∧ W.frozen? ⟨b, 11, none⟩ = false ∧ W.frozen? ⟨b, 12, none⟩ = false := ⟨hb_free h 0, hb_free h 1, hb_free h 2, hb_free h 3, hb_free h 4, hb_free h 5, hb_free h 6, hb_free h 7, hb_free h 8, hb_free h 9, hb_free h 10, hb_free h 11, hb_free h 12⟩
theorem IvA.set13 {w W : World} {X R C : Nat} {st : Cm.St} {a : Cm.An} {v : Value} (h : IvA w W X R C st a v) (d : Dis w X R C) (a' : Cm.An) (hp : a'.ps = a.ps) : IvA w (((((((((((((W.setCell ⟨C, 0, none⟩ (.int .i64 a'.e)).setCell ⟨C, 1, none⟩ (.int .i64 a'.t)).setCell ⟨C, 2, none⟩ (.int .i64 a'.g)).setCell ⟨C, 3, none⟩ (.int .i64 a'.k)).setCell ⟨C, 4, none⟩ (.string a'.cn)).setCell ⟨C, 5, none⟩ (.string a'.cc)).setCell ⟨C, 6, none⟩ (v)).setCell ⟨C, 7, none⟩ (.string a'.tx)).setCell ⟨C, 8, none⟩ (.bool a'.y)).setCell ⟨C, 9, none⟩ (.int .i64 a'.r1)).setCell ⟨C, 10, none⟩ (.int .i64 a'.r2)).setCell ⟨C, 11, none⟩ (.int .i64 a'.r3)).setCell ⟨C, 12, none⟩ (.int .i64 a'.r4)) X R C st a' v := by
  have h13 := (((((((((((((h.set d 0 _ { a with e := a'.e } rfl rfl).set d 1 _ { a with e := a'.e, t := a'.t } rfl rfl).set d 2 _ { a with e := a'.e, t := a'.t, g := a'.g } rfl rfl).set d 3 _ { a with e := a'.e, t := a'.t, g := a'.g, k := a'.k } rfl rfl).set d 4 _ { a with e := a'.e, t := a'.t, g := a'.g, k := a'.k, cn := a'.cn } rfl rfl).set d 5 _ { a with e := a'.e, t := a'.t, g := a'.g, k := a'.k, cn := a'.cn, cc := a'.cc } rfl rfl).set d 6 _ { a with e := a'.e, t := a'.t, g := a'.g, k := a'.k, cn := a'.cn, cc := a'.cc } rfl rfl).set d 7 _ { a with e := a'.e, t := a'.t, g := a'.g, k := a'.k, cn := a'.cn, cc := a'.cc, tx := a'.tx } rfl rfl).set d 8 _ { a with e := a'.e, t := a'.t, g := a'.g, k := a'.k, cn := a'.cn, cc := a'.cc, tx := a'.tx, y := a'.y } rfl rfl).set d 9 _ { a with e := a'.e, t := a'.t, g := a'.g, k := a'.k, cn := a'.cn, cc := a'.cc, tx := a'.tx, y := a'.y, r1 := a'.r1 } rfl rfl).set d 10 _ { a with e := a'.e, t := a'.t, g := a'.g, k := a'.k, cn := a'.cn, cc := a'.cc, tx := a'.tx, y := a'.y, r1 := a'.r1, r2 := a'.r2 } rfl rfl).set d 11 _ { a with e := a'.e, t := a'.t, g := a'.g, k := a'.k, cn := a'.cn, cc := a'.cc, tx := a'.tx, y := a'.y, r1 := a'.r1, r2 := a'.r2, r3 := a'.r3 } rfl rfl).set d 12 _ { a with e := a'.e, t := a'.t, g := a'.g, k := a'.k, cn := a'.cn, cc := a'.cc, tx := a'.tx, y := a'.y, r1 := a'.r1, r2 := a'.r2, r3 := a'.r3, r4 := a'.r4 } rfl rfl)
  have e : ({ a with e := a'.e, t := a'.t, g := a'.g, k := a'.k, cn := a'.cn, cc := a'.cc, tx := a'.tx, y := a'.y, r1 := a'.r1, r2 := a'.r2, r3 := a'.r3, r4 := a'.r4 } : Cm.An) = a' := by
    cases a'; cases a; simp only at hp; subst hp; rfl
  rw [e] at h13
  exact h13
theorem cell_sets13 {W : World} {X C : Nat} {u : Value} (h : W.cell? ⟨X, 0, none⟩ = some u) (hne : X ≠ C) {v0 v1 v2 v3 v4 v5 v6 v7 v8 v9 v10 v11 v12 : Value} : ((((((((((((((W.setCell ⟨C, 0, none⟩ v0).setCell ⟨C, 1, none⟩ v1).setCell ⟨C, 2, none⟩ v2).setCell ⟨C, 3, none⟩ v3).setCell ⟨C, 4, none⟩ v4).setCell ⟨C, 5, none⟩ v5).setCell ⟨C, 6, none⟩ v6).setCell ⟨C, 7, none⟩ v7).setCell ⟨C, 8, none⟩ v8).setCell ⟨C, 9, none⟩ v9).setCell ⟨C, 10, none⟩ v10).setCell ⟨C, 11, none⟩ v11).setCell ⟨C, 12, none⟩ v12)).cell? ⟨X, 0, none⟩ = some u := cell_set_other (cell_set_other (cell_set_other (cell_set_other (cell_set_other (cell_set_other (cell_set_other (cell_set_other (cell_set_other (cell_set_other (cell_set_other (cell_set_other (cell_set_other h hne) hne) hne) hne) hne) hne) hne) hne) hne) hne) hne) hne) hne
end Go.Proofs.Ytfbfdkjimoomlaa
