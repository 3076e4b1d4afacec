/- Contracts: an answer's text. -/
import Derived.Test.YtfbfdkjimoomlaaM5
import Derived.Test.YtfbfdkjimoomlaaT2
import Derived.Deep.RegionHeld3
namespace Go.Proofs.Ytfbfdkjimoomlaa
open Go.RowKit
abbrev ansCells (a : Cm.An) (v : Value) : Array Value := #[.int .i64 a.e, .int .i64 a.t, .int .i64 a.g, .int .i64 a.k, .string a.cn, .string a.cc, v, .string a.tx, .bool a.y, .int .i64 a.r1, .int .i64 a.r2, .int .i64 a.r3, .int .i64 a.r4]
abbrev ansv (a : Cm.An) (v : Value) : Value := .agg #[.int .i64 a.e, .int .i64 a.t, .int .i64 a.g, .int .i64 a.k, .string a.cn, .string a.cc, v, .string a.tx, .bool a.y, .int .i64 a.r1, .int .i64 a.r2, .int .i64 a.r3, .int .i64 a.r4]
/-- A pin in memory; pins in a row. -/
def PcAt (w : World) (b o : Nat) (x : Cm.Pn) : Prop :=
  w.cell? ⟨b, o, none⟩ = some (.string x.p) ∧ w.cell? ⟨b, o + 1, none⟩ = some (.int .i64 x.v.a) ∧ w.cell? ⟨b, o + 2, none⟩ = some (.int .i64 x.v.b) ∧ w.cell? ⟨b, o + 3, none⟩ = some (.int .i64 x.v.c)
theorem PcAt.below {w w' : World} {b o : Nat} {x : Cm.Pn} (h : PcAt w b o x) (hb : Below w.heap.size w w') : PcAt w' b o x := by
  obtain ⟨h0, h1, h2, h3⟩ := h
  have hl := block_lt_of_cell h0
  exact ⟨by rw [hb.cell (p := ⟨b, o, none⟩) hl, h0], by rw [hb.cell (p := ⟨b, o + 1, none⟩) hl, h1], by rw [hb.cell (p := ⟨b, o + 2, none⟩) hl, h2], by rw [hb.cell (p := ⟨b, o + 3, none⟩) hl, h3]⟩
def PsAt (w : World) (q : Option Addr) (ps : List Cm.Pn) : Prop := ∀ i x, ps[i]? = some x → ∃ b o, q = some ⟨b, o, none⟩ ∧ PcAt w b (o + i * 4) x
theorem PsAt.below {w w' : World} {q : Option Addr} {ps : List Cm.Pn} (h : PsAt w q ps) (hb : Below w.heap.size w w') : PsAt w' q ps := fun i x hx => by
  obtain ⟨b, o, e, hp⟩ := h i x hx
  exact ⟨b, o, e, hp.below hb⟩
/-- The pieces of pins, on what is written already. -/
def pp (base : List (List UInt8)) (l : List Cm.Pn) : List (List UInt8) :=
  l.foldl (fun acc x => many (fun n => Cx.uv (Cx.zig n)) [x.v.a, x.v.b, x.v.c] :: many txt [x.p] :: acc) base
theorem pp_snoc (base : List (List UInt8)) (l : List Cm.Pn) (k : Nat) (h : k < l.length) : pp base (l.take (k + 1)) = many (fun n => Cx.uv (Cx.zig n)) [l[k].v.a, l[k].v.b, l[k].v.c] :: many txt [l[k].p] :: pp base (l.take k) := by
  unfold pp
  rw [List.take_succ_eq_append_getElem h, List.foldl_append]
  rfl
theorem three_zg (v : Sv.V) : many (fun n => Cx.uv (Cx.zig n)) [v.a, v.b, v.c] = Cm.zg v.a ++ (Cm.zg v.b ++ Cm.zg v.c) := by
  show Cx.uv _ ++ (Cx.uv _ ++ (Cx.uv _ ++ [])) = _
  rw [List.append_nil]; rfl
theorem text_pp (l : List Cm.Pn) (base : List (List UInt8)) : text (pp base l) = text base ++ many Cm.pinZ l := by
  induction l generalizing base with
  | nil => show text base = text base ++ []; rw [List.append_nil]
  | cons x r ih =>
    have e : pp base (x :: r) = pp (many (fun n => Cx.uv (Cx.zig n)) [x.v.a, x.v.b, x.v.c] :: many txt [x.p] :: base) r := rfl
    rw [e, ih]
    show ((text base ++ many txt [x.p]) ++ many _ [x.v.a, x.v.b, x.v.c]) ++ many Cm.pinZ r = text base ++ (Cm.pinZ x ++ many Cm.pinZ r)
    rw [three_zg, many_one]
    unfold Cm.pinZ
    simp only [List.append_assoc]
theorem pp_ne (l : List Cm.Pn) (base : List (List UInt8)) (h : ∀ d ∈ base, d ≠ []) : ∀ d ∈ pp base l, d ≠ [] := by
  induction l generalizing base with
  | nil => exact h
  | cons x r ih =>
    refine ih _ fun d hd => ?_
    rcases List.mem_cons.1 hd with rfl | hd
    · exact uv_ne _ _
    · rcases List.mem_cons.1 hd with rfl | hd
      · exact manyT_ne _ _
      · exact h d hd
theorem alloc_cell {w : World} {a : Addr} {v : Value} (o : Obj) (h : w.cell? a = some v) : (w.alloc o).cell? a = some v := (below_alloc w o).cell (block_lt_of_cell h) ▸ h
theorem alloc_drew {w : World} {a : Addr} {v : Value} (o : Obj) (h : w.drew.cell? a = some v) : (w.alloc o).drew.cell? a = some v := alloc_cell (w := w) o h
theorem few_at {α : Type} (g : α → Value) (w : World) (t : TypeId) (l : List α) (cs : Array Value) (hcs : cs = (l.map g).toArray) : ∀ i (h : i < l.length), ((w.alloc (.cells cs t)).drew).cell? ⟨w.heap.size, i, none⟩ = some (g l[i]) := by
  intro i h
  subst hcs
  have hn := hb_new w (.cells (l.map g).toArray t)
  exact hb_at hn i (by simp [h])
theorem few_at2 {α : Type} (g : α → Value) (w : World) (o : Obj) (t : TypeId) (l : List α) (cs : Array Value) (hcs : cs = (l.map g).toArray) : ∀ i (h : i < l.length), (((w.alloc o).alloc (.cells cs t)).drew).cell? ⟨w.heap.size + 1, i, none⟩ = some (g l[i]) := by
  intro i h
  have := few_at g (w.alloc o) t l cs hcs i h
  rwa [World.size_alloc] at this
end Go.Proofs.Ytfbfdkjimoomlaa
