/- Contracts: a writer's pin. -/
import Derived.Test.YtfbfdkjimoomlaaQ2
import Derived.Test.YtfbfdkjimoomlaaD5
import Derived.Deep.RegionWith
namespace Go.Proofs.Ytfbfdkjimoomlaa
open Go.RowKit
theorem many_one {α : Type} (f : α → List UInt8) (x : α) : many f [x] = f x := by show f x ++ [] = _; simp
theorem new_two (w : World) (o : Obj) (v : Value) (t : TypeId) : ((w.alloc o).alloc (.cells #[v] t)).cell? ⟨w.heap.size + 1, 0, none⟩ = some v := by
  have h := hb_new (w.alloc o) (.cells #[v] t)
  rw [World.size_alloc] at h
  exact hb_at h 0 rfl
theorem one_at {w : World} {S : Nat} {v : Value} (h : w.cell? ⟨S, 0, none⟩ = some v) {α : Type} (g : α → Value) (x : α) (hg : v = g x) : ∀ i (hi : i < [x].length), w.cell? ⟨S, i, none⟩ = some (g [x][i]) := by
  intro i hi
  obtain rfl : i = 0 := by simpa using hi
  rw [h, hg]; rfl
theorem Wr.drew {w : World} {B : Nat} {ps : List (List UInt8)} (h : Wr w B ps) : Wr w.drew B ps := by
  obtain ⟨p, h1, h2⟩ := h
  exact ⟨p, h1, Chain.kept (w := w) (w' := w.drew) (fun k x _ hx => hx) ps p h2⟩
theorem Wr.two {w : World} {B : Nat} {ps : List (List UInt8)} (h : Wr w B ps) (o1 o2 : Obj) : Wr ((w.alloc o1).alloc o2).drew B ps := by
  exact ((h.below (below_alloc _ o1)).below (below_alloc _ o2)).drew
theorem Wr.one {w : World} {B : Nat} {ps : List (List UInt8)} (h : Wr w B ps) (o1 : Obj) : Wr (w.alloc o1).drew B ps := by
  exact (h.below (below_alloc _ o1)).drew
theorem new_two' (w : World) (o : Obj) (v : Value) (t : TypeId) : (((w.alloc o).alloc (.cells #[v] t)).drew).cell? ⟨w.heap.size + 1, 0, none⟩ = some v := new_two w o v t
theorem three_at (w : World) (a b c : Nat) : ∀ i (h : i < [a, b, c].length), ((w.alloc (.cells #[.int .u64 (a : Int), .int .u64 (b : Int), .int .u64 (c : Int)] 64)).drew).cell? ⟨w.heap.size, i, none⟩ = some (.int .u64 ([a, b, c][i] : Nat)) := by
  intro i h
  have hn := hb_new w (.cells #[.int .u64 (a : Int), .int .u64 (b : Int), .int .u64 (c : Int)] 64)
  have hc : ∀ v, (#[Value.int .u64 (a : Int), .int .u64 (b : Int), .int .u64 (c : Int)])[i]? = some v → ((w.alloc (.cells #[.int .u64 (a : Int), .int .u64 (b : Int), .int .u64 (c : Int)] 64)).drew).cell? ⟨w.heap.size, i, none⟩ = some v := fun v hv => hb_at hn i hv
  have h3 : i < 3 := h
  obtain rfl | rfl | rfl : i = 0 ∨ i = 1 ∨ i = 2 := by omega
  · exact hc _ rfl
  · exact hc _ rfl
  · exact hc _ rfl
theorem grown2 (w w3 : World) (o1 o2 : Obj) {row : Option Nat} (h : ((w.alloc o1).alloc o2).drew.grownBy w3 row) : w.grownBy w3 row :=
  ((below_grown (below_alloc w o1) row).trans (below_grown (below_alloc _ o2) row)).trans (grown_undrew h)
theorem grown1 (w w3 : World) (o1 : Obj) {row : Option Nat} (h : (w.alloc o1).drew.grownBy w3 row) : w.grownBy w3 row :=
  (below_grown (below_alloc w o1) row).trans (grown_undrew h)
theorem new_one' (w : World) (v : Value) (t : TypeId) : ((w.alloc (.cells #[v] t)).drew).cell? ⟨w.heap.size, 0, none⟩ = some v := hb_at (hb_new w (.cells #[v] t)) 0 rfl
set_option maxHeartbeats 2000000 in
theorem wPin_any (B : Nat) (ps : List (List UInt8)) (p : ByteArray) (a b c : Nat) (w : World) (hW : Wr w B ps) (hp : (text ps).length ≤ 100000) (hs : p.size ≤ 4000) (ha : a ≤ 999999) (hb : b ≤ 999999) (hc : c ≤ 999999) :
    Calls Try.prog 24 #[.pointer (some ⟨B, 0, none⟩), .agg #[.string p, .int .i64 a, .int .i64 b, .int .i64 c]] w fun e w' => e = .returned (.tuple #[]) ∧ Wr w' B (many Cx.uv [a, b, c] :: many txt [p] :: ps) ∧ w.grownBy w' (some B) := by
  have HW := Lib.hid hW
  have hlt := hW.lt
  have htl : (many txt [p]).length ≤ 4010 := by rw [many_one, txt_len]; have := uv_small p.size (by omega); omega
  have htp : (text (many txt [p] :: ps)).length ≤ 1000000 := by rw [text, List.length_append]; omega
  clear hW
  go_enter Try.func24, Try.ntmps24
  go_upto_region 1 with fail
  go_region_with (go_at_call 25; (refine (wT_list B ps _ 1 [p] _ (by exact HW.out.two _ _) (by omega) (by simp) (by omega) (by exact one_at (new_two' _ _ _ _) Value.string p rfl)).mono ?_; rintro e w3 ⟨rfl, h3, hg3⟩; have H3 := Lib.hid h3; have HG3 := Lib.hid hg3; clear h3 hg3))
  all_goals
    go_upto_region 2 with fail
    have K := hb_grown (hb_alloc (hb_new w _) _) (by exact grown_undrew HG3.out) (by simp; omega)
    have hz3 : w.heap.size + 2 ≤ w3.heap.size := by have := HG3.out.size; simp at this; omega
    have c1 := hb_at K 1 rfl
    have c2 := hb_at K 2 rfl
    have c3 := hb_at K 3 rfl
    clear K
    have hx3 : ∀ x ∈ [a, b, c], x < 18446744073709551616 := by simp; omega
    have HX3 := Lib.hid hx3
    clear hx3
    have ea : IntKind.u64.wrap (a : Int) = a := by rw [IntKind.wrap_u64]; omega
    have eb : IntKind.u64.wrap (b : Int) = b := by rw [IntKind.wrap_u64]; omega
    have ec : IntKind.u64.wrap (c : Int) = c := by rw [IntKind.wrap_u64]; omega
    go_region_with (go_at_call 22; (refine (wU_list B _ w3.heap.size 3 [a, b, c] _ (by exact H3.out.one _) htp (by simp) HX3.out (by exact three_at _ _ _ _)).mono ?_; rintro e w4 ⟨rfl, h4, hg4⟩))
    all_goals
      go_end0
      exact ⟨rfl, h4, (grown2 _ _ _ _ HG3.out).trans (grown1 _ _ _ hg4)⟩
end Go.Proofs.Ytfbfdkjimoomlaa
