/- Texts in a row: Wb A1 A2 A4. -/
import Derived.Test.YtmkjalnlldpdcaaGreatDoorZT1
import Derived.Outline
import Derived.Deep.RegionHeld3
import Derived.StillTailTactics
import Derived.BigQuiet
import Derived.Deep.QuietTactic
import Derived.Deep.RegionWith
set_option maxHeartbeats 16000000
set_option maxRecDepth 100000
namespace Go.Proofs.YtmkjalnlldpdcaaGreatDoor
open Go.RowKit
set_option linter.unusedSimpArgs false
set_option linter.unusedVariables false
def cat (ss : List ByteArray) : List UInt8 := ss.flatMap (·.data.toList)
def Adds (B b : Nat) (l x : List UInt8) (w : World) (e : Ending) (w' : World) : Prop := e = .returned (.tuple #[]) ∧ Wr B b l x w w'
theorem cat_take_len (ss : List ByteArray) (k : Nat) : (cat (ss.take k)).length ≤ (cat ss).length := by
 have h : cat ss = cat (ss.take k) ++ cat (ss.drop k) := by
  unfold cat
  rw [← List.flatMap_append, List.take_append_drop]
 rw [h, List.length_append]
 omega
theorem cat_next {ss : List ByteArray} {k : Nat} {x : ByteArray} (h : ss[k]? = some x) : cat (ss.take (k + 1)) = cat (ss.take k) ++ x.data.toList := by
 unfold cat
 rw [List.take_add_one, h, List.flatMap_append]
 simp
theorem row_cell {w : World} {g : Nat} {ss : List ByteArray} {fr : Nat × Nat} (h : w.heap[g]? = some (.cells (ss.map Value.string).toArray 9 fr)) {k : Nat} {x : ByteArray} (hx : ss[k]? = some x) :
 w.cell? ⟨g, k, none⟩ = some (.string x) := by
 rw [Lib.cell_of_heap h]
 simp [hx]
theorem add_any (B b g c : Nat) (l : List UInt8) (ss : List ByteArray) (w : World) (fr : Nat × Nat) (h : Lib.IsBuilder 76 5 B b (Lib.byteCells l) w)
 (hg : w.heap[g]? = some (.cells (ss.map Value.string).toArray 9 fr)) (hgb : g ≠ b) (hl : l.length + (cat ss).length ≤ 1000000000) (hn : ss.length ≤ 1000) (hBw : B ≤ w.heap.size) :
 Calls Tryz.prog 99 #[.pointer (some ⟨b, 0, none⟩), .slice (some ⟨g, 0, none⟩) ss.length c] w (Adds B b l (cat ss) w) := by
 have HH := Hd h
 have HG := Hd hg
 clear h hg
 go_enter Tryz.func99, Tryz.ntmps99
 go_wp2
 go_loopw [8] (fun i wr => ∃ k : Nat, i = .int .i64 k ∧ k ≤ ss.length ∧ Wr B b l (cat (ss.take k)) w wr) (fun i _ => ss.length - (intOf i).toNat)
 case atStart => exact ⟨0, rfl, Nat.zero_le _, Wr.refl HH.out⟩
 case round =>
  obtain ⟨k, rfl, hk, hW⟩ := hrel
  have HW := Hd hW
  have hws := hW.2.1.size
  clear hW
  by_cases hlt : k < ss.length
  · have hki : (k : Int) < (ss.length : Int) := by omega
    have hx := List.getElem?_eq_getElem hlt
    generalize ss[k] = x at *
    have hg' := HW.out.2.2 g _ 9 fr hgb (by decide) HG.out
    have r0 := row_cell hg' hx
    have hcl := cat_take_len ss (k + 1)
    have hxs : x.data.toList.length = x.size := Array.length_toList
    rw [cat_next hx, List.length_append, hxs] at hcl
    have HS := Hd (ws_any B b (l ++ cat (ss.take k)) x wr HW.out.1 (by rw [List.length_append]; omega) (by omega))
    have HX := Hd hx
    clear hg' hx
    go_wp2_with (go_at_call 149; refine HS.out.mono ?_; rintro e w1 ⟨rfl, h1⟩)
    exact ⟨⟨k + 1, rfl, by omega, by rw [cat_next HX.out]; exact HW.out.trans h1⟩, by simp [intOf]; omega⟩
  · have hki : ¬ (k : Int) < (ss.length : Int) := by omega
    obtain rfl : k = ss.length := by omega
    have hf : ss.take ss.length = ss := List.take_length
    rw [hf] at HW
    clear hf
    go_wp2
    go_end0
    exact ⟨rfl, HW.out⟩
end Go.Proofs.YtmkjalnlldpdcaaGreatDoor
namespace Go.Proofs.YtmkjalnlldpdcaaGreatDoor
open Go.RowKit

namespace Sv
structure V where
 a : Int
 b : Int
 c : Int
deriving DecidableEq
end Sv
abbrev vv (x : Sv.V) : Value := .agg #[.int .i64 x.a, .int .i64 x.b, .int .i64 x.c]
theorem bcellX {W w1 : World} (hb : Below W.heap.size W w1) : (∀ b o, b < W.heap.size → w1.cell? ⟨b, o, none⟩ = W.cell? ⟨b, o, none⟩) ∧ (∀ b o, b < W.heap.size → w1.frozen? ⟨b, o, none⟩ = W.frozen? ⟨b, o, none⟩) :=
 ⟨fun b o h => hb.cell (p := ⟨b, o, none⟩) h, fun b o h => hb.frozen (p := ⟨b, o, none⟩) h⟩
theorem below2X (w : World) (o1 o2 : Obj) : Below w.heap.size w ((w.alloc o1).alloc o2) := (below_alloc _ _).trans ((below_alloc _ _).mono (by simp))
namespace Sv
def inR (n : Int) : Bool := decide (0 ≤ n ∧ n ≤ 999999)
def right (v : V) : Bool := inR v.a && inR v.b && inR v.c
end Sv
theorem version_any (x : Sv.V) (w : World) : Calls Tryz.prog 260 #[vv x] w fun e w' => e = .returned (vv x) ∧ Below w.heap.size w w' := by
 go_enter Tryz.func260, Tryz.ntmps260
 go_wp2
 exact bodyPost_ret (v := .agg #[.int .i64 x.a, .int .i64 x.b, .int .i64 x.c]) (by simp [results, Tryz.results260, go_sem]) rfl ⟨rfl, below2X w _ _⟩
end Go.Proofs.YtmkjalnlldpdcaaGreatDoor
