/- Texts in a row: Pu A1. -/
import Derived.Test.YtlbnaddgdgbckaaGreatDoorZ12
import Derived.Defers
import Derived.Recover
import Derived.Test.YtlbnaddgdgbckaaGreatDoorZ1
import Derived.Outline
import Derived.Deep.RegionHeld3
import Derived.StillTailTactics
import Derived.BigQuiet
import Derived.Deep.QuietTactic
import Derived.Deep.RegionWith
/- A source read whole: the deferred call. -/
namespace Go.Proofs.YtlbnaddgdgbckaaGreatDoor
open Go.RowKit
set_option linter.unusedSimpArgs false
set_option linter.unusedVariables false
abbrev zT : Value := tv 0 ⟨#[]⟩ ⟨#[]⟩ 0 (.slice none 0 0)
set_option maxRecDepth 100000 in
theorem catch_idle (p q r : Nat) (w : World) : CallsD Tryz.prog 35 #[bp p, bp q, bp r] .returning w fun e u' w' => e = .returned (.tuple #[]) ∧ u' = .returning ∧ w' = w := by
  refine callsD_of_wpS Tryz.func35 rfl fun c₀ cs hu => ?_
  apply wpS_seq
  apply wpS_region
  simp [wpOpsS, go_sem, recoverD, hu, Tryz.ntmps35, Exit.thenS]
  have e : (#[bp p, bp q, bp r] ++ ((Array.replicate 20 undef).setIfInBounds 4 Value.nilIface).setIfInBounds 0 Value.nilIface : Array Value) = #[bp p, bp q, bp r, .nilIface, undef, undef, undef, .nilIface, undef, undef, undef, undef, undef, undef, undef, undef, undef, undef, undef, undef, undef, undef, undef] := by kernel_rfl
  rw [e]
  refine wpS_of_wp ?_
  go_wp2
  exact ⟨rfl, .returning, by cases c₀; cases hu; rfl, .tuple #[], by simp [results, Tryz.results35, go_sem], rfl, rfl, rfl⟩
/-- The world behind the deferred call. -/
def catW (w : World) (p q r x y : Nat) : World :=
  ((((set5w w p 0 ⟨#[]⟩ ⟨#[]⟩ 0 (.slice none 0 0)).setCell ⟨q, 0, none⟩ (.int .i64 x)).setCell ⟨r, 0, none⟩ (.int .i64 y)).alloc (.cells #[.int .i64 x, .int .i64 y] 88)).alloc (.cells #[.int .i64 0, .string ⟨#[]⟩, .string ⟨#[]⟩, .int .i64 0, .slice none 0 0] 39)
def CatF (w : World) (p q r x y : Nat) (w' : World) : Prop :=
  w'.heap[p]? = some (.cells #[.int .i64 0, .string ⟨#[]⟩, .string ⟨#[]⟩, .int .i64 0, .slice none 0 0] 39 (0, 0)) ∧ w'.heap[q]? = some (.cells #[.int .i64 x] 3 (0, 0)) ∧ w'.heap[r]? = some (.cells #[.int .i64 y] 30 (0, 0)) ∧
      w'.os = w.os ∧ w'.tape = w.tape ∧ w'.output = w.output ∧ w.heap.size ≤ w'.heap.size ∧ ∀ k, k < w.heap.size → k ≠ p → k ≠ q → k ≠ r → w'.heap[k]? = w.heap[k]?
theorem CatF.drew {w V : World} {p q r x y : Nat} (h : CatF w p q r x y V) : CatF w p q r x y V.drew := h
theorem catF {p q r x y : Nat} {c0 c1 c2 c3 c4 d0 f0 : Value} {w : World} (hp : w.heap[p]? = some (.cells #[c0, c1, c2, c3, c4] 39 (0, 0))) (hq : w.heap[q]? = some (.cells #[d0] 3 (0, 0))) (hr : w.heap[r]? = some (.cells #[f0] 30 (0, 0))) (hpq : p ≠ q) (hpr : p ≠ r) (hqr : q ≠ r)
    (W : World) (hW : W = (catW w p q r x y).drew) : CatF w p q r x y W := by
  rw [hW]
  clear hW
  apply CatF.drew
  have hP := set5w_box hp 0 ⟨#[]⟩ ⟨#[]⟩ 0 (.slice none 0 0)
  have hQ : (set5w w p 0 ⟨#[]⟩ ⟨#[]⟩ 0 (.slice none 0 0)).heap[q]? = some (.cells #[d0] 3 (0, 0)) := by rw [set5w_other (fun e => hpq e.symm)]; exact hq
  have hR : (set5w w p 0 ⟨#[]⟩ ⟨#[]⟩ 0 (.slice none 0 0)).heap[r]? = some (.cells #[f0] 30 (0, 0)) := by rw [set5w_other (fun e => hpr e.symm)]; exact hr
  have hsz : ((((set5w w p 0 ⟨#[]⟩ ⟨#[]⟩ 0 (.slice none 0 0)).setCell ⟨q, 0, none⟩ (.int .i64 (x : Nat))).setCell ⟨r, 0, none⟩ (.int .i64 (y : Nat)))).heap.size = w.heap.size := by simp [set5w, World.setCell]
  unfold catW
  have o1 : ∀ (V : World) (o : Obj), (V.alloc o).os = V.os ∧ (V.alloc o).tape = V.tape ∧ (V.alloc o).output = V.output := fun _ _ => ⟨rfl, rfl, rfl⟩
  have o2 : ∀ (V : World) (a : Addr) (v : Value), (V.setCell a v).os = V.os ∧ (V.setCell a v).tape = V.tape ∧ (V.setCell a v).output = V.output := fun _ _ _ => ⟨rfl, rfl, rfl⟩
  refine ⟨?_, ?_, ?_, by simp only [set5w, o1, o2], by simp only [set5w, o1, o2], by simp only [set5w, o1, o2], by rw [World.size_alloc, World.size_alloc, hsz]; omega, fun k hk h1 h2 h3 => ?_⟩
  · exact hb_alloc (hb_alloc (hb_set_other (hb_set_other hP (a := ⟨q, 0, none⟩) _ hpq) (a := ⟨r, 0, none⟩) _ hpr) _) _
  · exact hb_alloc (hb_alloc (hb_set_other (hb_set_same hQ 0 _) (a := ⟨r, 0, none⟩) _ hqr) _) _
  · exact hb_alloc (hb_alloc (hb_set_same (hb_set_other hR (a := ⟨q, 0, none⟩) _ (fun e => hqr e.symm)) 0 _) _) _
  · rw [Below.heap_alloc _ _ _ (by rw [World.size_alloc, hsz]; omega), Below.heap_alloc _ _ _ (by rw [hsz]; exact hk), Below.heap_setCell _ _ _ _ h3, Below.heap_setCell _ _ _ _ h2]
    exact set5w_other h1
theorem assert_fault (V : Value) (w : World) : (Instr.typeAssert (.iface 88 V) 20 88 true).run Tryz.prog w = .ok (.tuple #[V, .bool true]) w := by kernel_rfl
set_option maxRecDepth 100000 in
set_option maxHeartbeats 2000000 in
theorem catch_panicking (p q r : Nat) (x y : Nat) (older : List PanicEntry) (c0 c1 c2 c3 c4 d0 f0 : Value) (w : World) (hp : w.heap[p]? = some (.cells #[c0, c1, c2, c3, c4] 39 (0, 0))) (hq : w.heap[q]? = some (.cells #[d0] 3 (0, 0))) (hr : w.heap[r]? = some (.cells #[f0] 30 (0, 0))) (hpq : p ≠ q) (hpr : p ≠ r) (hqr : q ≠ r) :
    CallsD Tryz.prog 35 #[bp p, bp q, bp r] (.panicking ({ v := .iface 88 (.agg #[.int .i64 x, .int .i64 y]), recovered := false } :: older)) w fun e u' w' =>
      e = .returned (.tuple #[]) ∧ u' = .panicking ({ v := .iface 88 (.agg #[.int .i64 x, .int .i64 y]), recovered := true } :: older) ∧
      CatF w p q r x y w' := by
  obtain ⟨x0, x1, x2, x3, x4, y0, y1, y2, y3, y4⟩ := box5 hp
  have s0 := hb_at hq 0 rfl
  have s1 := hb_free hq 0
  have t0 := hb_at hr 0 rfl
  have t1 := hb_free hr 0
  have z1 := hb_lt hp
  have z2 := hb_lt hq
  have z3 := hb_lt hr
  refine callsD_of_wpS Tryz.func35 rfl fun c₀ cs hu => ?_
  apply wpS_seq
  apply wpS_region
  simp [wpOpsS, go_sem, recoverD, hu, Tryz.ntmps35, Exit.thenS]
  have e : (#[bp p, bp q, bp r] ++ ((Array.replicate 20 undef).setIfInBounds 4 (Value.iface 88 (.agg #[.int .i64 x, .int .i64 y]))).setIfInBounds 0 (Value.iface 88 (.agg #[.int .i64 x, .int .i64 y])) : Array Value) = #[bp p, bp q, bp r, (Value.iface 88 (.agg #[.int .i64 x, .int .i64 y])), undef, undef, undef, (Value.iface 88 (.agg #[.int .i64 x, .int .i64 y])), undef, undef, undef, undef, undef, undef, undef, undef, undef, undef, undef, undef, undef, undef, undef] := by kernel_rfl
  rw [e]
  clear e
  refine wpS_of_wp ?_
  have ha := assert_fault (.agg #[.int .i64 x, .int .i64 y])
  go_wp2
  go_region_with (fail)
  all_goals
    go_wp2
    exact ⟨rfl, _, rfl, .tuple #[], by simp [results, Tryz.results35, go_sem], rfl, rfl, catF hp hq hr hpq hpr hqr _ rfl⟩
end Go.Proofs.YtlbnaddgdgbckaaGreatDoor
/- Contracts: cmp.Compare, cmp.Or of three, Compare of two versions, the document's Less and Compare, both Gaps. -/
namespace Go.Proofs.YtlbnaddgdgbckaaGreatDoor
open Go.RowKit

namespace Sv
def cmpI (a b : Int) : Int := if a < b then -1 else if b < a then 1 else 0
def orI (a b c : Int) : Int := if a ≠ 0 then a else if b ≠ 0 then b else c
/-- A version. -/
structure V where
  a : Int
  b : Int
  c : Int
deriving DecidableEq
def less (x y : V) : Bool := if x.a ≠ y.a then decide (x.a < y.a) else if x.b ≠ y.b then decide (x.b < y.b) else decide (x.c < y.c)
def cmp (x y : V) : Int := if less x y then -1 else if less y x then 1 else 0
def gap (x y : V) : Int := if x.a ≠ y.a then 3 else if x.b ≠ y.b then 2 else if x.c ≠ y.c then 1 else 0
theorem cmp_or (x y : V) : orI (cmpI x.a y.a) (cmpI x.b y.b) (cmpI x.c y.c) = cmp x y := by
  unfold orI cmpI cmp less
  rcases Int.lt_trichotomy x.a y.a with h | h | h <;> rcases Int.lt_trichotomy x.b y.b with g | g | g <;> rcases Int.lt_trichotomy x.c y.c with k | k | k <;>
    simp [h, g, k, Int.ne_of_lt, Int.ne_of_gt, Int.lt_asymm, Int.lt_irrefl]
end Sv
abbrev vv (x : Sv.V) : Value := .agg #[.int .i64 x.a, .int .i64 x.b, .int .i64 x.c]
abbrev vcells (x : Sv.V) : Array Value := #[.int .i64 x.a, .int .i64 x.b, .int .i64 x.c]

theorem bcellX {W w1 : World} (hb : Below W.heap.size W w1) : (∀ b o, b < W.heap.size → w1.cell? ⟨b, o, none⟩ = W.cell? ⟨b, o, none⟩) ∧ (∀ b o, b < W.heap.size → w1.frozen? ⟨b, o, none⟩ = W.frozen? ⟨b, o, none⟩) :=
  ⟨fun b o h => hb.cell (p := ⟨b, o, none⟩) h, fun b o h => hb.frozen (p := ⟨b, o, none⟩) h⟩
end Go.Proofs.YtlbnaddgdgbckaaGreatDoor
