
/- The chapter's examples. -/
import Derived.Test.YtknbhnicmgglbaaDoorYc
import Derived.Test.YtknbhnicmgglbaaDoorYd
import Derived.Test.YtknbhnicmgglbaaDoorT3
namespace Go.Proofs.YtknbhnicmgglbaaDoor
open Go.RowKit
def P0 : ByteArray → Option Tm := fun _ => none
theorem ab_ne : tB ≠ tA := by decide
/-- 'a -> 'b is above 'a -> 'a. -/
theorem mt_yes : Mt [(funT tA tB, funT tA tA)] (fun _ => none) true := by
  refine Mt.go (by decide) rfl ?_
  refine Mt.new (p := ⟨#[]⟩) (n := tB) (N := 0) (l := []) (s := vT tA) (rest := [(vT tA, vT tA)]) rfl ?_
  refine Mt.new (p := ⟨#[]⟩) (n := tA) (N := 0) (l := []) (s := vT tA) (rest := []) ?_ Mt.done
  unfold upV
  rw [if_neg (by decide)]
/-- .. and not the other way. -/
theorem mt_no : Mt [(funT tA tA, funT tA tB)] (fun _ => none) false := by
  refine Mt.go (by decide) rfl ?_
  refine Mt.new (p := ⟨#[]⟩) (n := tA) (N := 0) (l := []) (s := vT tB) (rest := [(vT tA, vT tA)]) rfl ?_
  refine Mt.clash (p := ⟨#[]⟩) (n := tA) (N := 0) (l := []) (s := vT tA) (y := vT tB) (rest := []) ?_ ?_
  · unfold upV
    rw [if_pos rfl]
  · unfold vT
    intro h
    injection h with _ _ h
    exact ab_ne h
theorem two_fun {w : World} {va vb : Value} {a b c d : ByteArray} (h1 : IsT w 2 va (funT a b)) (h2 : IsT w 2 vb (funT c d)) : Two w 2 va vb (funT a b) (funT c d) :=
  ⟨h1, h2, by simp [Sm, funT], by simp [Sm, funT], by simp [tszN, funT], by simp [tszN, funT]⟩
def AliveP (w : World) (e : Ending) (w' : World) : Prop := e = .returned (.bool true) ∧ Below w.heap.size w w'
set_option maxRecDepth 100000 in
set_option maxHeartbeats 4000000 in
theorem alive_any (w : World) : Calls Tryd.prog 6 #[] w (AliveP w) := by
  have hA : tA.size ≤ maxLen := by decide
  have hB : tB.size ≤ maxLen := by decide
  have F1 := Lib.hid (fun W => fun_any tB tA hB hA W)
  have F2 := Lib.hid (fun W => fun_any tA tB hA hB W)
  have F3 := Lib.hid (fun W => fun_any tA tA hA hA W)
  have HBL := Lib.hid (Below.refl w.heap.size w)
  clear hA hB
  go_enter Tryd.func6, Tryd.ntmps6
  go_wp2_with (first
    | (go_at_call 19; (with_reducible refine (F1.out _).mono ?_); rintro e w1 ⟨q1, c1, rfl, hi, hb⟩; have HBL := Lib.hid (HBL.out.trans (hb.mono HBL.out.size)); have HI1 := Lib.hid hi; clear hi hb)
    | (go_at_call 16; (with_reducible refine (canon_any q1 c1 _ HI1.out).mono ?_); rintro e w2 ⟨q2, c2, d2, rfl, hi, hb⟩; have HBL := Lib.hid (HBL.out.trans (hb.mono HBL.out.size)); have HI2 := Lib.hid hi; clear hi hb)
    | (go_at_call 19; (with_reducible refine (F2.out _).mono ?_); rintro e w3 ⟨q3, c3, rfl, hi, hb⟩; have HBL := Lib.hid (HBL.out.trans (hb.mono HBL.out.size)); (try have HI2 := Lib.hid (HI2.out.below hb)); have HIab := Lib.hid hi; (try have HIaa := Lib.hid (HIaa.out.below hb)); clear hi hb)
    | (go_at_call 19; (with_reducible refine (F3.out _).mono ?_); rintro e w4 ⟨q4, c4, rfl, hi, hb⟩; have HBL := Lib.hid (HBL.out.trans (hb.mono HBL.out.size)); have HIab := Lib.hid (HIab.out.below hb); have HIaa := Lib.hid hi; clear hi hb)
    | (go_at_call 13; (with_reducible refine (refSame_any (d2 + 2) _ _ _ _ _ (HI2.out.more (by omega)) (HIab.out.more (by omega))).mono ?_); rintro e w5 ⟨he, hb⟩; rw [same_self] at he; subst he; have HBL := Lib.hid (HBL.out.trans (hb.mono HBL.out.size)); have HIab := Lib.hid (HIab.out.below hb); clear hb)
    | (go_at_call 10; (with_reducible refine (above_any 2 _ _ _ _ _ (two_fun HIab.out HIaa.out)).mono ?_); rintro e w6 ⟨r6, rfl, hm, hb⟩; obtain rfl := hm.det mt_yes; have HBL := Lib.hid (HBL.out.trans (hb.mono HBL.out.size)); have HIab := Lib.hid (HIab.out.below hb); clear hm hb)
    | (go_at_call 10; (with_reducible refine (above_any 2 _ _ _ _ _ (two_fun HIaa.out HIab.out)).mono ?_); rintro e w7 ⟨r7, rfl, hm, hb⟩; obtain rfl := hm.det mt_no; have HBL := Lib.hid (HBL.out.trans (hb.mono HBL.out.size)); clear hm hb)
    | (go_at_call 20; (with_reducible refine (name27 _).mono ?_); rintro e w8 ⟨rfl, rfl⟩))
  go_ret
  exact ⟨rfl, HBL.out⟩
end Go.Proofs.YtknbhnicmgglbaaDoor
