/- Contracts: ParsePin. -/
import Derived.Test.YtmgnbpgcbehidaaDoorB1
import Derived.Test.YtmgnbpgcbehidaaDoorC1
import Derived.Outline
import Derived.Deep.DeepCutAuto
namespace Go.Proofs.YtmgnbpgcbehidaaDoor
open Go.RowKit
theorem clone_any (s : ByteArray) (hm : s.size ≤ 4194304) (w : World) : Calls Tryd.prog 22 #[.string s] w fun e w' => e = .returned (.string s) ∧ Below w.heap.size w w' := by
  go_enter Tryd.func22, Tryd.ntmps22
  go_wp2_with (go_at_call 31; refine (Tryd.stringslite_Clone s _ (by omega)).mono ?_; rintro e w1 ⟨rfl, hb⟩)
  go_ret
  exact ⟨rfl, hb⟩
namespace Sv
noncomputable def okPin (s : ByteArray) : Bool := okS (cutS s 64).2.1 && pkgB (cutS s 64).1.data.toList
noncomputable def pinV (s : ByteArray) : ByteArray × V × Int := if okPin s then ((cutS s 64).1, (parseS (cutS s 64).2.1).1, 0) else (⟨#[]⟩, zero, 10)
theorem pin_no {s : ByteArray} (h : okPin s = false) : pinV s = (⟨#[]⟩, zero, 10) := by unfold pinV; rw [h]; rfl
theorem pin_yes {s : ByteArray} (h : okPin s = true) : pinV s = ((cutS s 64).1, (parseS (cutS s 64).2.1).1, 0) := by unfold pinV; rw [h]; rfl
end Sv
abbrev pv (x : ByteArray × Sv.V × Int) : Value := .tuple #[.agg #[.string x.1, .int .i64 x.2.1.a, .int .i64 x.2.1.b, .int .i64 x.2.1.c], .int .i64 x.2.2]
set_option maxRecDepth 100000 in
set_option maxHeartbeats 2000000 in
theorem pin_any (s : ByteArray) (hm : s.size ≤ 4194304) (w : World) : Calls Tryd.prog 7 #[.string s] w fun e w' => e = .returned (pv (Sv.pinV s)) ∧ Below w.heap.size w w' := by
  have hs1 : (Sv.cutS s 64).1.size ≤ 4194304 := Nat.le_trans (Sv.cut_sizes s 64).1 hm
  have hs2 : (Sv.cutS s 64).2.1.size ≤ 4194304 := Nat.le_trans (Sv.cut_sizes s 64).2 hm
  have hb1 := hb_new w (.cells #[.string ⟨#[]⟩, .int .i64 0, .int .i64 0, .int .i64 0] 31)
  have HB := Lib.hid hb1
  have q0 := hb_at hb1 0 rfl
  have q1 := hb_at hb1 1 rfl
  have q2 := hb_at hb1 2 rfl
  have q3 := hb_at hb1 3 rfl
  have g0 := hb_free hb1 0
  have g1 := hb_free hb1 1
  have g2 := hb_free hb1 2
  have g3 := hb_free hb1 3
  clear hb1
  have HOK : RowKit.Hid (Sv.okPin s = (Sv.okS (Sv.cutS s 64).2.1 && Sv.pkgB (Sv.cutS s 64).1.data.toList)) := Lib.hid rfl
  have HPY : RowKit.Hid (Sv.okPin s = true → Sv.pinV s = ((Sv.cutS s 64).1, (Sv.parseS (Sv.cutS s 64).2.1).1, 0)) := Lib.hid Sv.pin_yes
  have HC : RowKit.Hid (∀ w, Calls Tryd.prog 18 #[.string s, .string ⟨#[64]⟩] w fun e w' => e = .returned (.tuple #[.string (Sv.cutS s 64).1, .string (Sv.cutS s 64).2.1, .bool (Sv.cutS s 64).2.2]) ∧ Drew w w') := Lib.hid (cut33_any s 64 hm)
  generalize (Sv.cutS s 64).1 = P at *
  generalize (Sv.cutS s 64).2.1 = V at *
  generalize (Sv.cutS s 64).2.2 = B at *
  rcases Bool.eq_false_or_eq_true (Sv.okS V) with ho | ho
  rotate_left
  · have hp := parse_fail ho
    have HP : RowKit.Hid (∀ w, Calls Tryd.prog 5 #[.string V] w fun e w' => e = .returned (.tuple #[.agg #[.int .i64 0, .int .i64 0, .int .i64 0], .int .i64 10]) ∧ Below w.heap.size w w') := Lib.hid (fun w => by have := parse_any V hs2 w; rw [hp] at this; exact this)
    have HN : RowKit.Hid (Sv.okPin s = false) := Lib.hid (by rw [HOK.out, ho]; rfl)
    clear ho hp
    go_enter Tryd.func7, Tryd.ntmps7
    go_upto_region 3 with (first
      | (go_at_call 18; ((with_reducible refine (HC.out _).mono ?_); rintro e w1 ⟨rfl, nd, rfl⟩))
      | (go_at_call 5; ((with_reducible refine (HP.out _).mono ?_); rintro e w2 ⟨rfl, hb2⟩)))
    have HBL : RowKit.Hid (Below w.heap.size w (w2.alloc (.cells #[.int .i64 0, .int .i64 0, .int .i64 0] 23))) := Lib.hid (by
      have h1 : Below w.heap.size w w2 := (below_drewN (below_alloc w _) nd).trans (hb2.mono (by simp))
      exact h1.trans ((below_alloc w2 _).mono h1.size))
    have HX := Lib.hid (hb_alloc (hb_below (hb_drewN HB.out nd) hb2 (by simp)) (.cells #[.int .i64 0, .int .i64 0, .int .i64 0] 23))
    have HY := Lib.hid (hb_new w2 (.cells #[.int .i64 0, .int .i64 0, .int .i64 0] 23))
    have hz2 := hb2.size
    simp at hz2
    have HZ := Lib.hid hz2
    clear hb2 hz2 q0 q1 q2 q3 g0 g1 g2 g3
    generalize hW : w2.alloc (.cells #[.int .i64 0, .int .i64 0, .int .i64 0] 23) = W at *
    have HSZ : RowKit.Hid (W.heap.size = w2.heap.size + 1) := Lib.hid (by rw [← hW]; simp)
    clear hW
    have x0 := hb_at HX.out 0 rfl
    have x1 := hb_at HX.out 1 rfl
    have x2 := hb_at HX.out 2 rfl
    have x3 := hb_at HX.out 3 rfl
    have f0 := hb_free HX.out 0
    have f1 := hb_free HX.out 1
    have f2 := hb_free HX.out 2
    have f3 := hb_free HX.out 3
    go_wp2
    exact bodyPost_ret (v := .tuple #[.agg #[.string ⟨#[]⟩, .int .i64 0, .int .i64 0, .int .i64 0], .int .i64 10]) (by simp [results, Tryd.results7, go_sem, x0, x1, x2, x3]) rfl ⟨by rw [Sv.pin_no HN.out]; rfl, ((((HBL.out.setCell (by simp) _).setCell (by simp) _).setCell (by simp) _).setCell (by simp) _)⟩
  · have hp := parse_good ho
    have HP : RowKit.Hid (∀ w, Calls Tryd.prog 5 #[.string V] w fun e w' => e = .returned (.tuple #[.agg #[.int .i64 (Sv.nv V : Nat), .int .i64 (Sv.nv (Sv.r V) : Nat), .int .i64 (Sv.nv (Sv.r (Sv.r V)) : Nat)], .int .i64 0]) ∧ Below w.heap.size w w') := Lib.hid (fun w => by have := parse_any V hs2 w; rw [hp] at this; exact this)
    have HPV : RowKit.Hid ((Sv.parseS V).1 = ⟨Sv.nv V, Sv.nv (Sv.r V), Sv.nv (Sv.r (Sv.r V))⟩) := Lib.hid (by rw [hp])
    generalize Sv.nv V = n1 at *
    generalize Sv.nv (Sv.r V) = n2 at *
    generalize Sv.nv (Sv.r (Sv.r V)) = n3 at *
    rcases Bool.eq_false_or_eq_true (Sv.pkgB P.data.toList) with hg | hg
    rotate_left
    · have HN : RowKit.Hid (Sv.okPin s = false) := Lib.hid (by rw [HOK.out, hg]; simp)
      have HI : RowKit.Hid (∀ w, Calls Tryd.prog 14 #[.string P] w fun e w' => e = .returned (.bool false) ∧ w = w') := Lib.hid (fun w => by have := isPkg_any P w; rw [hg] at this; exact this)
      clear ho hp hg
      go_enter Tryd.func7, Tryd.ntmps7
      go_upto_region 3 with (first
        | (go_at_call 18; ((with_reducible refine (HC.out _).mono ?_); rintro e w1 ⟨rfl, nd, rfl⟩))
        | (go_at_call 5; ((with_reducible refine (HP.out _).mono ?_); rintro e w2 ⟨rfl, hb2⟩)))
      have HBL : RowKit.Hid (Below w.heap.size w (w2.alloc (.cells #[.int .i64 (n1 : Nat), .int .i64 (n2 : Nat), .int .i64 (n3 : Nat)] 23))) := Lib.hid (by
        have h1 : Below w.heap.size w w2 := (below_drewN (below_alloc w _) nd).trans (hb2.mono (by simp))
        exact h1.trans ((below_alloc w2 _).mono h1.size))
      have HX := Lib.hid (hb_alloc (hb_below (hb_drewN HB.out nd) hb2 (by simp)) (.cells #[.int .i64 (n1 : Nat), .int .i64 (n2 : Nat), .int .i64 (n3 : Nat)] 23))
      have HY := Lib.hid (hb_new w2 (.cells #[.int .i64 (n1 : Nat), .int .i64 (n2 : Nat), .int .i64 (n3 : Nat)] 23))
      have hz2 := hb2.size
      simp at hz2
      have HZ := Lib.hid hz2
      clear hb2 hz2 q0 q1 q2 q3 g0 g1 g2 g3
      generalize hW : w2.alloc (.cells #[.int .i64 (n1 : Nat), .int .i64 (n2 : Nat), .int .i64 (n3 : Nat)] 23) = W at *
      have HSZ : RowKit.Hid (W.heap.size = w2.heap.size + 1) := Lib.hid (by rw [← hW]; simp)
      clear hW
      have x0 := hb_at HX.out 0 rfl
      have x1 := hb_at HX.out 1 rfl
      have x2 := hb_at HX.out 2 rfl
      have x3 := hb_at HX.out 3 rfl
      have f0 := hb_free HX.out 0
      have f1 := hb_free HX.out 1
      have f2 := hb_free HX.out 2
      have f3 := hb_free HX.out 3
      go_wp2_with (go_at_call 14; ((with_reducible refine (HI.out _).mono ?_); rintro e w3 ⟨rfl, rfl⟩))
      exact bodyPost_ret (v := .tuple #[.agg #[.string ⟨#[]⟩, .int .i64 0, .int .i64 0, .int .i64 0], .int .i64 10]) (by simp [results, Tryd.results7, go_sem, x0, x1, x2, x3]) rfl ⟨by rw [Sv.pin_no HN.out]; rfl, ((((HBL.out.setCell (by simp) _).setCell (by simp) _).setCell (by simp) _).setCell (by simp) _)⟩
    · have HN : RowKit.Hid (Sv.okPin s = true) := Lib.hid (by rw [HOK.out, ho, hg]; rfl)
      have HI : RowKit.Hid (∀ w, Calls Tryd.prog 14 #[.string P] w fun e w' => e = .returned (.bool true) ∧ w = w') := Lib.hid (fun w => by have := isPkg_any P w; rw [hg] at this; exact this)
      clear ho hp hg
      go_enter Tryd.func7, Tryd.ntmps7
      go_upto_region 3 with (first
        | (go_at_call 18; ((with_reducible refine (HC.out _).mono ?_); rintro e w1 ⟨rfl, nd, rfl⟩))
        | (go_at_call 5; ((with_reducible refine (HP.out _).mono ?_); rintro e w2 ⟨rfl, hb2⟩)))
      have HBL : RowKit.Hid (Below w.heap.size w (w2.alloc (.cells #[.int .i64 (n1 : Nat), .int .i64 (n2 : Nat), .int .i64 (n3 : Nat)] 23))) := Lib.hid (by
        have h1 : Below w.heap.size w w2 := (below_drewN (below_alloc w _) nd).trans (hb2.mono (by simp))
        exact h1.trans ((below_alloc w2 _).mono h1.size))
      have HX := Lib.hid (hb_alloc (hb_below (hb_drewN HB.out nd) hb2 (by simp)) (.cells #[.int .i64 (n1 : Nat), .int .i64 (n2 : Nat), .int .i64 (n3 : Nat)] 23))
      have HY := Lib.hid (hb_new w2 (.cells #[.int .i64 (n1 : Nat), .int .i64 (n2 : Nat), .int .i64 (n3 : Nat)] 23))
      have hz2 := hb2.size
      simp at hz2
      have HZ := Lib.hid hz2
      clear hb2 hz2 q0 q1 q2 q3 g0 g1 g2 g3
      generalize hW : w2.alloc (.cells #[.int .i64 (n1 : Nat), .int .i64 (n2 : Nat), .int .i64 (n3 : Nat)] 23) = W at *
      have HSZ : RowKit.Hid (W.heap.size = w2.heap.size + 1) := Lib.hid (by rw [← hW]; simp)
      clear hW
      have x0 := hb_at HX.out 0 rfl
      have x1 := hb_at HX.out 1 rfl
      have x2 := hb_at HX.out 2 rfl
      have x3 := hb_at HX.out 3 rfl
      have f0 := hb_free HX.out 0
      have f1 := hb_free HX.out 1
      have f2 := hb_free HX.out 2
      have f3 := hb_free HX.out 3
      have y0 := hb_at HY.out 0 rfl
      have y1 := hb_at HY.out 1 rfl
      have y2 := hb_at HY.out 2 rfl
      go_upto_region 5 with (go_at_call 14; ((with_reducible refine (HI.out _).mono ?_); rintro e w3 ⟨rfl, rfl⟩))
      have hlt1 : w.heap.size < W.heap.size := by have := HSZ.out; have := HZ.out; omega
      have hlt2 : w2.heap.size < W.heap.size := by have := HSZ.out; omega
      go_region_with (go_at_call 22; ((with_reducible refine (clone_any P hs1 _).mono ?_); rintro e w3 ⟨rfl, hb3⟩; have K1 := hb_below (by exact HX.out) hb3 hlt1; have K2 := hb_below (by exact HY.out) hb3 hlt2; have a0 := hb_at K1 0 rfl; have a1 := hb_at K1 1 rfl; have a2 := hb_at K1 2 rfl; have a3 := hb_at K1 3 rfl; have b0 := hb_free K1 0; have b1 := hb_free K1 1; have b2 := hb_free K1 2; have b3 := hb_free K1 3; have c0 := hb_at K2 0 rfl; have c1 := hb_at K2 1 rfl; have c2 := hb_at K2 2 rfl; have HK := Lib.hid K1; have HB3 := Lib.hid hb3; clear K1 K2 hb3))
      all_goals
        go_wp2
        have hsz : w.heap.size ≤ W.heap.size := Nat.le_of_lt hlt1
        have hB : Below w.heap.size w w3 := (below_drewN HBL.out _).trans (HB3.out.mono hsz)
        exact bodyPost_ret (v := .tuple #[.agg #[.string P, .int .i64 (n1 : Nat), .int .i64 (n2 : Nat), .int .i64 (n3 : Nat)], .int .i64 0]) (by simp [results, Tryd.results7, go_sem, a0, a1, a2, a3]) rfl ⟨by rw [HPY.out HN.out, HPV.out], by first | exact ((((hB.setCell (by simp) _).setCell (by simp) _).setCell (by simp) _).setCell (by simp) _) | exact (((((below_drewN hB _).setCell (by simp) _).setCell (by simp) _).setCell (by simp) _).setCell (by simp) _)⟩
end Go.Proofs.YtmgnbpgcbehidaaDoor
