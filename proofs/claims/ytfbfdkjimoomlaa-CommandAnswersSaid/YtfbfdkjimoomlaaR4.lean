/- Contract: the document's read of a pin. -/
import Derived.Test.YtfbfdkjimoomlaaR3
namespace Go.Proofs.Ytfbfdkjimoomlaa
open Go.RowKit
theorem Rq.alloc {w : World} {R : Nat} {st : Option (List UInt8)} (h : Rq w R st) (o : Obj) : Rq (w.alloc o) R st := h.kept (fun x hx => hb_alloc hx o)
theorem Rq.set {w : World} {R : Nat} {st : Option (List UInt8)} (h : Rq w R st) (a : Addr) (v : Value) (hn : R ≠ a.block) : Rq (w.setCell a v) R st := h.kept (fun x hx => hb_set_other hx v hn)
set_option maxRecDepth 100000 in
set_option maxHeartbeats 4000000 in
theorem refRead_any (R : Nat) (st : Cm.St) (hst : ∀ l, st = some l → l.length ≤ 1000000) (w : World) (h : Rq w R st) : Calls Try.prog 42 #[.pointer (some ⟨R, 0, none⟩)] w fun e w' => e = .returned (pinv (Cm.rdPin Cm.sm st).1) ∧ Rq w' R (Cm.rdPin Cm.sm st).2 ∧ w.grownBy w' (some R) := by
  have HLEN := Lib.hid hst
  have hRl := h.lt
  have HR0 := Lib.hid (h.alloc (.cells #[.string ⟨#[]⟩, .int .i64 0, .int .i64 0, .int .i64 0] 25))
  have HGA : RowKit.Hid (w.grownBy (w.alloc (.cells #[.string ⟨#[]⟩, .int .i64 0, .int .i64 0, .int .i64 0] 25)) (some R)) := Lib.hid (below_grown (below_alloc w _) _)
  have HK0 := Lib.hid (hb_new w (.cells #[.string ⟨#[]⟩, .int .i64 0, .int .i64 0, .int .i64 0] 25))
  have HE : RowKit.Hid (Cm.rdPin Cm.sm st = (⟨str (Cx.spT st).1, ⟨Cm.sm (Cx.spU (Cx.spT st).2).1, Cm.sm (Cx.spU (Cx.spU (Cx.spT st).2).2).1, Cm.sm (Cx.spU (Cx.spU (Cx.spU (Cx.spT st).2).2).2).1⟩⟩, (Cx.spU (Cx.spU (Cx.spU (Cx.spT st).2).2).2).2)) := Lib.hid rfl
  clear h hst
  go_enter Try.func42, Try.ntmps42
  go_upto_region 2 with (go_at_call 43; ((with_reducible refine (qT_any R st (HLEN.out) _ (by exact HR0.out)).mono ?_); rintro e w1 ⟨rfl, h1, hg1⟩; have HR1 := Lib.hid h1; have HG1 := Lib.hid hg1; clear h1 hg1))
  have hz1 : w.heap.size < w1.heap.size := Nat.lt_of_lt_of_le (by simp) HG1.out.size
  have HK1 := Lib.hid (hb_grown HK0.out HG1.out (by simp; omega))
  have hP := hb_new w1 (.cells #[.string (str (Cx.spT st).1), .int .i64 0, .int .i64 0, .int .i64 0] 25)
  have HP1 := Lib.hid hP
  have HRA := Lib.hid (HR1.out.alloc (.cells #[.string (str (Cx.spT st).1), .int .i64 0, .int .i64 0, .int .i64 0] 25))
  have HGW1 : RowKit.Hid (w.grownBy w1 (some R)) := Lib.hid (HGA.out.trans HG1.out)
  have HGA1 : RowKit.Hid (w.grownBy (w1.alloc (.cells #[.string (str (Cx.spT st).1), .int .i64 0, .int .i64 0, .int .i64 0] 25)) (some R)) := Lib.hid (HGW1.out.trans (below_grown (below_alloc w1 _) _))
  have HKA := Lib.hid (hb_alloc HK1.out (.cells #[.string (str (Cx.spT st).1), .int .i64 0, .int .i64 0, .int .i64 0] 25))
  have hR1 : R < w1.heap.size := by omega
  clear hP HK1 HR1 HG1 HGA HR0 HK0
  have y1 := spU_lt (Cx.spT st).2
  have y2 := spU_lt (Cx.spU (Cx.spT st).2).2
  have y3 := spU_lt (Cx.spU (Cx.spU (Cx.spT st).2).2).2
  go_upto_region 3 with (first
    | (go_at_call 41; ((with_reducible refine (qU_any R (Cx.spT st).2 _ (by exact HRA.out)).mono ?_); rintro e w2 ⟨rfl, h2, hg2⟩; have HR2 := Lib.hid h2; have HG2 := Lib.hid hg2; clear h2 hg2; have hP2 := hb_grown HP1.out HG2.out (by simp; omega); have p1 := hb_at hP2 1 rfl; have f1 := hb_free hP2 1; have HP2 := Lib.hid hP2; clear hP2))
    | (go_at_call 40; ((with_reducible refine (refSmall_any _ y1 _).mono ?_); rintro e w' ⟨rfl, rfl⟩)))
  clear p1 f1
  have HP2' := Lib.hid (hb_set_same HP2.out 1 (.int .i64 (Cm.sm (Cx.spU (Cx.spT st).2).1)))
  have HK2 := Lib.hid (hb_set_other (hb_grown HKA.out HG2.out (by simp; omega)) (a := ⟨w1.heap.size, 1, none⟩) (.int .i64 (Cm.sm (Cx.spU (Cx.spT st).2).1)) (by simp; omega))
  have HRA2 := Lib.hid (HR2.out.set ⟨w1.heap.size, 1, none⟩ (.int .i64 (Cm.sm (Cx.spU (Cx.spT st).2).1)) (by simp; omega))
  have HGA2 := Lib.hid (grown_set_new (HGA1.out.trans HG2.out) ⟨w1.heap.size, 1, none⟩ (.int .i64 (Cm.sm (Cx.spU (Cx.spT st).2).1)) (by simp; omega))
  clear HP1 HKA HRA HGA1 HP2 HR2 HG2
  go_upto_region 4 with (first
    | (go_at_call 41; ((with_reducible refine (qU_any R (Cx.spU (Cx.spT st).2).2 _ (by exact HRA2.out)).mono ?_); rintro e w3 ⟨rfl, h3, hg3⟩; have HR3 := Lib.hid h3; have HG3 := Lib.hid hg3; clear h3 hg3; have hP3 := hb_grown HP2'.out HG3.out (by simp; omega); have p2 := hb_at hP3 2 rfl; have f2 := hb_free hP3 2; have HP3 := Lib.hid hP3; clear hP3))
    | (go_at_call 40; ((with_reducible refine (refSmall_any _ y2 _).mono ?_); rintro e w' ⟨rfl, rfl⟩)))
  clear p2 f2
  have HP3' := Lib.hid (hb_set_same HP3.out 2 (.int .i64 (Cm.sm (Cx.spU (Cx.spU (Cx.spT st).2).2).1)))
  have HK3 := Lib.hid (hb_set_other (hb_grown HK2.out HG3.out (by simp; omega)) (a := ⟨w1.heap.size, 2, none⟩) (.int .i64 (Cm.sm (Cx.spU (Cx.spU (Cx.spT st).2).2).1)) (by simp; omega))
  have HRA3 := Lib.hid (HR3.out.set ⟨w1.heap.size, 2, none⟩ (.int .i64 (Cm.sm (Cx.spU (Cx.spU (Cx.spT st).2).2).1)) (by simp; omega))
  have HGA3 := Lib.hid (grown_set_new (HGA2.out.trans HG3.out) ⟨w1.heap.size, 2, none⟩ (.int .i64 (Cm.sm (Cx.spU (Cx.spU (Cx.spT st).2).2).1)) (by simp; omega))
  clear HP2' HK2 HRA2 HGA2 HP3 HR3 HG3
  go_upto_region 5 with (first
    | (go_at_call 41; ((with_reducible refine (qU_any R (Cx.spU (Cx.spU (Cx.spT st).2).2).2 _ (by exact HRA3.out)).mono ?_); rintro e w4 ⟨rfl, h4, hg4⟩; have HR4 := Lib.hid h4; have HG4 := Lib.hid hg4; clear h4 hg4; have hP4 := hb_grown HP3'.out HG4.out (by simp; omega); have p3 := hb_at hP4 3 rfl; have f3 := hb_free hP4 3; have HP4 := Lib.hid hP4; clear hP4))
    | (go_at_call 40; ((with_reducible refine (refSmall_any _ y3 _).mono ?_); rintro e w' ⟨rfl, rfl⟩)))
  clear p3 f3
  have hP4 := hb_set_same HP4.out 3 (.int .i64 (Cm.sm (Cx.spU (Cx.spU (Cx.spU (Cx.spT st).2).2).2).1))
  have hK4 := hb_set_other (hb_grown HK3.out HG4.out (by simp; omega)) (a := ⟨w1.heap.size, 3, none⟩) (.int .i64 (Cm.sm (Cx.spU (Cx.spU (Cx.spU (Cx.spT st).2).2).2).1)) (by simp; omega)
  have HRA4 := Lib.hid (HR4.out.set ⟨w1.heap.size, 3, none⟩ (.int .i64 (Cm.sm (Cx.spU (Cx.spU (Cx.spU (Cx.spT st).2).2).2).1)) (by simp; omega))
  have HGA4 := Lib.hid (grown_set_new (HGA3.out.trans HG4.out) ⟨w1.heap.size, 3, none⟩ (.int .i64 (Cm.sm (Cx.spU (Cx.spU (Cx.spU (Cx.spT st).2).2).2).1)) (by simp; omega))
  clear HP3' HK3 HRA3 HGA3 HP4 HR4 HG4 y1 y2 y3
  generalize hWW : w4.setCell ⟨w1.heap.size, 3, none⟩ (.int .i64 (Cm.sm (Cx.spU (Cx.spU (Cx.spU (Cx.spT st).2).2).2).1)) = W at *
  have HWW := Lib.hid hWW
  clear hWW
  have q0 := hb_at hP4 0 rfl
  have q1 := hb_at hP4 1 rfl
  have q2 := hb_at hP4 2 rfl
  have q3 := hb_at hP4 3 rfl
  have d0 := hb_at hK4 0 rfl
  have d1 := hb_at hK4 1 rfl
  have d2 := hb_at hK4 2 rfl
  have d3 := hb_at hK4 3 rfl
  have g0 := hb_free hK4 0
  have g1 := hb_free hK4 1
  have g2 := hb_free hK4 2
  have g3 := hb_free hK4 3
  clear hP4 hK4
  go_wp2
  exact bodyPost_ret (v := pinv (Cm.rdPin Cm.sm st).1) (by rw [HE.out]; simp [results, Try.results42, go_sem, d0, d1, d2, d3]) rfl ⟨rfl, by rw [HE.out]; exact (((HRA4.out.set _ _ (by simp; omega)).set _ _ (by simp; omega)).set _ _ (by simp; omega)).set _ _ (by simp; omega),
    grown_set_new (grown_set_new (grown_set_new (grown_set_new HGA4.out _ _ (Nat.le_refl _)) _ _ (Nat.le_refl _)) _ _ (Nat.le_refl _)) _ _ (Nat.le_refl _)⟩
end Go.Proofs.Ytfbfdkjimoomlaa
