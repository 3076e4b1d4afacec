
/- Next, case by case. -/
import Derived.Test.YtmgnbpgcbehidaaDoorA5
import Derived.Outline

namespace Go.Proofs.YtmgnbpgcbehidaaDoor
open Go.RowKit
set_option maxRecDepth 100000 in
set_option maxHeartbeats 1000000 in
theorem next_bad0 (x : Sv.V) (g : Int) (h : Sv.right x = false) (w : World) : Calls Tryd.prog 16 #[vv x, .int .i64 g] w fun e w' => e = .returned (nx (Sv.zero, 2)) ∧ Below w.heap.size w w' := by
  have H := Lib.hid h
  clear h
  go_enter Tryd.func16, Tryd.ntmps16
  go_wp2_with (go_at_call 12; refine (right_any _ _).mono ?_; rintro e w1 ⟨rfl, hb1⟩; rw [H.out]; obtain ⟨hc1, hf1⟩ := bcell hb1)
  have z1 := hb1.size
  simp only [World.size_alloc] at z1
  exact bodyPost_ret (v := .tuple #[.agg #[.int .i64 0, .int .i64 0, .int .i64 0], .int .i64 2]) (by simp [results, Tryd.results16, go_sem, hc1]) rfl ⟨rfl, (((((below2 w _ _).trans (hb1.mono (by simp; omega))).setCell (by simp) _).setCell (by simp) _).setCell (by simp) _)⟩
set_option maxRecDepth 100000 in
set_option maxHeartbeats 1000000 in
theorem next_bad1 (x : Sv.V) (g : Int) (h : Sv.right x = true) (h1 : g < 1) (w : World) : Calls Tryd.prog 16 #[vv x, .int .i64 g] w fun e w' => e = .returned (nx (Sv.zero, 2)) ∧ Below w.heap.size w w' := by
  have H := Lib.hid h
  clear h
  go_enter Tryd.func16, Tryd.ntmps16
  go_wp2_with (go_at_call 12; refine (right_any _ _).mono ?_; rintro e w1 ⟨rfl, hb1⟩; rw [H.out]; obtain ⟨hc1, hf1⟩ := bcell hb1)
  have z1 := hb1.size
  simp only [World.size_alloc] at z1
  exact bodyPost_ret (v := .tuple #[.agg #[.int .i64 0, .int .i64 0, .int .i64 0], .int .i64 2]) (by simp [results, Tryd.results16, go_sem, hc1]) rfl ⟨rfl, (((((below2 w _ _).trans (hb1.mono (by simp; omega))).setCell (by simp) _).setCell (by simp) _).setCell (by simp) _)⟩
set_option maxRecDepth 100000 in
set_option maxHeartbeats 1000000 in
theorem next_bad2 (x : Sv.V) (g : Int) (h : Sv.right x = true) (h1 : 3 < g) (w : World) : Calls Tryd.prog 16 #[vv x, .int .i64 g] w fun e w' => e = .returned (nx (Sv.zero, 2)) ∧ Below w.heap.size w w' := by
  have H := Lib.hid h
  have h2 : ¬ g < 1 := by omega
  clear h
  go_enter Tryd.func16, Tryd.ntmps16
  go_wp2_with (go_at_call 12; refine (right_any _ _).mono ?_; rintro e w1 ⟨rfl, hb1⟩; rw [H.out]; obtain ⟨hc1, hf1⟩ := bcell hb1)
  have z1 := hb1.size
  simp only [World.size_alloc] at z1
  exact bodyPost_ret (v := .tuple #[.agg #[.int .i64 0, .int .i64 0, .int .i64 0], .int .i64 2]) (by simp [results, Tryd.results16, go_sem, hc1]) rfl ⟨rfl, (((((below2 w _ _).trans (hb1.mono (by simp; omega))).setCell (by simp) _).setCell (by simp) _).setCell (by simp) _)⟩
set_option maxRecDepth 100000 in
set_option maxHeartbeats 1000000 in
theorem next_full1 (x : Sv.V) (h : Sv.right x = true) (h1 : x.c = 999999) (w : World) : Calls Tryd.prog 16 #[vv x, .int .i64 1] w fun e w' => e = .returned (nx (Sv.zero, 9)) ∧ Below w.heap.size w w' := by
  have H := Lib.hid h
  obtain ⟨⟨a1, a2⟩, ⟨b1, b2⟩, ⟨c1, c2⟩⟩ := Sv.right_yes h
  clear h
  have d1 : (x.c == 999999) = true := by simpa using h1
  clear h1
  go_enter Tryd.func16, Tryd.ntmps16
  go_wp2_with (first
    | (go_at_call 12; refine (right_any _ _).mono ?_; rintro e w1 ⟨rfl, hb1⟩; rw [H.out]; obtain ⟨hc1, hf1⟩ := bcell hb1; have z1 : w.heap.size + 2 ≤ w1.heap.size := by simpa using hb1.size)
    | (go_at_call 23; go_loud (refine (numbersOf_any _ _).mono ?_; rintro e w2 ⟨rfl, hb2⟩; obtain ⟨hc2, hf2⟩ := bcell hb2; have z2 := hb2.size; have y1 : w.heap.size + 1 < w1.heap.size := (by omega); have y2 : w.heap.size + 1 < w2.heap.size := (by omega)))
    | (go_at_call 20; with_reducible refine (version_any (Sv.zero) _).mono ?_; rintro e w3 ⟨rfl, hb3⟩; obtain ⟨hc3, hf3⟩ := bcell hb3; have z3 := hb3.size; simp only [World.size_alloc] at z3; have y3 : w.heap.size + 1 < w2.heap.size + 1 := (by omega)))
  have hB1 : Below w.heap.size w w1 := (below2 w _ _).trans (hb1.mono (by simp; omega))
  have hB2 : Below w.heap.size w w2 := hB1.trans (hb2.mono (by omega))

  exact bodyPost_ret (v := .tuple #[.agg #[.int .i64 0, .int .i64 0, .int .i64 0], .int .i64 9]) (by simp [results, Tryd.results16, go_sem, hc2, hc1, y1, y2]) rfl ⟨rfl, ((((hB2.setCell (by simp) _).setCell (by simp) _).setCell (by simp) _).alloc (by simp; omega) _)⟩
set_option maxRecDepth 100000 in
set_option maxHeartbeats 1000000 in
theorem next_up1 (x : Sv.V) (h : Sv.right x = true) (h1 : x.c ≠ 999999) (w : World) : Calls Tryd.prog 16 #[vv x, .int .i64 1] w fun e w' => e = .returned (nx (⟨x.a, x.b, x.c + 1⟩, 0)) ∧ Below w.heap.size w w' := by
  have H := Lib.hid h
  obtain ⟨⟨a1, a2⟩, ⟨b1, b2⟩, ⟨c1, c2⟩⟩ := Sv.right_yes h
  clear h
  have d1 : (x.c == 999999) = false := by simpa using h1
  clear h1
  go_enter Tryd.func16, Tryd.ntmps16
  go_wp2_with (first
    | (go_at_call 12; refine (right_any _ _).mono ?_; rintro e w1 ⟨rfl, hb1⟩; rw [H.out]; obtain ⟨hc1, hf1⟩ := bcell hb1; have z1 : w.heap.size + 2 ≤ w1.heap.size := by simpa using hb1.size)
    | (go_at_call 23; go_loud (refine (numbersOf_any _ _).mono ?_; rintro e w2 ⟨rfl, hb2⟩; obtain ⟨hc2, hf2⟩ := bcell hb2; have z2 := hb2.size; have y1 : w.heap.size + 1 < w1.heap.size := (by omega); have y2 : w.heap.size + 1 < w2.heap.size := (by omega)))
    | (go_at_call 20; with_reducible refine (version_any (⟨x.a, x.b, x.c + 1⟩) _).mono ?_; rintro e w3 ⟨rfl, hb3⟩; obtain ⟨hc3, hf3⟩ := bcell hb3; have z3 := hb3.size; simp only [World.size_alloc] at z3; have y3 : w.heap.size + 1 < w2.heap.size + 1 := (by omega)))
  have hB1 : Below w.heap.size w w1 := (below2 w _ _).trans (hb1.mono (by simp; omega))
  have hB2 : Below w.heap.size w w2 := hB1.trans (hb2.mono (by omega))

  have hB3 : Below w.heap.size w w3 := (hB2.alloc (by omega) _).trans (hb3.mono (by simp; omega))
  exact bodyPost_ret (v := .tuple #[.agg #[.int .i64 x.a, .int .i64 x.b, .int .i64 (x.c + 1)], .int .i64 0]) (by simp [results, Tryd.results16, go_sem, hc3, hc2, hc1, y1, y2, y3]) rfl ⟨rfl, (((hB3.setCell (by simp) _).setCell (by simp) _).setCell (by simp) _)⟩
set_option maxRecDepth 100000 in
set_option maxHeartbeats 1000000 in
theorem next_full2 (x : Sv.V) (h : Sv.right x = true) (h1 : x.b = 999999) (w : World) : Calls Tryd.prog 16 #[vv x, .int .i64 2] w fun e w' => e = .returned (nx (Sv.zero, 9)) ∧ Below w.heap.size w w' := by
  have H := Lib.hid h
  obtain ⟨⟨a1, a2⟩, ⟨b1, b2⟩, ⟨c1, c2⟩⟩ := Sv.right_yes h
  clear h
  have d1 : (x.b == 999999) = true := by simpa using h1
  clear h1
  go_enter Tryd.func16, Tryd.ntmps16
  go_wp2_with (first
    | (go_at_call 12; refine (right_any _ _).mono ?_; rintro e w1 ⟨rfl, hb1⟩; rw [H.out]; obtain ⟨hc1, hf1⟩ := bcell hb1; have z1 : w.heap.size + 2 ≤ w1.heap.size := by simpa using hb1.size)
    | (go_at_call 23; go_loud (refine (numbersOf_any _ _).mono ?_; rintro e w2 ⟨rfl, hb2⟩; obtain ⟨hc2, hf2⟩ := bcell hb2; have z2 := hb2.size; have y1 : w.heap.size + 1 < w1.heap.size := (by omega); have y2 : w.heap.size + 1 < w2.heap.size := (by omega)))
    | (go_at_call 20; with_reducible refine (version_any (Sv.zero) _).mono ?_; rintro e w3 ⟨rfl, hb3⟩; obtain ⟨hc3, hf3⟩ := bcell hb3; have z3 := hb3.size; simp only [World.size_alloc] at z3; have y3 : w.heap.size + 1 < w2.heap.size + 1 := (by omega)))
  have hB1 : Below w.heap.size w w1 := (below2 w _ _).trans (hb1.mono (by simp; omega))
  have hB2 : Below w.heap.size w w2 := hB1.trans (hb2.mono (by omega))

  exact bodyPost_ret (v := .tuple #[.agg #[.int .i64 0, .int .i64 0, .int .i64 0], .int .i64 9]) (by simp [results, Tryd.results16, go_sem, hc2, hc1, y1, y2]) rfl ⟨rfl, ((((hB2.setCell (by simp) _).setCell (by simp) _).setCell (by simp) _).alloc (by simp; omega) _)⟩
set_option maxRecDepth 100000 in
set_option maxHeartbeats 1000000 in
theorem next_up2 (x : Sv.V) (h : Sv.right x = true) (h1 : x.b ≠ 999999) (w : World) : Calls Tryd.prog 16 #[vv x, .int .i64 2] w fun e w' => e = .returned (nx (⟨x.a, x.b + 1, 0⟩, 0)) ∧ Below w.heap.size w w' := by
  have H := Lib.hid h
  obtain ⟨⟨a1, a2⟩, ⟨b1, b2⟩, ⟨c1, c2⟩⟩ := Sv.right_yes h
  clear h
  have d1 : (x.b == 999999) = false := by simpa using h1
  clear h1
  go_enter Tryd.func16, Tryd.ntmps16
  go_wp2_with (first
    | (go_at_call 12; refine (right_any _ _).mono ?_; rintro e w1 ⟨rfl, hb1⟩; rw [H.out]; obtain ⟨hc1, hf1⟩ := bcell hb1; have z1 : w.heap.size + 2 ≤ w1.heap.size := by simpa using hb1.size)
    | (go_at_call 23; go_loud (refine (numbersOf_any _ _).mono ?_; rintro e w2 ⟨rfl, hb2⟩; obtain ⟨hc2, hf2⟩ := bcell hb2; have z2 := hb2.size; have y1 : w.heap.size + 1 < w1.heap.size := (by omega); have y2 : w.heap.size + 1 < w2.heap.size := (by omega)))
    | (go_at_call 20; with_reducible refine (version_any (⟨x.a, x.b + 1, 0⟩) _).mono ?_; rintro e w3 ⟨rfl, hb3⟩; obtain ⟨hc3, hf3⟩ := bcell hb3; have z3 := hb3.size; simp only [World.size_alloc] at z3; have y3 : w.heap.size + 1 < w2.heap.size + 1 := (by omega)))
  have hB1 : Below w.heap.size w w1 := (below2 w _ _).trans (hb1.mono (by simp; omega))
  have hB2 : Below w.heap.size w w2 := hB1.trans (hb2.mono (by omega))

  have hB3 : Below w.heap.size w w3 := (hB2.alloc (by omega) _).trans (hb3.mono (by simp; omega))
  exact bodyPost_ret (v := .tuple #[.agg #[.int .i64 x.a, .int .i64 (x.b + 1), .int .i64 0], .int .i64 0]) (by simp [results, Tryd.results16, go_sem, hc3, hc2, hc1, y1, y2, y3]) rfl ⟨rfl, (((hB3.setCell (by simp) _).setCell (by simp) _).setCell (by simp) _)⟩
set_option maxRecDepth 100000 in
set_option maxHeartbeats 1000000 in
theorem next_full3 (x : Sv.V) (h : Sv.right x = true) (h1 : x.a = 999999) (w : World) : Calls Tryd.prog 16 #[vv x, .int .i64 3] w fun e w' => e = .returned (nx (Sv.zero, 9)) ∧ Below w.heap.size w w' := by
  have H := Lib.hid h
  obtain ⟨⟨a1, a2⟩, ⟨b1, b2⟩, ⟨c1, c2⟩⟩ := Sv.right_yes h
  clear h
  have d1 : (x.a == 999999) = true := by simpa using h1
  clear h1
  go_enter Tryd.func16, Tryd.ntmps16
  go_wp2_with (first
    | (go_at_call 12; refine (right_any _ _).mono ?_; rintro e w1 ⟨rfl, hb1⟩; rw [H.out]; obtain ⟨hc1, hf1⟩ := bcell hb1; have z1 : w.heap.size + 2 ≤ w1.heap.size := by simpa using hb1.size)
    | (go_at_call 23; go_loud (refine (numbersOf_any _ _).mono ?_; rintro e w2 ⟨rfl, hb2⟩; obtain ⟨hc2, hf2⟩ := bcell hb2; have z2 := hb2.size; have y1 : w.heap.size + 1 < w1.heap.size := (by omega); have y2 : w.heap.size + 1 < w2.heap.size := (by omega)))
    | (go_at_call 20; with_reducible refine (version_any (Sv.zero) _).mono ?_; rintro e w3 ⟨rfl, hb3⟩; obtain ⟨hc3, hf3⟩ := bcell hb3; have z3 := hb3.size; simp only [World.size_alloc] at z3; have y3 : w.heap.size + 1 < w2.heap.size + 1 := (by omega)))
  have hB1 : Below w.heap.size w w1 := (below2 w _ _).trans (hb1.mono (by simp; omega))
  have hB2 : Below w.heap.size w w2 := hB1.trans (hb2.mono (by omega))

  exact bodyPost_ret (v := .tuple #[.agg #[.int .i64 0, .int .i64 0, .int .i64 0], .int .i64 9]) (by simp [results, Tryd.results16, go_sem, hc2, hc1, y1, y2]) rfl ⟨rfl, ((((hB2.setCell (by simp) _).setCell (by simp) _).setCell (by simp) _).alloc (by simp; omega) _)⟩
set_option maxRecDepth 100000 in
set_option maxHeartbeats 1000000 in
theorem next_up3 (x : Sv.V) (h : Sv.right x = true) (h1 : x.a ≠ 999999) (w : World) : Calls Tryd.prog 16 #[vv x, .int .i64 3] w fun e w' => e = .returned (nx (⟨x.a + 1, 0, 0⟩, 0)) ∧ Below w.heap.size w w' := by
  have H := Lib.hid h
  obtain ⟨⟨a1, a2⟩, ⟨b1, b2⟩, ⟨c1, c2⟩⟩ := Sv.right_yes h
  clear h
  have d1 : (x.a == 999999) = false := by simpa using h1
  clear h1
  go_enter Tryd.func16, Tryd.ntmps16
  go_wp2_with (first
    | (go_at_call 12; refine (right_any _ _).mono ?_; rintro e w1 ⟨rfl, hb1⟩; rw [H.out]; obtain ⟨hc1, hf1⟩ := bcell hb1; have z1 : w.heap.size + 2 ≤ w1.heap.size := by simpa using hb1.size)
    | (go_at_call 23; go_loud (refine (numbersOf_any _ _).mono ?_; rintro e w2 ⟨rfl, hb2⟩; obtain ⟨hc2, hf2⟩ := bcell hb2; have z2 := hb2.size; have y1 : w.heap.size + 1 < w1.heap.size := (by omega); have y2 : w.heap.size + 1 < w2.heap.size := (by omega)))
    | (go_at_call 20; with_reducible refine (version_any (⟨x.a + 1, 0, 0⟩) _).mono ?_; rintro e w3 ⟨rfl, hb3⟩; obtain ⟨hc3, hf3⟩ := bcell hb3; have z3 := hb3.size; simp only [World.size_alloc] at z3; have y3 : w.heap.size + 1 < w2.heap.size + 1 := (by omega)))
  have hB1 : Below w.heap.size w w1 := (below2 w _ _).trans (hb1.mono (by simp; omega))
  have hB2 : Below w.heap.size w w2 := hB1.trans (hb2.mono (by omega))

  have hB3 : Below w.heap.size w w3 := (hB2.alloc (by omega) _).trans (hb3.mono (by simp; omega))
  exact bodyPost_ret (v := .tuple #[.agg #[.int .i64 (x.a + 1), .int .i64 0, .int .i64 0], .int .i64 0]) (by simp [results, Tryd.results16, go_sem, hc3, hc2, hc1, y1, y2, y3]) rfl ⟨rfl, (((hB3.setCell (by simp) _).setCell (by simp) _).setCell (by simp) _)⟩
end Go.Proofs.YtmgnbpgcbehidaaDoor
