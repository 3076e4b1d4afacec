/- Contracts: a reader's pin; NewReader. -/
import Derived.Test.YtfbfdkjimoomlaaR2
namespace Go.Proofs.Ytfbfdkjimoomlaa
open Go.RowKit
theorem newReader_any (s : ByteArray) (w : World) : Calls Try.prog 35 #[.string s] w fun e w' => e = .returned (.pointer (some ⟨w.heap.size, 0, none⟩)) ∧ w' = w.alloc (.cells #[.string s, .bool true] 105) := by
  go_enter Try.func35, Try.ntmps35
  go_wp2
  go_ret
  exact ⟨rfl, rfl⟩
theorem cell_grown {w w' : World} {V i X : Nat} {v : Value} (h : w.cell? ⟨V, i, none⟩ = some v) (hg : w.grownBy w' (some X)) (hne : V ≠ X) : w'.cell? ⟨V, i, none⟩ = some v := by
  have hl := block_lt_of_cell h
  rw [World.cell?_of_block (w := w) (hg.block V hl (by simp; omega)), h]
theorem cell_set_other {w : World} {V i : Nat} {v x : Value} {a : Addr} (h : w.cell? ⟨V, i, none⟩ = some v) (hne : V ≠ a.block) : (w.setCell a x).cell? ⟨V, i, none⟩ = some v := by
  rw [World.cell?_of_block (w := w) (Below.heap_setCell w a x V hne), h]
theorem grown_set_new {w w' : World} {row : Option Nat} (h : w.grownBy w' row) (a : Addr) (v : Value) (ha : w.heap.size ≤ a.block) : w.grownBy (w'.setCell a v) row :=
  ⟨h.os, h.tape, h.output, by simpa [World.setCell] using h.size, fun k hk hne => by rw [Below.heap_setCell w' a v k (by omega)]; exact h.block k hk hne⟩
theorem Rd.drew {w : World} {R : Nat} {st : Option (List UInt8)} (h : Rd w R st) : Rd w.drew R st := h.kept (fun x hx => hx)
theorem Rd.alloc {w : World} {R : Nat} {st : Option (List UInt8)} (h : Rd w R st) (o : Obj) : Rd (w.alloc o) R st := h.kept (fun x hx => hb_alloc hx o)
theorem spT_len {st : Option (List UInt8)} {N : Nat} (h : ∀ l, st = some l → l.length ≤ N) : ∀ l, (Cx.spT st).2 = some l → l.length ≤ N := by
  intro l hl
  have e := Cm.spT_back hl
  have := h _ e
  simp only [List.length_append] at this
  omega
theorem spU_len {st : Option (List UInt8)} {N : Nat} (h : ∀ l, st = some l → l.length ≤ N) : ∀ l, (Cx.spU st).2 = some l → l.length ≤ N := by
  intro l hl
  have e := (Cm.spU_back hl).1
  have := h _ e
  simp only [List.length_append] at this
  omega
theorem wrap_wr {x : Nat} (h : x < 18446744073709551616) : IntKind.i64.wrap (x : Int) = Cm.wr64 x := by
  unfold Cm.wr64
  split
  · exact IntWalk.i64_in _ (by omega)
  · simp only [IntKind.wrap, IntKind.bits, IntKind.signed, Bool.true_and, decide_eq_true_eq, show (2 : Int) ^ 64 = 18446744073709551616 from rfl, show (2 : Int) ^ (64 - 1) = 9223372036854775808 from rfl]
    split <;> omega
set_option maxRecDepth 100000 in
set_option maxHeartbeats 4000000 in
theorem rdPin_any (X R : Nat) (st : Cm.St) (hst : ∀ l, st = some l → l.length ≤ 1000000) (w : World) (hX : w.heap[X]? = some (.cells #[.pointer (some ⟨R, 0, none⟩)] 80 (0, 0))) (h : Rd w R st) (hXR : X ≠ R) : Calls Try.prog 37 #[.pointer (some ⟨X, 0, none⟩)] w fun e w' => e = .returned (pinv (Cm.rdPin Cm.wr64 st).1) ∧ Rd w' R (Cm.rdPin Cm.wr64 st).2 ∧ w.grownBy w' (some R) := by
  have HLEN := Lib.hid hst
  have HR0 := Lib.hid (h.alloc (.cells #[.string ⟨#[]⟩, .int .i64 0, .int .i64 0, .int .i64 0] 25)).drew
  have hX0 : (w.alloc (.cells #[.string ⟨#[]⟩, .int .i64 0, .int .i64 0, .int .i64 0] 25)).drew.cell? ⟨X, 0, none⟩ = some (.pointer (some ⟨R, 0, none⟩)) := hb_at (hb_alloc hX _) 0 rfl
  have HBK0 : RowKit.Hid ((w.alloc (.cells #[.string ⟨#[]⟩, .int .i64 0, .int .i64 0, .int .i64 0] 25)).drew.heap[w.heap.size]? = some (.cells #[.string ⟨#[]⟩, .int .i64 0, .int .i64 0, .int .i64 0] 25 (0, 0))) := Lib.hid (hb_new w _)
  have hRl := h.lt
  have hXl := hb_lt hX
  have hRB : some w.heap.size ≠ some R := by simp; omega
  have hXB : X ≠ w.heap.size := by omega
  have HGA : RowKit.Hid (w.grownBy (w.alloc (.cells #[.string ⟨#[]⟩, .int .i64 0, .int .i64 0, .int .i64 0] 25)).drew (some R)) := Lib.hid (below_grown (below_drewN (below_alloc w _) 1) _)
  have v1 := wrap_wr (spU_lt (Cx.spT st).2)
  have v2 := wrap_wr (spU_lt (Cx.spU (Cx.spT st).2).2)
  have v3 := wrap_wr (spU_lt (Cx.spU (Cx.spU (Cx.spT st).2).2).2)
  have HE : RowKit.Hid (Cm.rdPin Cm.wr64 st = (⟨str (Cx.spT st).1, ⟨Cm.wr64 (Cx.spU (Cx.spT st).2).1, Cm.wr64 (Cx.spU (Cx.spU (Cx.spT st).2).2).1, Cm.wr64 (Cx.spU (Cx.spU (Cx.spU (Cx.spT st).2).2).2).1⟩⟩, (Cx.spU (Cx.spU (Cx.spU (Cx.spT st).2).2).2).2)) := Lib.hid rfl
  clear h hX hst
  go_enter Try.func37, Try.ntmps37
  go_upto_region 1 with fail
  refine wp_region_held_drew (S := (fun w' => w'.cell? ⟨X, 0, none⟩ = some (.pointer (some ⟨R, 0, none⟩)))) (by kernel_rfl) (by exact hX0) (fun hHeld => ?_)
  refine wpAnyH_take (i := 0) (oi := ⟨some 3, _, _, _, _, _⟩) (v := ?_) rfl (by kernel_rfl) (by kernel_rfl) (by kernel_rfl) (fun _ _ _ h => h) (Or.inl ⟨by rfl, ?_⟩) (by assumption) ?_
  rotate_left
  focus (intro w hSw; (try dsimp only at hSw); go_simp; first | done | with_reducible rfl)
  try simp only [Act.put, List.setIfInBounds_toArray, List.set_cons_zero, List.set_cons_succ]
  refine wpAnyH_take (i := 1) (oi := ⟨some 4, _, _, _, _, _⟩) (v := ?_) rfl (by kernel_rfl) (by kernel_rfl) (by kernel_rfl) (fun _ _ _ h => h) (Or.inl ⟨by rfl, ?_⟩) (by assumption) ?_
  rotate_left
  focus (intro w hSw; (try dsimp only at hSw); go_simp; first | done | with_reducible rfl)
  try simp only [Act.put, List.setIfInBounds_toArray, List.set_cons_zero, List.set_cons_succ]
  refine wpAnyH_take (i := 2) (oi := ⟨some 5, _, _, _, _, _⟩) (v := ?_) rfl (by kernel_rfl) (by kernel_rfl) (by kernel_rfl) (fun _ _ _ h => h) (Or.inl ⟨by rfl, ?_⟩) (by assumption) ?_
  rotate_left
  focus (intro w hSw; (try dsimp only at hSw); go_simp; first | done | with_reducible rfl)
  try simp only [Act.put, List.setIfInBounds_toArray, List.set_cons_zero, List.set_cons_succ]
  refine wpAnyH_take (i := 3) (oi := ⟨some 6, _, _, _, _, _⟩) (v := ?_) rfl (by kernel_rfl) (by kernel_rfl) (by kernel_rfl) (fun _ _ _ h => h) (Or.inl ⟨by rfl, ?_⟩) (by assumption) ?_
  rotate_left
  focus (intro w hSw; (try dsimp only at hSw); go_simp; first | done | with_reducible rfl)
  try simp only [Act.put, List.setIfInBounds_toArray, List.set_cons_zero, List.set_cons_succ]
  refine wpAnyH_take (i := 5) (oi := ⟨some 8, _, _, _, _, _⟩) (v := ?_) rfl (by kernel_rfl) (by kernel_rfl) (by kernel_rfl) (fun _ _ _ h => h) (Or.inl ⟨by rfl, ?_⟩) (by assumption) ?_
  rotate_left
  focus (intro w hSw; (try dsimp only at hSw); go_simp; first | done | with_reducible rfl)
  try simp only [Act.put, List.setIfInBounds_toArray, List.set_cons_zero, List.set_cons_succ]
  refine wpAnyH_take (i := 6) (oi := ⟨some 9, _, _, _, _, _⟩) (v := ?_) rfl (by kernel_rfl) (by kernel_rfl) (by kernel_rfl) (fun _ _ _ h => h) (Or.inl ⟨by rfl, ?_⟩) (by assumption) ?_
  rotate_left
  focus (intro w hSw; (try dsimp only at hSw); go_simp; first | done | with_reducible rfl)
  try simp only [Act.put, List.setIfInBounds_toArray, List.set_cons_zero, List.set_cons_succ]
  refine wpAnyH_take (i := 7) (oi := ⟨some 10, _, _, _, _, _⟩) (v := ?_) rfl (by kernel_rfl) (by kernel_rfl) (by kernel_rfl) (fun _ _ _ h => h) (Or.inl ⟨by rfl, ?_⟩) (by assumption) ?_
  rotate_left
  focus (intro w hSw; (try dsimp only at hSw); go_simp; first | done | with_reducible rfl)
  try simp only [Act.put, List.setIfInBounds_toArray, List.set_cons_zero, List.set_cons_succ]
  refine wpAnyH_take (i := 8) (oi := ⟨some 11, _, _, _, _, _⟩) (v := ?_) rfl (by kernel_rfl) (by kernel_rfl) (by kernel_rfl) (fun _ _ _ h => h) (Or.inl ⟨by rfl, ?_⟩) (by assumption) ?_
  rotate_left
  focus (intro w hSw; (try dsimp only at hSw); go_simp; first | done | with_reducible rfl)
  try simp only [Act.put, List.setIfInBounds_toArray, List.set_cons_zero, List.set_cons_succ]
  refine wpAnyH_take (i := 11) (oi := ⟨some 14, _, _, _, _, _⟩) (v := ?_) rfl (by kernel_rfl) (by kernel_rfl) (by kernel_rfl) (fun _ _ _ h => h) (Or.inl ⟨by rfl, ?_⟩) (by assumption) ?_
  rotate_left
  focus (intro w hSw; (try dsimp only at hSw); go_simp; first | done | with_reducible rfl)
  try simp only [Act.put, List.setIfInBounds_toArray, List.set_cons_zero, List.set_cons_succ]
  refine wpAnyH_take (i := 12) (oi := ⟨some 15, _, _, _, _, _⟩) (v := ?_) rfl (by kernel_rfl) (by kernel_rfl) (by kernel_rfl) (fun _ _ _ h => h) (Or.inl ⟨by rfl, ?_⟩) (by assumption) ?_
  rotate_left
  focus (intro w hSw; (try dsimp only at hSw); go_simp; first | done | with_reducible rfl)
  try simp only [Act.put, List.setIfInBounds_toArray, List.set_cons_zero, List.set_cons_succ]
  refine wpAnyH_take (i := 13) (oi := ⟨some 16, _, _, _, _, _⟩) (v := ?_) rfl (by kernel_rfl) (by kernel_rfl) (by kernel_rfl) (fun _ _ _ h => h) (Or.inl ⟨by rfl, ?_⟩) (by assumption) ?_
  rotate_left
  focus (intro w hSw; (try dsimp only at hSw); go_simp; first | done | with_reducible rfl)
  try simp only [Act.put, List.setIfInBounds_toArray, List.set_cons_zero, List.set_cons_succ]
  refine wpAnyH_take (i := 14) (oi := ⟨some 17, _, _, _, _, _⟩) (v := ?_) rfl (by kernel_rfl) (by kernel_rfl) (by kernel_rfl) (fun _ _ _ h => h) (Or.inl ⟨by rfl, ?_⟩) (by assumption) ?_
  rotate_left
  focus (intro w hSw; (try dsimp only at hSw); go_simp; first | done | with_reducible rfl)
  try simp only [Act.put, List.setIfInBounds_toArray, List.set_cons_zero, List.set_cons_succ]
  refine wpAnyH_take (i := 17) (oi := ⟨some 20, _, _, _, _, _⟩) (v := ?_) rfl (by kernel_rfl) (by kernel_rfl) (by kernel_rfl) (fun _ _ _ h => h) (Or.inl ⟨by rfl, ?_⟩) (by assumption) ?_
  rotate_left
  focus (intro w hSw; (try dsimp only at hSw); go_simp; first | done | with_reducible rfl)
  try simp only [Act.put, List.setIfInBounds_toArray, List.set_cons_zero, List.set_cons_succ]
  refine wpAnyH_take (i := 18) (oi := ⟨some 21, _, _, _, _, _⟩) (v := ?_) rfl (by kernel_rfl) (by kernel_rfl) (by kernel_rfl) (fun _ _ _ h => h) (Or.inl ⟨by rfl, ?_⟩) (by assumption) ?_
  rotate_left
  focus (intro w hSw; (try dsimp only at hSw); go_simp; first | done | with_reducible rfl)
  try simp only [Act.put, List.setIfInBounds_toArray, List.set_cons_zero, List.set_cons_succ]
  refine wpAnyH_take (i := 19) (oi := ⟨some 22, _, _, _, _, _⟩) (v := ?_) rfl (by kernel_rfl) (by kernel_rfl) (by kernel_rfl) (fun _ _ _ h => h) (Or.inl ⟨by rfl, ?_⟩) (by assumption) ?_
  rotate_left
  focus (intro w hSw; (try dsimp only at hSw); go_simp; first | done | with_reducible rfl)
  try simp only [Act.put, List.setIfInBounds_toArray, List.set_cons_zero, List.set_cons_succ]
  refine wpAnyH_take (i := 20) (oi := ⟨some 23, _, _, _, _, _⟩) (v := ?_) rfl (by kernel_rfl) (by kernel_rfl) (by kernel_rfl) (fun _ _ _ h => h) (Or.inl ⟨by rfl, ?_⟩) (by assumption) ?_
  rotate_left
  focus (intro w hSw; (try dsimp only at hSw); go_simp; first | done | with_reducible rfl)
  try simp only [Act.put, List.setIfInBounds_toArray, List.set_cons_zero, List.set_cons_succ]
  refine wpAnyH_ready (rs := [4]) (by kernel_rfl) (by simp) ?_
  refine AllReadyH.cons (o := ⟨some 7, _, _, _, _, _⟩) rfl (fun K hK => ?_) AllReadyH.nil
  go_simp
  ((with_reducible refine (rT_any R st (HLEN.out) _ (by exact HR0.out)).mono ?_); rintro e w1 ⟨rfl, h1, hg1⟩; have HR1 := Lib.hid h1; have HG1 := Lib.hid hg1; clear h1 hg1)
  go_wp2_with fail
  refine hK.out _ _ (by exact cell_grown hHeld HG1.out hXR) (fun hNew => ?_)
  clear hK K
  clear hHeld; have hHeld := hNew; clear hNew
  try simp only [Act.put, List.setIfInBounds_toArray, List.set_cons_zero, List.set_cons_succ]
  refine wpAnyH_ready (rs := [9]) (by kernel_rfl) (by simp) ?_
  refine AllReadyH.cons (o := ⟨some 12, _, _, _, _, _⟩) rfl (fun K hK => ?_) AllReadyH.nil
  go_simp
  ((with_reducible refine (rU_any R (Cx.spT st).2 _ (by exact HR1.out)).mono ?_); rintro e w2 ⟨rfl, h2, hg2⟩; have HR2 := Lib.hid h2; have HG2 := Lib.hid hg2; clear h2 hg2)
  go_wp2_with fail
  refine hK.out _ _ (by exact cell_grown hHeld HG2.out hXR) (fun hNew => ?_)
  clear hK K
  clear hHeld; have hHeld := hNew; clear hNew
  try simp only [Act.put, List.setIfInBounds_toArray, List.set_cons_zero, List.set_cons_succ]
  refine wpAnyH_take (i := 10) (oi := ⟨some 13, _, _, _, _, _⟩) (v := ?_) rfl (by kernel_rfl) (by kernel_rfl) (by kernel_rfl) (fun _ _ _ h => h) (Or.inl ⟨by rfl, ?_⟩) (by assumption) ?_
  rotate_left
  focus (intro w hSw; (try dsimp only at hSw); go_simp; first | done | with_reducible rfl)
  try simp only [Act.put, List.setIfInBounds_toArray, List.set_cons_zero, List.set_cons_succ]
  refine wpAnyH_ready (rs := [15]) (by kernel_rfl) (by simp) ?_
  refine AllReadyH.cons (o := ⟨some 18, _, _, _, _, _⟩) rfl (fun K hK => ?_) AllReadyH.nil
  go_simp
  ((with_reducible refine (rU_any R (Cx.spU (Cx.spT st).2).2 _ (by exact HR2.out)).mono ?_); rintro e w3 ⟨rfl, h3, hg3⟩; have HR3 := Lib.hid h3; have HG3 := Lib.hid hg3; clear h3 hg3)
  go_wp2_with fail
  refine hK.out _ _ (by exact cell_grown hHeld HG3.out hXR) (fun hNew => ?_)
  clear hK K
  clear hHeld; have hHeld := hNew; clear hNew
  try simp only [Act.put, List.setIfInBounds_toArray, List.set_cons_zero, List.set_cons_succ]
  refine wpAnyH_take (i := 16) (oi := ⟨some 19, _, _, _, _, _⟩) (v := ?_) rfl (by kernel_rfl) (by kernel_rfl) (by kernel_rfl) (fun _ _ _ h => h) (Or.inl ⟨by rfl, ?_⟩) (by assumption) ?_
  rotate_left
  focus (intro w hSw; (try dsimp only at hSw); go_simp; first | done | with_reducible rfl)
  try simp only [Act.put, List.setIfInBounds_toArray, List.set_cons_zero, List.set_cons_succ]
  refine wpAnyH_ready (rs := [21]) (by kernel_rfl) (by simp) ?_
  refine AllReadyH.cons (o := ⟨some 24, _, _, _, _, _⟩) rfl (fun K hK => ?_) AllReadyH.nil
  go_simp
  ((with_reducible refine (rU_any R (Cx.spU (Cx.spU (Cx.spT st).2).2).2 _ (by exact HR3.out)).mono ?_); rintro e w4 ⟨rfl, h4, hg4⟩; have HR4 := Lib.hid h4; have HG4 := Lib.hid hg4; clear h4 hg4)
  go_wp2_with fail
  refine hK.out _ _ (by exact cell_grown hHeld HG4.out hXR) (fun hNew => ?_)
  clear hK K
  clear hHeld; have hHeld := hNew; clear hNew
  try simp only [Act.put, List.setIfInBounds_toArray, List.set_cons_zero, List.set_cons_succ]
  refine wpAnyH_take (i := 22) (oi := ⟨some 25, _, _, _, _, _⟩) (v := ?_) rfl (by kernel_rfl) (by kernel_rfl) (by kernel_rfl) (fun _ _ _ h => h) (Or.inl ⟨by rfl, ?_⟩) (by assumption) ?_
  rotate_left
  focus (intro w hSw; (try dsimp only at hSw); go_simp; first | done | with_reducible rfl)
  try simp only [Act.put, List.setIfInBounds_toArray, List.set_cons_zero, List.set_cons_succ]
  refine wpAnyH_take (i := 23) (oi := ⟨some 26, _, _, _, _, _⟩) (v := ?_) rfl (by kernel_rfl) (by kernel_rfl) (by kernel_rfl) (fun _ _ _ h => h) (Or.inl ⟨by rfl, ?_⟩) (by assumption) ?_
  rotate_left
  focus (intro w hSw; (try dsimp only at hSw); go_simp; first | done | with_reducible rfl)
  try simp only [Act.put, List.setIfInBounds_toArray, List.set_cons_zero, List.set_cons_succ]
  refine wpAnyH_take (i := 24) (oi := ⟨some 27, _, _, _, _, _⟩) (v := ?_) rfl (by kernel_rfl) (by kernel_rfl) (by kernel_rfl) (fun _ _ _ h => h) (Or.inl ⟨by rfl, ?_⟩) (by assumption) ?_
  rotate_left
  focus (intro w hSw; (try dsimp only at hSw); go_simp; first | done | with_reducible rfl)
  try simp only [Act.put, List.setIfInBounds_toArray, List.set_cons_zero, List.set_cons_succ]
  have HBK := hb_grown (hb_grown (hb_grown (hb_grown HBK0.out HG1.out hRB) HG2.out hRB) HG3.out hRB) HG4.out hRB
  have d0 := hb_at HBK 0 rfl
  have d1 := hb_at HBK 1 rfl
  have d2 := hb_at HBK 2 rfl
  have d3 := hb_at HBK 3 rfl
  have f0 := hb_free HBK 0
  have f1 := hb_free HBK 1
  have f2 := hb_free HBK 2
  have f3 := hb_free HBK 3
  have HBK := Lib.hid HBK
  refine wpAnyH_ready (rs := [25]) (by kernel_rfl) (by simp) ?_
  refine AllReadyH.cons (o := ⟨none, _, _, _, _, _⟩) rfl (fun K hK => ?_) AllReadyH.nil
  go_simp
  refine hK.out _ _ (by exact cell_set_other (cell_set_other (cell_set_other (cell_set_other hHeld hXB) hXB) hXB) hXB) (fun hNew => ?_)
  clear hK K
  clear hHeld; have hHeld := hNew; clear hNew
  try simp only [Act.put, List.setIfInBounds_toArray, List.set_cons_zero, List.set_cons_succ]
  refine wpAnyH_done (by kernel_rfl) ?_ _
  go_wp2
  exact bodyPost_ret (v := pinv (Cm.rdPin Cm.wr64 st).1) (by rw [HE.out]; simp [results, Try.results37, go_sem, d0, d1, d2, d3]) rfl ⟨rfl, by rw [HE.out]; exact HR4.out.kept (fun x hx => hb_set_other (hb_set_other (hb_set_other (hb_set_other hx _ (fun e => hRB (by rw [e]))) _ (fun e => hRB (by rw [e]))) _ (fun e => hRB (by rw [e]))) _ (fun e => hRB (by rw [e]))),
    grown_set_new (grown_set_new (grown_set_new (grown_set_new ((((HGA.out.trans HG1.out).trans HG2.out).trans HG3.out).trans HG4.out) _ _ (Nat.le_refl _)) _ _ (Nat.le_refl _)) _ _ (Nat.le_refl _)) _ _ (Nat.le_refl _)⟩
end Go.Proofs.Ytfbfdkjimoomlaa
