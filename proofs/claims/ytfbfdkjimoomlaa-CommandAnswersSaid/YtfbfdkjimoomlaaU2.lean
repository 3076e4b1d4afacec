/- Contract: Told of any answer. -/
import Derived.Test.YtfbfdkjimoomlaaU1
import Derived.Test.YtfbfdkjimoomlaaR3
namespace Go.Proofs.Ytfbfdkjimoomlaa
open Go.RowKit
theorem bl_stage {w W W' : World} {o : Obj} {B : Nat} (h : Below w.heap.size w W) (hB : w.heap.size ≤ B) (hg : (W.alloc o).drew.grownBy W' (some B)) : Below w.heap.size w W' :=
  (h.alloc h.size o).grown (grown_undrew hg) (by rw [World.size_alloc]; exact Nat.le_succ_of_le h.size) (fun j hj => by cases hj; exact hB)
theorem ha_stage {W W' : World} {o : Obj} {A B : Nat} {x : Obj} (h : W.heap[A]? = some x) (hg : (W.alloc o).drew.grownBy W' (some B)) (hne : A ≠ B) : W'.heap[A]? = some x :=
  hb_grown (hb_alloc h o) (grown_undrew hg) (by simp; exact hne)
theorem few_at0 {α : Type} (g : α → Value) (w : World) (t : TypeId) (l : List α) (cs : Array Value) (hcs : cs = (l.map g).toArray) : ∀ i (h : i < l.length), (w.alloc (.cells cs t)).cell? ⟨w.heap.size, i, none⟩ = some (g l[i]) := fun i h => few_at g w t l cs hcs i h
namespace Cm
abbrev P1 (a : An) : List (List UInt8) := [many (fun n => Cx.uv (Cx.zig n)) [a.e, a.t, a.g, a.k]]
abbrev P2 (a : An) : List (List UInt8) := many txt [a.cn, a.cc] :: P1 a
abbrev P3 (a : An) : List (List UInt8) := many Cx.uv [a.ps.length] :: P2 a
abbrev P5 (a : An) : List (List UInt8) := many txt [a.tx] :: pp (P3 a) a.ps
abbrev P6 (a : An) : List (List UInt8) := many Cx.uv [yn a.y] :: P5 a
abbrev P7 (a : An) : List (List UInt8) := many (fun n => Cx.uv (Cx.zig n)) [a.r1, a.r2, a.r3, a.r4] :: P6 a
theorem text_P7 (a : An) : text (P7 a) = toldB a := by
  show ((text (pp (P3 a) a.ps) ++ many txt [a.tx]) ++ many Cx.uv [yn a.y]) ++ many _ [a.r1, a.r2, a.r3, a.r4] = _
  rw [text_pp]
  show ((((([] ++ many _ [a.e, a.t, a.g, a.k]) ++ many txt [a.cn, a.cc]) ++ many Cx.uv [a.ps.length]) ++ many pinZ a.ps ++ many txt [a.tx]) ++ many Cx.uv [yn a.y]) ++ many _ [a.r1, a.r2, a.r3, a.r4] = _
  unfold toldB zg
  simp [many]
theorem P7_ne (a : An) : ∀ d ∈ P7 a, d ≠ [] := by
  intro d hd
  rcases List.mem_cons.1 hd with rfl | hd
  · exact uv_ne _ _
  rcases List.mem_cons.1 hd with rfl | hd
  · exact manyU_ne _ _
  rcases List.mem_cons.1 hd with rfl | hd
  · exact manyT_ne _ _
  refine pp_ne a.ps _ (fun d hd => ?_) d hd
  rcases List.mem_cons.1 hd with rfl | hd
  · exact manyU_ne _ _
  rcases List.mem_cons.1 hd with rfl | hd
  · exact manyT_ne _ _
  rcases List.mem_cons.1 hd with rfl | hd
  · exact uv_ne _ _
  · cases hd
/-- All that is written on the way is no longer than the whole. -/
theorem lens (a : An) : (text (P1 a)).length ≤ (toldB a).length ∧ (text (P2 a)).length ≤ (toldB a).length ∧ (text (P3 a)).length ≤ (toldB a).length ∧ (∀ k, (text (pp (P3 a) (a.ps.take k))).length ≤ (toldB a).length) ∧ (text (P5 a)).length ≤ (toldB a).length ∧ (text (P6 a)).length ≤ (toldB a).length ∧
    (many txt [a.cn, a.cc]).length ≤ (toldB a).length ∧ (many txt [a.tx]).length ≤ (toldB a).length ∧ (∀ k (h : k < a.ps.length), (text (pp (P3 a) (a.ps.take k))).length + (many txt [a.ps[k].p]).length ≤ (toldB a).length) := by
  have e := congrArg List.length (text_P7 a)
  have e7 : (text (P7 a)).length = (text (P6 a)).length + (many (fun n => Cx.uv (Cx.zig n)) [a.r1, a.r2, a.r3, a.r4]).length := text_cons _ _
  have e6 : (text (P6 a)).length = (text (P5 a)).length + (many Cx.uv [yn a.y]).length := text_cons _ _
  have e5 : (text (P5 a)).length = (text (pp (P3 a) a.ps)).length + (many txt [a.tx]).length := text_cons _ _
  have e4 := congrArg List.length (text_pp a.ps (P3 a))
  rw [List.length_append] at e4
  have e3 : (text (P3 a)).length = (text (P2 a)).length + (many Cx.uv [a.ps.length]).length := text_cons _ _
  have e2 : (text (P2 a)).length = (text (P1 a)).length + (many txt [a.cn, a.cc]).length := text_cons _ _
  have ek : ∀ k, (text (pp (P3 a) (a.ps.take k))).length = (text (P3 a)).length + (many pinZ (a.ps.take k)).length := fun k => by rw [text_pp, List.length_append]
  refine ⟨by omega, by omega, by omega, fun k => ?_, by omega, by omega, by omega, by omega, fun k hk => ?_⟩
  · have := many_take_le pinZ a.ps k
    rw [ek k]; omega
  · have h1 := many_take_le pinZ a.ps (k + 1)
    rw [many_snoc pinZ a.ps k hk, List.length_append] at h1
    have h2 : (pinZ a.ps[k]).length = (txt a.ps[k].p).length + (zg a.ps[k].v.a ++ (zg a.ps[k].v.b ++ zg a.ps[k].v.c)).length := by unfold pinZ; rw [List.length_append]
    rw [ek k, many_one]; omega
end Cm
set_option maxRecDepth 100000 in
set_option maxHeartbeats 8000000 in
theorem told_ans (a : Cm.An) (q : Option Addr) (c : Nat) (w : World) (hps : PsAt w q a.ps) (hlen : a.ps.length ≤ 5000) (hok : Cm.anOk a) (hb : (Cm.toldB a).length ≤ 100000) : Calls Try.prog 17 #[ansv a (.slice q a.ps.length c)] w fun e w' => e = .returned (.string (str (Cm.toldB a))) ∧ Below w.heap.size w w' := by
  obtain ⟨l1, l2, l3, l4, l5, l6, l7, l8, l9⟩ := Cm.lens a
  have HTX := Lib.hid (Cm.text_P7 a)
  have HPS := Lib.hid hps
  have HOK := Lib.hid hok
  have hp1 : (text (Cm.P1 a)).length ≤ 1000000 := by omega
  have hp2 : (text (Cm.P2 a)).length ≤ 1000000 := by omega
  have hp3 : (text (Cm.P3 a)).length ≤ 1000000 := by omega
  have hp5 : (text (Cm.P5 a)).length ≤ 1000000 := by omega
  have hp6 : (text (Cm.P6 a)).length ≤ 1000000 := by omega
  have ht1 : (many txt [a.cn, a.cc]).length ≤ 1000000 := by omega
  have ht2 : (many txt [a.tx]).length ≤ 1000000 := by omega
  have HL4 : RowKit.Hid (∀ k, (text (pp (Cm.P3 a) (a.ps.take k))).length ≤ 1000000) := Lib.hid (fun k => Nat.le_trans (l4 k) (by omega))
  have HL9 : RowKit.Hid (∀ k (h : k < a.ps.length), (text (pp (Cm.P3 a) (a.ps.take k))).length + (many txt [a.ps[k].p]).length ≤ 1000000) := Lib.hid (fun k h => Nat.le_trans (l9 k h) (by omega))
  have hi4 : ∀ x ∈ [a.e, a.t, a.g, a.k], -9223372036854775808 ≤ x ∧ x ≤ 9223372036854775807 := by
    intro x hx
    simp at hx
    rcases hx with rfl | rfl | rfl | rfl
    · exact hok.e
    · exact hok.t
    · exact hok.g
    · exact hok.k
  have HI4 := Lib.hid hi4
  have hr4 : ∀ x ∈ [a.r1, a.r2, a.r3, a.r4], -9223372036854775808 ≤ x ∧ x ≤ 9223372036854775807 := by
    intro x hx
    simp at hx
    rcases hx with rfl | rfl | rfl | rfl
    · exact hok.r1
    · exact hok.r2
    · exact hok.r3
    · exact hok.r4
  have HR4 := Lib.hid hr4
  have hn : ∀ x ∈ [a.ps.length], x < 18446744073709551616 := by simp; omega
  have HN := Lib.hid hn
  have hyn : ∀ x ∈ [Cm.yn a.y], x < 18446744073709551616 := by simp [Cm.yn]; split <;> decide
  have HYN := Lib.hid hyn
  have hwn : IntKind.u64.wrap (a.ps.length : Int) = a.ps.length := by rw [IntKind.wrap_u64]; omega
  have HWN := Lib.hid hwn
  have HP7 : RowKit.Hid ((text (Cm.P7 a)).length ≤ 1000000) := Lib.hid (by rw [Cm.text_P7]; omega)
  clear l1 l2 l3 l4 l5 l6 l7 l8 l9 hi4 hr4 hn hyn hwn hok hps
  have hAB : w.heap.size ≠ w.heap.size + 1 := by omega
  go_enter Try.func17, Try.ntmps17
  go_upto_region 2 with fail
  have HA0 := Lib.hid (hb_alloc (hb_new w (.cells (ansCells a (.slice q a.ps.length c)) 49)) (.cells #[.pointer none] 62))
  have h0 := hb_new (w.alloc (.cells (ansCells a (.slice q a.ps.length c)) 49)) (.cells #[.pointer none] 62)
  rw [World.size_alloc] at h0
  have HW0 : RowKit.Hid (Wr ((w.alloc (.cells (ansCells a (.slice q a.ps.length c)) 49)).alloc (.cells #[.pointer none] 62)) (w.heap.size + 1) []) := Lib.hid ⟨_, h0, rfl⟩
  have HB0 : RowKit.Hid (Below w.heap.size w ((w.alloc (.cells (ansCells a (.slice q a.ps.length c)) 49)).alloc (.cells #[.pointer none] 62))) := Lib.hid (below2 w _ _)
  clear h0
  generalize hWW : ((w.alloc (.cells (ansCells a (.slice q a.ps.length c)) 49)).alloc (.cells #[.pointer none] 62)) = W0 at *
  have HWW := Lib.hid hWW
  clear hWW
  refine wp_region_held_drew (S := (fun w' => w'.cell? ⟨w.heap.size, 0, none⟩ = some (.int .i64 a.e) ∧ w'.cell? ⟨w.heap.size, 1, none⟩ = some (.int .i64 a.t) ∧ w'.cell? ⟨w.heap.size, 2, none⟩ = some (.int .i64 a.g) ∧ w'.cell? ⟨w.heap.size, 3, none⟩ = some (.int .i64 a.k))) (by kernel_rfl) (by exact ⟨hb_at HA0.out 0 rfl, hb_at HA0.out 1 rfl, hb_at HA0.out 2 rfl, hb_at HA0.out 3 rfl⟩) (fun hHeld => ?_)
  refine wpAnyH_take (i := 0) (oi := ⟨some 9, _, _, _, _, _⟩) (v := ?_) rfl (by kernel_rfl) (by kernel_rfl) (by kernel_rfl) (fun _ _ _ h => h) (Or.inl ⟨by rfl, ?_⟩) (by assumption) ?_
  rotate_left
  focus (intro w hSw; (try dsimp only at hSw); go_simp; first | done | with_reducible rfl)
  try simp only [Act.put, List.setIfInBounds_toArray, List.set_cons_zero, List.set_cons_succ]
  refine wpAnyH_take (i := 1) (oi := ⟨some 10, _, _, _, _, _⟩) (v := ?_) rfl (by kernel_rfl) (by kernel_rfl) (by kernel_rfl) (fun _ _ _ h => h) (Or.inl ⟨by rfl, ?_⟩) (by assumption) ?_
  rotate_left
  focus (intro w hSw; (try dsimp only at hSw); go_simp; first | done | with_reducible rfl)
  try simp only [Act.put, List.setIfInBounds_toArray, List.set_cons_zero, List.set_cons_succ]
  refine wpAnyH_take (i := 2) (oi := ⟨some 11, _, _, _, _, _⟩) (v := ?_) rfl (by kernel_rfl) (by kernel_rfl) (by kernel_rfl) (fun _ _ _ h => h) (Or.inl ⟨by rfl, ?_⟩) (by assumption) ?_
  rotate_left
  focus (intro w hSw; (try dsimp only at hSw); go_simp; first | done | with_reducible rfl)
  try simp only [Act.put, List.setIfInBounds_toArray, List.set_cons_zero, List.set_cons_succ]
  refine wpAnyH_take (i := 3) (oi := ⟨some 12, _, _, _, _, _⟩) (v := ?_) rfl (by kernel_rfl) (by kernel_rfl) (by kernel_rfl) (fun _ _ _ h => h) (Or.inl ⟨by rfl, ?_⟩) (by assumption) ?_
  rotate_left
  focus (intro w hSw; (try dsimp only at hSw); go_simp; first | done | with_reducible rfl)
  try simp only [Act.put, List.setIfInBounds_toArray, List.set_cons_zero, List.set_cons_succ]
  refine wpAnyH_take (i := 4) (oi := ⟨some 13, _, _, _, _, _⟩) (v := ?_) rfl (by kernel_rfl) (by kernel_rfl) (by kernel_rfl) (fun _ _ _ h => h) (Or.inl ⟨by rfl, ?_⟩) (by assumption) ?_
  rotate_left
  focus (intro w hSw; (try dsimp only at hSw); go_simp; first | done | with_reducible rfl)
  try simp only [Act.put, List.setIfInBounds_toArray, List.set_cons_zero, List.set_cons_succ]
  refine wpAnyH_take (i := 5) (oi := ⟨some 14, _, _, _, _, _⟩) (v := ?_) rfl (by kernel_rfl) (by kernel_rfl) (by kernel_rfl) (fun _ _ _ h => h) (Or.inl ⟨by rfl, ?_⟩) (by assumption) ?_
  rotate_left
  focus (intro w hSw; (try dsimp only at hSw); go_simp; first | done | with_reducible rfl)
  try simp only [Act.put, List.setIfInBounds_toArray, List.set_cons_zero, List.set_cons_succ]
  refine wpAnyH_take (i := 6) (oi := ⟨some 15, _, _, _, _, _⟩) (v := ?_) rfl (by kernel_rfl) (by kernel_rfl) (by kernel_rfl) (fun _ _ _ h => h) (Or.inl ⟨by rfl, ?_⟩) (by assumption) ?_
  rotate_left
  focus (intro w hSw; (try dsimp only at hSw); go_simp; first | done | with_reducible rfl)
  try simp only [Act.put, List.setIfInBounds_toArray, List.set_cons_zero, List.set_cons_succ]
  refine wpAnyH_take (i := 7) (oi := ⟨some 16, _, _, _, _, _⟩) (v := ?_) rfl (by kernel_rfl) (by kernel_rfl) (by kernel_rfl) (fun _ _ _ h => h) (Or.inl ⟨by rfl, ?_⟩) (by assumption) ?_
  rotate_left
  focus (intro w hSw; (try dsimp only at hSw); go_simp; first | done | with_reducible rfl)
  try simp only [Act.put, List.setIfInBounds_toArray, List.set_cons_zero, List.set_cons_succ]
  refine wpAnyH_take (i := 8) (oi := ⟨some 17, _, _, _, _, _⟩) (v := ?_) rfl (by kernel_rfl) (by kernel_rfl) (by kernel_rfl) (fun _ _ _ h => h) (Or.inl ⟨by rfl, ?_⟩) (by assumption) ?_
  rotate_left
  focus (intro w hSw; (try dsimp only at hSw); go_simp; first | done | with_reducible rfl)
  try simp only [Act.put, List.setIfInBounds_toArray, List.set_cons_zero, List.set_cons_succ]
  refine wpAnyH_take (i := 9) (oi := ⟨some 18, _, _, _, _, _⟩) (v := ?_) rfl (by kernel_rfl) (by kernel_rfl) (by kernel_rfl) (fun _ _ _ h => h) (Or.inl ⟨by rfl, ?_⟩) (by assumption) ?_
  rotate_left
  focus (intro w hSw; (try dsimp only at hSw); go_simp; first | done | with_reducible rfl)
  try simp only [Act.put, List.setIfInBounds_toArray, List.set_cons_zero, List.set_cons_succ]
  refine wpAnyH_take (i := 10) (oi := ⟨some 19, _, _, _, _, _⟩) (v := ?_) rfl (by kernel_rfl) (by kernel_rfl) (by kernel_rfl) (fun _ _ _ h => h) (Or.inl ⟨by rfl, ?_⟩) (by assumption) ?_
  rotate_left
  focus (intro w hSw; (try dsimp only at hSw); go_simp; first | done | with_reducible rfl)
  try simp only [Act.put, List.setIfInBounds_toArray, List.set_cons_zero, List.set_cons_succ]
  refine wpAnyH_take (i := 11) (oi := ⟨some 20, _, _, _, _, _⟩) (v := ?_) rfl (by kernel_rfl) (by kernel_rfl) (by kernel_rfl) (fun _ _ _ h => h) (Or.inl ⟨by rfl, ?_⟩) (by assumption) ?_
  rotate_left
  focus (intro w hSw; (try dsimp only at hSw); go_simp; first | done | with_reducible rfl)
  try simp only [Act.put, List.setIfInBounds_toArray, List.set_cons_zero, List.set_cons_succ]
  refine wpAnyH_ready (rs := [12]) (by kernel_rfl) (by simp) ?_
  refine AllReadyH.cons (o := ⟨some 21, _, _, _, _, _⟩) rfl (fun K hK => ?_) AllReadyH.nil
  go_simp
  refine hK.out _ _ (by exact ⟨alloc_drew _ hHeld.1, alloc_drew _ hHeld.2.1, alloc_drew _ hHeld.2.2.1, alloc_drew _ hHeld.2.2.2⟩) (fun hNew => ?_)
  clear hK K
  clear hHeld; have hHeld := hNew; clear hNew
  try simp only [Act.put, List.setIfInBounds_toArray, List.set_cons_zero, List.set_cons_succ]
  refine wpAnyH_ready (rs := [13]) (by kernel_rfl) (by simp) ?_
  refine AllReadyH.cons (o := ⟨some 22, _, _, _, _, _⟩) rfl (fun K hK => ?_) AllReadyH.nil
  go_simp
  (refine (wI_list (w.heap.size + 1) [] _ 4 [a.e, a.t, a.g, a.k] _ (by exact HW0.out.one _) (by simp [text]) (by simp) HI4.out (by exact few_at (Value.int .i64) _ _ [a.e, a.t, a.g, a.k] _ rfl)).mono ?_; rintro e w1 ⟨rfl, h1, hg1⟩; have HW1 := Lib.hid h1; have HG1 := Lib.hid hg1; clear h1 hg1)
  go_wp2_with fail
  refine hK.out _ _ (by exact ⟨cell_grown hHeld.1 HG1.out hAB, cell_grown hHeld.2.1 HG1.out hAB, cell_grown hHeld.2.2.1 HG1.out hAB, cell_grown hHeld.2.2.2 HG1.out hAB⟩) (fun hNew => ?_)
  clear hK K
  clear hHeld; have hHeld := hNew; clear hNew
  try simp only [Act.put, List.setIfInBounds_toArray, List.set_cons_zero, List.set_cons_succ]
  refine wpAnyH_done (by kernel_rfl) ?_ _
  clear hHeld
  have HA1 := Lib.hid (ha_stage HA0.out HG1.out hAB)
  have HB1 : RowKit.Hid (Below w.heap.size w w1) := Lib.hid (bl_stage HB0.out (Nat.le_succ _) HG1.out)
  go_upto_region 3 with fail
  refine wp_region_held_drew (S := (fun w' => w'.cell? ⟨w.heap.size, 4, none⟩ = some (.string a.cn) ∧ w'.cell? ⟨w.heap.size, 5, none⟩ = some (.string a.cc))) (by kernel_rfl) (by exact ⟨hb_at HA1.out 4 rfl, hb_at HA1.out 5 rfl⟩) (fun hHeld => ?_)
  refine wpAnyH_take (i := 0) (oi := ⟨some 23, _, _, _, _, _⟩) (v := ?_) rfl (by kernel_rfl) (by kernel_rfl) (by kernel_rfl) (fun _ _ _ h => h) (Or.inl ⟨by rfl, ?_⟩) (by assumption) ?_
  rotate_left
  focus (intro w hSw; (try dsimp only at hSw); go_simp; first | done | with_reducible rfl)
  try simp only [Act.put, List.setIfInBounds_toArray, List.set_cons_zero, List.set_cons_succ]
  refine wpAnyH_take (i := 1) (oi := ⟨some 24, _, _, _, _, _⟩) (v := ?_) rfl (by kernel_rfl) (by kernel_rfl) (by kernel_rfl) (fun _ _ _ h => h) (Or.inl ⟨by rfl, ?_⟩) (by assumption) ?_
  rotate_left
  focus (intro w hSw; (try dsimp only at hSw); go_simp; first | done | with_reducible rfl)
  try simp only [Act.put, List.setIfInBounds_toArray, List.set_cons_zero, List.set_cons_succ]
  refine wpAnyH_take (i := 2) (oi := ⟨some 25, _, _, _, _, _⟩) (v := ?_) rfl (by kernel_rfl) (by kernel_rfl) (by kernel_rfl) (fun _ _ _ h => h) (Or.inl ⟨by rfl, ?_⟩) (by assumption) ?_
  rotate_left
  focus (intro w hSw; (try dsimp only at hSw); go_simp; first | done | with_reducible rfl)
  try simp only [Act.put, List.setIfInBounds_toArray, List.set_cons_zero, List.set_cons_succ]
  refine wpAnyH_take (i := 3) (oi := ⟨some 26, _, _, _, _, _⟩) (v := ?_) rfl (by kernel_rfl) (by kernel_rfl) (by kernel_rfl) (fun _ _ _ h => h) (Or.inl ⟨by rfl, ?_⟩) (by assumption) ?_
  rotate_left
  focus (intro w hSw; (try dsimp only at hSw); go_simp; first | done | with_reducible rfl)
  try simp only [Act.put, List.setIfInBounds_toArray, List.set_cons_zero, List.set_cons_succ]
  refine wpAnyH_take (i := 4) (oi := ⟨some 27, _, _, _, _, _⟩) (v := ?_) rfl (by kernel_rfl) (by kernel_rfl) (by kernel_rfl) (fun _ _ _ h => h) (Or.inl ⟨by rfl, ?_⟩) (by assumption) ?_
  rotate_left
  focus (intro w hSw; (try dsimp only at hSw); go_simp; first | done | with_reducible rfl)
  try simp only [Act.put, List.setIfInBounds_toArray, List.set_cons_zero, List.set_cons_succ]
  refine wpAnyH_take (i := 5) (oi := ⟨some 28, _, _, _, _, _⟩) (v := ?_) rfl (by kernel_rfl) (by kernel_rfl) (by kernel_rfl) (fun _ _ _ h => h) (Or.inl ⟨by rfl, ?_⟩) (by assumption) ?_
  rotate_left
  focus (intro w hSw; (try dsimp only at hSw); go_simp; first | done | with_reducible rfl)
  try simp only [Act.put, List.setIfInBounds_toArray, List.set_cons_zero, List.set_cons_succ]
  refine wpAnyH_take (i := 6) (oi := ⟨some 29, _, _, _, _, _⟩) (v := ?_) rfl (by kernel_rfl) (by kernel_rfl) (by kernel_rfl) (fun _ _ _ h => h) (Or.inl ⟨by rfl, ?_⟩) (by assumption) ?_
  rotate_left
  focus (intro w hSw; (try dsimp only at hSw); go_simp; first | done | with_reducible rfl)
  try simp only [Act.put, List.setIfInBounds_toArray, List.set_cons_zero, List.set_cons_succ]
  refine wpAnyH_take (i := 7) (oi := ⟨some 30, _, _, _, _, _⟩) (v := ?_) rfl (by kernel_rfl) (by kernel_rfl) (by kernel_rfl) (fun _ _ _ h => h) (Or.inl ⟨by rfl, ?_⟩) (by assumption) ?_
  rotate_left
  focus (intro w hSw; (try dsimp only at hSw); go_simp; first | done | with_reducible rfl)
  try simp only [Act.put, List.setIfInBounds_toArray, List.set_cons_zero, List.set_cons_succ]
  refine wpAnyH_take (i := 8) (oi := ⟨some 31, _, _, _, _, _⟩) (v := ?_) rfl (by kernel_rfl) (by kernel_rfl) (by kernel_rfl) (fun _ _ _ h => h) (Or.inl ⟨by rfl, ?_⟩) (by assumption) ?_
  rotate_left
  focus (intro w hSw; (try dsimp only at hSw); go_simp; first | done | with_reducible rfl)
  try simp only [Act.put, List.setIfInBounds_toArray, List.set_cons_zero, List.set_cons_succ]
  refine wpAnyH_ready (rs := [9]) (by kernel_rfl) (by simp) ?_
  refine AllReadyH.cons (o := ⟨some 32, _, _, _, _, _⟩) rfl (fun K hK => ?_) AllReadyH.nil
  go_simp
  refine hK.out _ _ (by exact ⟨alloc_drew _ hHeld.1, alloc_drew _ hHeld.2⟩) (fun hNew => ?_)
  clear hK K
  clear hHeld; have hHeld := hNew; clear hNew
  try simp only [Act.put, List.setIfInBounds_toArray, List.set_cons_zero, List.set_cons_succ]
  refine wpAnyH_ready (rs := [10]) (by kernel_rfl) (by simp) ?_
  refine AllReadyH.cons (o := ⟨some 33, _, _, _, _, _⟩) rfl (fun K hK => ?_) AllReadyH.nil
  go_simp
  (refine (wT_list (w.heap.size + 1) (Cm.P1 a) _ 2 [a.cn, a.cc] _ (by exact HW1.out.one _) hp1 (by simp) ht1 (by exact few_at Value.string _ _ [a.cn, a.cc] _ rfl)).mono ?_; rintro e w2 ⟨rfl, h2, hg2⟩; have HW2 := Lib.hid h2; have HG2 := Lib.hid hg2; clear h2 hg2)
  go_wp2_with fail
  refine hK.out _ _ (by exact ⟨cell_grown hHeld.1 HG2.out hAB, cell_grown hHeld.2 HG2.out hAB⟩) (fun hNew => ?_)
  clear hK K
  clear hHeld; have hHeld := hNew; clear hNew
  try simp only [Act.put, List.setIfInBounds_toArray, List.set_cons_zero, List.set_cons_succ]
  refine wpAnyH_done (by kernel_rfl) ?_ _
  clear hHeld
  have HA2 := Lib.hid (ha_stage HA1.out HG2.out hAB)
  have HB2 : RowKit.Hid (Below w.heap.size w w2) := Lib.hid (bl_stage HB1.out (Nat.le_succ _) HG2.out)
  go_upto_region 4 with fail
  have hwn := HWN.out
  refine wp_region_held_drew (S := (fun w' => w'.cell? ⟨w.heap.size, 6, none⟩ = some (.slice q a.ps.length c))) (by kernel_rfl) (by exact hb_at HA2.out 6 rfl) (fun hHeld => ?_)
  refine wpAnyH_take (i := 0) (oi := ⟨some 34, _, _, _, _, _⟩) (v := ?_) rfl (by kernel_rfl) (by kernel_rfl) (by kernel_rfl) (fun _ _ _ h => h) (Or.inl ⟨by rfl, ?_⟩) (by assumption) ?_
  rotate_left
  focus (intro w hSw; (try dsimp only at hSw); go_simp; first | done | with_reducible rfl)
  try simp only [Act.put, List.setIfInBounds_toArray, List.set_cons_zero, List.set_cons_succ]
  refine wpAnyH_take (i := 1) (oi := ⟨some 35, _, _, _, _, _⟩) (v := ?_) rfl (by kernel_rfl) (by kernel_rfl) (by kernel_rfl) (fun _ _ _ h => h) (Or.inl ⟨by rfl, ?_⟩) (by assumption) ?_
  rotate_left
  focus (intro w hSw; (try dsimp only at hSw); go_simp; first | done | with_reducible rfl)
  try simp only [Act.put, List.setIfInBounds_toArray, List.set_cons_zero, List.set_cons_succ]
  refine wpAnyH_take (i := 2) (oi := ⟨some 36, _, _, _, _, _⟩) (v := ?_) rfl (by kernel_rfl) (by kernel_rfl) (by kernel_rfl) (fun _ _ _ h => h) (Or.inl ⟨by rfl, ?_⟩) (by assumption) ?_
  rotate_left
  focus (intro w hSw; (try dsimp only at hSw); go_simp; first | done | with_reducible rfl)
  try simp only [Act.put, List.setIfInBounds_toArray, List.set_cons_zero, List.set_cons_succ]
  refine wpAnyH_take (i := 3) (oi := ⟨some 37, _, _, _, _, _⟩) (v := ?_) rfl (by kernel_rfl) (by kernel_rfl) (by kernel_rfl) (fun _ _ _ h => h) (Or.inl ⟨by rfl, ?_⟩) (by assumption) ?_
  rotate_left
  focus (intro w hSw; (try dsimp only at hSw); go_simp; first | done | with_reducible rfl)
  try simp only [Act.put, List.setIfInBounds_toArray, List.set_cons_zero, List.set_cons_succ]
  refine wpAnyH_take (i := 4) (oi := ⟨some 38, _, _, _, _, _⟩) (v := ?_) rfl (by kernel_rfl) (by kernel_rfl) (by kernel_rfl) (fun _ _ _ h => h) (Or.inl ⟨by rfl, ?_⟩) (by assumption) ?_
  rotate_left
  focus (intro w hSw; (try dsimp only at hSw); go_simp; first | done | with_reducible rfl)
  try simp only [Act.put, List.setIfInBounds_toArray, List.set_cons_zero, List.set_cons_succ]
  refine wpAnyH_take (i := 5) (oi := ⟨some 39, _, _, _, _, _⟩) (v := ?_) rfl (by kernel_rfl) (by kernel_rfl) (by kernel_rfl) (fun _ _ _ h => h) (Or.inl ⟨by rfl, ?_⟩) (by assumption) ?_
  rotate_left
  focus (intro w hSw; (try dsimp only at hSw); go_simp; first | done | with_reducible rfl)
  try simp only [Act.put, List.setIfInBounds_toArray, List.set_cons_zero, List.set_cons_succ]
  refine wpAnyH_take (i := 6) (oi := ⟨some 40, _, _, _, _, _⟩) (v := ?_) rfl (by kernel_rfl) (by kernel_rfl) (by kernel_rfl) (fun _ _ _ h => h) (Or.inl ⟨by rfl, ?_⟩) (by assumption) ?_
  rotate_left
  focus (intro w hSw; (try dsimp only at hSw); go_simp; first | done | with_reducible rfl)
  try simp only [Act.put, List.setIfInBounds_toArray, List.set_cons_zero, List.set_cons_succ]
  refine wpAnyH_ready (rs := [7]) (by kernel_rfl) (by simp) ?_
  refine AllReadyH.cons (o := ⟨some 41, _, _, _, _, _⟩) rfl (fun K hK => ?_) AllReadyH.nil
  go_simp
  refine hK.out _ _ (by exact alloc_drew _ hHeld) (fun hNew => ?_)
  clear hK K
  clear hHeld; have hHeld := hNew; clear hNew
  try simp only [Act.put, List.setIfInBounds_toArray, List.set_cons_zero, List.set_cons_succ]
  refine wpAnyH_ready (rs := [8]) (by kernel_rfl) (by simp) ?_
  refine AllReadyH.cons (o := ⟨some 42, _, _, _, _, _⟩) rfl (fun K hK => ?_) AllReadyH.nil
  go_simp
  (refine (wU_list (w.heap.size + 1) (Cm.P2 a) _ 1 [a.ps.length] _ (by exact HW2.out.one _) hp2 (by simp) HN.out (by exact few_at (fun k : Nat => Value.int .u64 k) _ _ [a.ps.length] _ rfl)).mono ?_; rintro e w3 ⟨rfl, h3, hg3⟩; have HW3 := Lib.hid h3; have HG3 := Lib.hid hg3; clear h3 hg3)
  go_wp2_with fail
  refine hK.out _ _ (by exact cell_grown hHeld HG3.out hAB) (fun hNew => ?_)
  clear hK K
  clear hHeld; have hHeld := hNew; clear hNew
  try simp only [Act.put, List.setIfInBounds_toArray, List.set_cons_zero, List.set_cons_succ]
  refine wpAnyH_done (by kernel_rfl) ?_ _
  clear hHeld
  have HA3 := Lib.hid (ha_stage HA2.out HG3.out hAB)
  have HB3 : RowKit.Hid (Below w.heap.size w w3) := Lib.hid (bl_stage HB2.out (Nat.le_succ _) HG3.out)
  clear hwn
  have x6 := hb_at HA3.out 6 rfl
  go_wp2
  clear x6
  go_loopw [46] (fun i wr => ∃ k : Nat, k ≤ a.ps.length ∧ i = .int .i64 k ∧ Wr wr (w.heap.size + 1) (pp (Cm.P3 a) (a.ps.take k)) ∧ wr.heap[w.heap.size]? = some (.cells (ansCells a (.slice q a.ps.length c)) 49 (0, 0)) ∧ Below w.heap.size w wr) (fun i _ => a.ps.length - (intOf i).toNat)
  case atStart => exact ⟨0, Nat.zero_le _, rfl, HW3.out, HA3.out, HB3.out⟩
  case round =>
    obtain ⟨k, hk, rfl, hW, hA, hB⟩ := hrel
    have HWr := Lib.hid hW
    have HAr := Lib.hid hA
    have HBr := Lib.hid hB
    clear hW hA hB
    by_cases hlt : k < a.ps.length
    · have hdl : decide ((k : Int) < a.ps.length) = true := by simp; omega
      obtain ⟨b, o, rfl, hpc⟩ := HPS.out k a.ps[k] (List.getElem?_eq_getElem hlt)
      obtain ⟨i0, i1, i2, i3⟩ := hpc.below HBr.out
      clear hpc
      have HSN := Lib.hid (pp_snoc (Cm.P3 a) a.ps k hlt)
      have hT9 := HL9.out k hlt
      have HOKX := Lib.hid (HOK.out.ps a.ps[k] (List.getElem_mem hlt))
      generalize a.ps[k] = x at *
      have hT4 := HL4.out k
      have hTx : (many txt [x.p]).length ≤ 1000000 := by omega
      have hTt : (text (many txt [x.p] :: pp (Cm.P3 a) (a.ps.take k))).length ≤ 1000000 := by rw [text_cons]; omega
      have hx3 : ∀ z ∈ [x.v.a, x.v.b, x.v.c], -9223372036854775808 ≤ z ∧ z ≤ 9223372036854775807 := by
        intro z hz
        simp at hz
        rcases hz with rfl | rfl | rfl
        · exact HOKX.out.2.1
        · exact HOKX.out.2.2.1
        · exact HOKX.out.2.2.2
      have HX3 := Lib.hid hx3
      clear hx3
      go_upto_region 8 with fail
      clear i0 i1 i2 i3
      have hzr : w.heap.size + 1 < wr.heap.size := HWr.out.lt
      have HA4 := Lib.hid (hb_alloc HAr.out (.cells #[.string x.p, .int .i64 x.v.a, .int .i64 x.v.b, .int .i64 x.v.c] 25))
      have HPx := Lib.hid (hb_new wr (.cells #[.string x.p, .int .i64 x.v.a, .int .i64 x.v.b, .int .i64 x.v.c] 25))
      have HW4 := Lib.hid (HWr.out.below (below_alloc wr (.cells #[.string x.p, .int .i64 x.v.a, .int .i64 x.v.b, .int .i64 x.v.c] 25)))
      have HB4 := Lib.hid (HBr.out.alloc HBr.out.size (.cells #[.string x.p, .int .i64 x.v.a, .int .i64 x.v.b, .int .i64 x.v.c] 25))
      generalize hPX : wr.heap.size = PX at *
      have hPB : PX ≠ w.heap.size + 1 := by omega
      generalize hW4 : wr.alloc (.cells #[.string x.p, .int .i64 x.v.a, .int .i64 x.v.b, .int .i64 x.v.c] 25) = W4 at *
      have HW4' := Lib.hid hW4
      have HPX := Lib.hid hPX
      clear hW4 hPX
      refine wp_region_held_drew (S := (fun w' => w'.cell? ⟨PX, 0, none⟩ = some (.string x.p))) (by kernel_rfl) (by exact hb_at HPx.out 0 rfl) (fun hHeld => ?_)
      refine wpAnyH_take (i := 0) (oi := ⟨some 50, _, _, _, _, _⟩) (v := ?_) rfl (by kernel_rfl) (by kernel_rfl) (by kernel_rfl) (fun _ _ _ h => h) (Or.inl ⟨by rfl, ?_⟩) (by assumption) ?_
      rotate_left
      focus (intro w hSw; (try dsimp only at hSw); go_simp; first | done | with_reducible rfl)
      try simp only [Act.put, List.setIfInBounds_toArray, List.set_cons_zero, List.set_cons_succ]
      refine wpAnyH_take (i := 1) (oi := ⟨some 51, _, _, _, _, _⟩) (v := ?_) rfl (by kernel_rfl) (by kernel_rfl) (by kernel_rfl) (fun _ _ _ h => h) (Or.inl ⟨by rfl, ?_⟩) (by assumption) ?_
      rotate_left
      focus (intro w hSw; (try dsimp only at hSw); go_simp; first | done | with_reducible rfl)
      try simp only [Act.put, List.setIfInBounds_toArray, List.set_cons_zero, List.set_cons_succ]
      refine wpAnyH_take (i := 2) (oi := ⟨some 52, _, _, _, _, _⟩) (v := ?_) rfl (by kernel_rfl) (by kernel_rfl) (by kernel_rfl) (fun _ _ _ h => h) (Or.inl ⟨by rfl, ?_⟩) (by assumption) ?_
      rotate_left
      focus (intro w hSw; (try dsimp only at hSw); go_simp; first | done | with_reducible rfl)
      try simp only [Act.put, List.setIfInBounds_toArray, List.set_cons_zero, List.set_cons_succ]
      refine wpAnyH_take (i := 3) (oi := ⟨some 53, _, _, _, _, _⟩) (v := ?_) rfl (by kernel_rfl) (by kernel_rfl) (by kernel_rfl) (fun _ _ _ h => h) (Or.inl ⟨by rfl, ?_⟩) (by assumption) ?_
      rotate_left
      focus (intro w hSw; (try dsimp only at hSw); go_simp; first | done | with_reducible rfl)
      try simp only [Act.put, List.setIfInBounds_toArray, List.set_cons_zero, List.set_cons_succ]
      refine wpAnyH_take (i := 4) (oi := ⟨some 54, _, _, _, _, _⟩) (v := ?_) rfl (by kernel_rfl) (by kernel_rfl) (by kernel_rfl) (fun _ _ _ h => h) (Or.inl ⟨by rfl, ?_⟩) (by assumption) ?_
      rotate_left
      focus (intro w hSw; (try dsimp only at hSw); go_simp; first | done | with_reducible rfl)
      try simp only [Act.put, List.setIfInBounds_toArray, List.set_cons_zero, List.set_cons_succ]
      refine wpAnyH_ready (rs := [5]) (by kernel_rfl) (by simp) ?_
      refine AllReadyH.cons (o := ⟨some 55, _, _, _, _, _⟩) rfl (fun K hK => ?_) AllReadyH.nil
      go_simp
      refine hK.out _ _ (by exact alloc_drew _ hHeld) (fun hNew => ?_)
      clear hK K
      clear hHeld; have hHeld := hNew; clear hNew
      try simp only [Act.put, List.setIfInBounds_toArray, List.set_cons_zero, List.set_cons_succ]
      refine wpAnyH_ready (rs := [6]) (by kernel_rfl) (by simp) ?_
      refine AllReadyH.cons (o := ⟨some 56, _, _, _, _, _⟩) rfl (fun K hK => ?_) AllReadyH.nil
      go_simp
      (refine (wT_list (w.heap.size + 1) (pp (Cm.P3 a) (a.ps.take k)) _ 1 [x.p] _ (by exact HW4.out.one _) hT4 (by simp) hTx (by exact few_at Value.string _ _ [x.p] _ rfl)).mono ?_; rintro e w5 ⟨rfl, h5, hg5⟩; have HW5 := Lib.hid h5; have HG5 := Lib.hid hg5; clear h5 hg5)
      go_wp2_with fail
      refine hK.out _ _ (by exact cell_grown hHeld HG5.out hPB) (fun hNew => ?_)
      clear hK K
      clear hHeld; have hHeld := hNew; clear hNew
      try simp only [Act.put, List.setIfInBounds_toArray, List.set_cons_zero, List.set_cons_succ]
      refine wpAnyH_done (by kernel_rfl) ?_ _
      clear hHeld
      have HA5 := Lib.hid (ha_stage HA4.out HG5.out hAB)
      have HP5 := Lib.hid (ha_stage HPx.out HG5.out hPB)
      have HB5 : RowKit.Hid (Below w.heap.size w w5) := Lib.hid (bl_stage HB4.out (Nat.le_succ _) HG5.out)
      go_upto_region 9 with fail
      refine wp_region_held_drew (S := (fun w' => w'.cell? ⟨PX, 1, none⟩ = some (.int .i64 x.v.a) ∧ w'.cell? ⟨PX, 2, none⟩ = some (.int .i64 x.v.b) ∧ w'.cell? ⟨PX, 3, none⟩ = some (.int .i64 x.v.c))) (by kernel_rfl) (by exact ⟨hb_at HP5.out 1 rfl, hb_at HP5.out 2 rfl, hb_at HP5.out 3 rfl⟩) (fun hHeld => ?_)
      refine wpAnyH_take (i := 0) (oi := ⟨some 57, _, _, _, _, _⟩) (v := ?_) rfl (by kernel_rfl) (by kernel_rfl) (by kernel_rfl) (fun _ _ _ h => h) (Or.inl ⟨by rfl, ?_⟩) (by assumption) ?_
      rotate_left
      focus (intro w hSw; (try dsimp only at hSw); go_simp; first | done | with_reducible rfl)
      try simp only [Act.put, List.setIfInBounds_toArray, List.set_cons_zero, List.set_cons_succ]
      refine wpAnyH_take (i := 1) (oi := ⟨some 58, _, _, _, _, _⟩) (v := ?_) rfl (by kernel_rfl) (by kernel_rfl) (by kernel_rfl) (fun _ _ _ h => h) (Or.inl ⟨by rfl, ?_⟩) (by assumption) ?_
      rotate_left
      focus (intro w hSw; (try dsimp only at hSw); go_simp; first | done | with_reducible rfl)
      try simp only [Act.put, List.setIfInBounds_toArray, List.set_cons_zero, List.set_cons_succ]
      refine wpAnyH_take (i := 2) (oi := ⟨some 59, _, _, _, _, _⟩) (v := ?_) rfl (by kernel_rfl) (by kernel_rfl) (by kernel_rfl) (fun _ _ _ h => h) (Or.inl ⟨by rfl, ?_⟩) (by assumption) ?_
      rotate_left
      focus (intro w hSw; (try dsimp only at hSw); go_simp; first | done | with_reducible rfl)
      try simp only [Act.put, List.setIfInBounds_toArray, List.set_cons_zero, List.set_cons_succ]
      refine wpAnyH_take (i := 3) (oi := ⟨some 60, _, _, _, _, _⟩) (v := ?_) rfl (by kernel_rfl) (by kernel_rfl) (by kernel_rfl) (fun _ _ _ h => h) (Or.inl ⟨by rfl, ?_⟩) (by assumption) ?_
      rotate_left
      focus (intro w hSw; (try dsimp only at hSw); go_simp; first | done | with_reducible rfl)
      try simp only [Act.put, List.setIfInBounds_toArray, List.set_cons_zero, List.set_cons_succ]
      refine wpAnyH_take (i := 4) (oi := ⟨some 61, _, _, _, _, _⟩) (v := ?_) rfl (by kernel_rfl) (by kernel_rfl) (by kernel_rfl) (fun _ _ _ h => h) (Or.inl ⟨by rfl, ?_⟩) (by assumption) ?_
      rotate_left
      focus (intro w hSw; (try dsimp only at hSw); go_simp; first | done | with_reducible rfl)
      try simp only [Act.put, List.setIfInBounds_toArray, List.set_cons_zero, List.set_cons_succ]
      refine wpAnyH_take (i := 5) (oi := ⟨some 62, _, _, _, _, _⟩) (v := ?_) rfl (by kernel_rfl) (by kernel_rfl) (by kernel_rfl) (fun _ _ _ h => h) (Or.inl ⟨by rfl, ?_⟩) (by assumption) ?_
      rotate_left
      focus (intro w hSw; (try dsimp only at hSw); go_simp; first | done | with_reducible rfl)
      try simp only [Act.put, List.setIfInBounds_toArray, List.set_cons_zero, List.set_cons_succ]
      refine wpAnyH_take (i := 6) (oi := ⟨some 63, _, _, _, _, _⟩) (v := ?_) rfl (by kernel_rfl) (by kernel_rfl) (by kernel_rfl) (fun _ _ _ h => h) (Or.inl ⟨by rfl, ?_⟩) (by assumption) ?_
      rotate_left
      focus (intro w hSw; (try dsimp only at hSw); go_simp; first | done | with_reducible rfl)
      try simp only [Act.put, List.setIfInBounds_toArray, List.set_cons_zero, List.set_cons_succ]
      refine wpAnyH_take (i := 7) (oi := ⟨some 64, _, _, _, _, _⟩) (v := ?_) rfl (by kernel_rfl) (by kernel_rfl) (by kernel_rfl) (fun _ _ _ h => h) (Or.inl ⟨by rfl, ?_⟩) (by assumption) ?_
      rotate_left
      focus (intro w hSw; (try dsimp only at hSw); go_simp; first | done | with_reducible rfl)
      try simp only [Act.put, List.setIfInBounds_toArray, List.set_cons_zero, List.set_cons_succ]
      refine wpAnyH_take (i := 8) (oi := ⟨some 65, _, _, _, _, _⟩) (v := ?_) rfl (by kernel_rfl) (by kernel_rfl) (by kernel_rfl) (fun _ _ _ h => h) (Or.inl ⟨by rfl, ?_⟩) (by assumption) ?_
      rotate_left
      focus (intro w hSw; (try dsimp only at hSw); go_simp; first | done | with_reducible rfl)
      try simp only [Act.put, List.setIfInBounds_toArray, List.set_cons_zero, List.set_cons_succ]
      refine wpAnyH_take (i := 9) (oi := ⟨some 66, _, _, _, _, _⟩) (v := ?_) rfl (by kernel_rfl) (by kernel_rfl) (by kernel_rfl) (fun _ _ _ h => h) (Or.inl ⟨by rfl, ?_⟩) (by assumption) ?_
      rotate_left
      focus (intro w hSw; (try dsimp only at hSw); go_simp; first | done | with_reducible rfl)
      try simp only [Act.put, List.setIfInBounds_toArray, List.set_cons_zero, List.set_cons_succ]
      refine wpAnyH_take (i := 10) (oi := ⟨some 67, _, _, _, _, _⟩) (v := ?_) rfl (by kernel_rfl) (by kernel_rfl) (by kernel_rfl) (fun _ _ _ h => h) (Or.inl ⟨by rfl, ?_⟩) (by assumption) ?_
      rotate_left
      focus (intro w hSw; (try dsimp only at hSw); go_simp; first | done | with_reducible rfl)
      try simp only [Act.put, List.setIfInBounds_toArray, List.set_cons_zero, List.set_cons_succ]
      refine wpAnyH_take (i := 11) (oi := ⟨some 68, _, _, _, _, _⟩) (v := ?_) rfl (by kernel_rfl) (by kernel_rfl) (by kernel_rfl) (fun _ _ _ h => h) (Or.inl ⟨by rfl, ?_⟩) (by assumption) ?_
      rotate_left
      focus (intro w hSw; (try dsimp only at hSw); go_simp; first | done | with_reducible rfl)
      try simp only [Act.put, List.setIfInBounds_toArray, List.set_cons_zero, List.set_cons_succ]
      refine wpAnyH_ready (rs := [12]) (by kernel_rfl) (by simp) ?_
      refine AllReadyH.cons (o := ⟨some 69, _, _, _, _, _⟩) rfl (fun K hK => ?_) AllReadyH.nil
      go_simp
      refine hK.out _ _ (by exact ⟨alloc_drew _ hHeld.1, alloc_drew _ hHeld.2.1, alloc_drew _ hHeld.2.2⟩) (fun hNew => ?_)
      clear hK K
      clear hHeld; have hHeld := hNew; clear hNew
      try simp only [Act.put, List.setIfInBounds_toArray, List.set_cons_zero, List.set_cons_succ]
      refine wpAnyH_ready (rs := [13]) (by kernel_rfl) (by simp) ?_
      refine AllReadyH.cons (o := ⟨some 70, _, _, _, _, _⟩) rfl (fun K hK => ?_) AllReadyH.nil
      go_simp
      (refine (wI_list (w.heap.size + 1) (many txt [x.p] :: (pp (Cm.P3 a) (a.ps.take k))) _ 3 [x.v.a, x.v.b, x.v.c] _ (by exact HW5.out.one _) hTt (by simp) HX3.out (by exact few_at (Value.int .i64) _ _ [x.v.a, x.v.b, x.v.c] _ rfl)).mono ?_; rintro e w6 ⟨rfl, h6, hg6⟩; have HW6 := Lib.hid h6; have HG6 := Lib.hid hg6; clear h6 hg6)
      go_wp2_with fail
      refine hK.out _ _ (by exact ⟨cell_grown hHeld.1 HG6.out hPB, cell_grown hHeld.2.1 HG6.out hPB, cell_grown hHeld.2.2 HG6.out hPB⟩) (fun hNew => ?_)
      clear hK K
      clear hHeld; have hHeld := hNew; clear hNew
      try simp only [Act.put, List.setIfInBounds_toArray, List.set_cons_zero, List.set_cons_succ]
      refine wpAnyH_done (by kernel_rfl) ?_ _
      clear hHeld
      have HA6 := Lib.hid (ha_stage HA5.out HG6.out hAB)
      have HB6 : RowKit.Hid (Below w.heap.size w w6) := Lib.hid (bl_stage HB5.out (Nat.le_succ _) HG6.out)
      go_wp2
      go_roundw
      case rel => exact ⟨k + 1, by omega, by go_num, by rw [HSN.out]; exact HW6.out, HA6.out, HB6.out⟩
      case measure => simp [intOf]; omega
    · obtain rfl : k = a.ps.length := by omega
      have hdl : decide ((a.ps.length : Int) < a.ps.length) = false := by simp
      have HWf : RowKit.Hid (Wr wr (w.heap.size + 1) (pp (Cm.P3 a) a.ps)) := Lib.hid (by have := HWr.out; rwa [List.take_length] at this)
      have hpp : (text (pp (Cm.P3 a) a.ps)).length ≤ 1000000 := by have := HL4.out a.ps.length; rwa [List.take_length] at this
      clear HWr
      go_upto_region 11 with fail
      refine wp_region_held_drew (S := (fun w' => w'.cell? ⟨w.heap.size, 7, none⟩ = some (.string a.tx))) (by kernel_rfl) (by exact hb_at HAr.out 7 rfl) (fun hHeld => ?_)
      refine wpAnyH_take (i := 0) (oi := ⟨some 72, _, _, _, _, _⟩) (v := ?_) rfl (by kernel_rfl) (by kernel_rfl) (by kernel_rfl) (fun _ _ _ h => h) (Or.inl ⟨by rfl, ?_⟩) (by assumption) ?_
      rotate_left
      focus (intro w hSw; (try dsimp only at hSw); go_simp; first | done | with_reducible rfl)
      try simp only [Act.put, List.setIfInBounds_toArray, List.set_cons_zero, List.set_cons_succ]
      refine wpAnyH_take (i := 1) (oi := ⟨some 73, _, _, _, _, _⟩) (v := ?_) rfl (by kernel_rfl) (by kernel_rfl) (by kernel_rfl) (fun _ _ _ h => h) (Or.inl ⟨by rfl, ?_⟩) (by assumption) ?_
      rotate_left
      focus (intro w hSw; (try dsimp only at hSw); go_simp; first | done | with_reducible rfl)
      try simp only [Act.put, List.setIfInBounds_toArray, List.set_cons_zero, List.set_cons_succ]
      refine wpAnyH_take (i := 2) (oi := ⟨some 74, _, _, _, _, _⟩) (v := ?_) rfl (by kernel_rfl) (by kernel_rfl) (by kernel_rfl) (fun _ _ _ h => h) (Or.inl ⟨by rfl, ?_⟩) (by assumption) ?_
      rotate_left
      focus (intro w hSw; (try dsimp only at hSw); go_simp; first | done | with_reducible rfl)
      try simp only [Act.put, List.setIfInBounds_toArray, List.set_cons_zero, List.set_cons_succ]
      refine wpAnyH_take (i := 3) (oi := ⟨some 75, _, _, _, _, _⟩) (v := ?_) rfl (by kernel_rfl) (by kernel_rfl) (by kernel_rfl) (fun _ _ _ h => h) (Or.inl ⟨by rfl, ?_⟩) (by assumption) ?_
      rotate_left
      focus (intro w hSw; (try dsimp only at hSw); go_simp; first | done | with_reducible rfl)
      try simp only [Act.put, List.setIfInBounds_toArray, List.set_cons_zero, List.set_cons_succ]
      refine wpAnyH_take (i := 4) (oi := ⟨some 76, _, _, _, _, _⟩) (v := ?_) rfl (by kernel_rfl) (by kernel_rfl) (by kernel_rfl) (fun _ _ _ h => h) (Or.inl ⟨by rfl, ?_⟩) (by assumption) ?_
      rotate_left
      focus (intro w hSw; (try dsimp only at hSw); go_simp; first | done | with_reducible rfl)
      try simp only [Act.put, List.setIfInBounds_toArray, List.set_cons_zero, List.set_cons_succ]
      refine wpAnyH_ready (rs := [5]) (by kernel_rfl) (by simp) ?_
      refine AllReadyH.cons (o := ⟨some 77, _, _, _, _, _⟩) rfl (fun K hK => ?_) AllReadyH.nil
      go_simp
      refine hK.out _ _ (by exact alloc_drew _ hHeld) (fun hNew => ?_)
      clear hK K
      clear hHeld; have hHeld := hNew; clear hNew
      try simp only [Act.put, List.setIfInBounds_toArray, List.set_cons_zero, List.set_cons_succ]
      refine wpAnyH_ready (rs := [6]) (by kernel_rfl) (by simp) ?_
      refine AllReadyH.cons (o := ⟨some 78, _, _, _, _, _⟩) rfl (fun K hK => ?_) AllReadyH.nil
      go_simp
      (refine (wT_list (w.heap.size + 1) (pp (Cm.P3 a) a.ps) _ 1 [a.tx] _ (by exact HWf.out.one _) hpp (by simp) ht2 (by exact few_at Value.string _ _ [a.tx] _ rfl)).mono ?_; rintro e w7 ⟨rfl, h7, hg7⟩; have HW7 := Lib.hid h7; have HG7 := Lib.hid hg7; clear h7 hg7)
      go_wp2_with fail
      refine hK.out _ _ (by exact cell_grown hHeld HG7.out hAB) (fun hNew => ?_)
      clear hK K
      clear hHeld; have hHeld := hNew; clear hNew
      try simp only [Act.put, List.setIfInBounds_toArray, List.set_cons_zero, List.set_cons_succ]
      refine wpAnyH_done (by kernel_rfl) ?_ _
      clear hHeld
      have HA7 := Lib.hid (ha_stage HAr.out HG7.out hAB)
      have HB7 : RowKit.Hid (Below w.heap.size w w7) := Lib.hid (bl_stage HBr.out (Nat.le_succ _) HG7.out)
      have x8 : w7.cell? ⟨w.heap.size, 8, none⟩ = some (.bool a.y) := hb_at HA7.out 8 rfl
      have HYN0 := HYN.out
      rcases hyb : a.y with _ | _
      · have HYE : RowKit.Hid (Cm.yn a.y = 0) := Lib.hid (by rw [hyb]; rfl)
        rw [hyb] at x8
        clear hyb HYN0
        go_upto_region 16 with (go_at_call 22; ((refine (wU_list (w.heap.size + 1) (Cm.P5 a) _ 1 [0] _ (by exact HW7.out.below (below_alloc _ _)) hp5 (by simp) (by simp) (by exact few_at0 (fun k : Nat => Value.int .u64 k) _ _ _ _ rfl)).mono ?_; rintro e w8 ⟨rfl, h8, hg8⟩; have HW8' := Lib.hid h8; have HG8 := Lib.hid hg8; clear h8 hg8)))
        clear x8
        have HA8 := Lib.hid (hb_grown (hb_alloc HA7.out _) HG8.out (by simp))
        have HB8 : RowKit.Hid (Below w.heap.size w w8) := Lib.hid ((HB7.out.alloc HB7.out.size _).grown HG8.out (by rw [World.size_alloc]; exact Nat.le_succ_of_le HB7.out.size) (fun j hj => by cases hj; exact Nat.le_succ _))
        have HW8 : RowKit.Hid (Wr w8 (w.heap.size + 1) (Cm.P6 a)) := Lib.hid (by show Wr w8 (w.heap.size + 1) (many Cx.uv [Cm.yn a.y] :: Cm.P5 a); rw [HYE.out]; exact HW8'.out)
        refine wp_region_held_drew (S := (fun w' => w'.cell? ⟨w.heap.size, 9, none⟩ = some (.int .i64 a.r1) ∧ w'.cell? ⟨w.heap.size, 10, none⟩ = some (.int .i64 a.r2) ∧ w'.cell? ⟨w.heap.size, 11, none⟩ = some (.int .i64 a.r3) ∧ w'.cell? ⟨w.heap.size, 12, none⟩ = some (.int .i64 a.r4))) (by kernel_rfl) (by exact ⟨hb_at HA8.out 9 rfl, hb_at HA8.out 10 rfl, hb_at HA8.out 11 rfl, hb_at HA8.out 12 rfl⟩) (fun hHeld => ?_)
        refine wpAnyH_take (i := 0) (oi := ⟨some 87, _, _, _, _, _⟩) (v := ?_) rfl (by kernel_rfl) (by kernel_rfl) (by kernel_rfl) (fun _ _ _ h => h) (Or.inl ⟨by rfl, ?_⟩) (by assumption) ?_
        rotate_left
        focus (intro w hSw; (try dsimp only at hSw); go_simp; first | done | with_reducible rfl)
        try simp only [Act.put, List.setIfInBounds_toArray, List.set_cons_zero, List.set_cons_succ]
        refine wpAnyH_take (i := 1) (oi := ⟨some 88, _, _, _, _, _⟩) (v := ?_) rfl (by kernel_rfl) (by kernel_rfl) (by kernel_rfl) (fun _ _ _ h => h) (Or.inl ⟨by rfl, ?_⟩) (by assumption) ?_
        rotate_left
        focus (intro w hSw; (try dsimp only at hSw); go_simp; first | done | with_reducible rfl)
        try simp only [Act.put, List.setIfInBounds_toArray, List.set_cons_zero, List.set_cons_succ]
        refine wpAnyH_take (i := 2) (oi := ⟨some 89, _, _, _, _, _⟩) (v := ?_) rfl (by kernel_rfl) (by kernel_rfl) (by kernel_rfl) (fun _ _ _ h => h) (Or.inl ⟨by rfl, ?_⟩) (by assumption) ?_
        rotate_left
        focus (intro w hSw; (try dsimp only at hSw); go_simp; first | done | with_reducible rfl)
        try simp only [Act.put, List.setIfInBounds_toArray, List.set_cons_zero, List.set_cons_succ]
        refine wpAnyH_take (i := 3) (oi := ⟨some 90, _, _, _, _, _⟩) (v := ?_) rfl (by kernel_rfl) (by kernel_rfl) (by kernel_rfl) (fun _ _ _ h => h) (Or.inl ⟨by rfl, ?_⟩) (by assumption) ?_
        rotate_left
        focus (intro w hSw; (try dsimp only at hSw); go_simp; first | done | with_reducible rfl)
        try simp only [Act.put, List.setIfInBounds_toArray, List.set_cons_zero, List.set_cons_succ]
        refine wpAnyH_take (i := 4) (oi := ⟨some 91, _, _, _, _, _⟩) (v := ?_) rfl (by kernel_rfl) (by kernel_rfl) (by kernel_rfl) (fun _ _ _ h => h) (Or.inl ⟨by rfl, ?_⟩) (by assumption) ?_
        rotate_left
        focus (intro w hSw; (try dsimp only at hSw); go_simp; first | done | with_reducible rfl)
        try simp only [Act.put, List.setIfInBounds_toArray, List.set_cons_zero, List.set_cons_succ]
        refine wpAnyH_take (i := 5) (oi := ⟨some 92, _, _, _, _, _⟩) (v := ?_) rfl (by kernel_rfl) (by kernel_rfl) (by kernel_rfl) (fun _ _ _ h => h) (Or.inl ⟨by rfl, ?_⟩) (by assumption) ?_
        rotate_left
        focus (intro w hSw; (try dsimp only at hSw); go_simp; first | done | with_reducible rfl)
        try simp only [Act.put, List.setIfInBounds_toArray, List.set_cons_zero, List.set_cons_succ]
        refine wpAnyH_take (i := 6) (oi := ⟨some 93, _, _, _, _, _⟩) (v := ?_) rfl (by kernel_rfl) (by kernel_rfl) (by kernel_rfl) (fun _ _ _ h => h) (Or.inl ⟨by rfl, ?_⟩) (by assumption) ?_
        rotate_left
        focus (intro w hSw; (try dsimp only at hSw); go_simp; first | done | with_reducible rfl)
        try simp only [Act.put, List.setIfInBounds_toArray, List.set_cons_zero, List.set_cons_succ]
        refine wpAnyH_take (i := 7) (oi := ⟨some 94, _, _, _, _, _⟩) (v := ?_) rfl (by kernel_rfl) (by kernel_rfl) (by kernel_rfl) (fun _ _ _ h => h) (Or.inl ⟨by rfl, ?_⟩) (by assumption) ?_
        rotate_left
        focus (intro w hSw; (try dsimp only at hSw); go_simp; first | done | with_reducible rfl)
        try simp only [Act.put, List.setIfInBounds_toArray, List.set_cons_zero, List.set_cons_succ]
        refine wpAnyH_take (i := 8) (oi := ⟨some 95, _, _, _, _, _⟩) (v := ?_) rfl (by kernel_rfl) (by kernel_rfl) (by kernel_rfl) (fun _ _ _ h => h) (Or.inl ⟨by rfl, ?_⟩) (by assumption) ?_
        rotate_left
        focus (intro w hSw; (try dsimp only at hSw); go_simp; first | done | with_reducible rfl)
        try simp only [Act.put, List.setIfInBounds_toArray, List.set_cons_zero, List.set_cons_succ]
        refine wpAnyH_take (i := 9) (oi := ⟨some 96, _, _, _, _, _⟩) (v := ?_) rfl (by kernel_rfl) (by kernel_rfl) (by kernel_rfl) (fun _ _ _ h => h) (Or.inl ⟨by rfl, ?_⟩) (by assumption) ?_
        rotate_left
        focus (intro w hSw; (try dsimp only at hSw); go_simp; first | done | with_reducible rfl)
        try simp only [Act.put, List.setIfInBounds_toArray, List.set_cons_zero, List.set_cons_succ]
        refine wpAnyH_take (i := 10) (oi := ⟨some 97, _, _, _, _, _⟩) (v := ?_) rfl (by kernel_rfl) (by kernel_rfl) (by kernel_rfl) (fun _ _ _ h => h) (Or.inl ⟨by rfl, ?_⟩) (by assumption) ?_
        rotate_left
        focus (intro w hSw; (try dsimp only at hSw); go_simp; first | done | with_reducible rfl)
        try simp only [Act.put, List.setIfInBounds_toArray, List.set_cons_zero, List.set_cons_succ]
        refine wpAnyH_take (i := 11) (oi := ⟨some 98, _, _, _, _, _⟩) (v := ?_) rfl (by kernel_rfl) (by kernel_rfl) (by kernel_rfl) (fun _ _ _ h => h) (Or.inl ⟨by rfl, ?_⟩) (by assumption) ?_
        rotate_left
        focus (intro w hSw; (try dsimp only at hSw); go_simp; first | done | with_reducible rfl)
        try simp only [Act.put, List.setIfInBounds_toArray, List.set_cons_zero, List.set_cons_succ]
        refine wpAnyH_take (i := 12) (oi := ⟨some 99, _, _, _, _, _⟩) (v := ?_) rfl (by kernel_rfl) (by kernel_rfl) (by kernel_rfl) (fun _ _ _ h => h) (Or.inl ⟨by rfl, ?_⟩) (by assumption) ?_
        rotate_left
        focus (intro w hSw; (try dsimp only at hSw); go_simp; first | done | with_reducible rfl)
        try simp only [Act.put, List.setIfInBounds_toArray, List.set_cons_zero, List.set_cons_succ]
        refine wpAnyH_take (i := 13) (oi := ⟨some 100, _, _, _, _, _⟩) (v := ?_) rfl (by kernel_rfl) (by kernel_rfl) (by kernel_rfl) (fun _ _ _ h => h) (Or.inl ⟨by rfl, ?_⟩) (by assumption) ?_
        rotate_left
        focus (intro w hSw; (try dsimp only at hSw); go_simp; first | done | with_reducible rfl)
        try simp only [Act.put, List.setIfInBounds_toArray, List.set_cons_zero, List.set_cons_succ]
        refine wpAnyH_take (i := 14) (oi := ⟨some 101, _, _, _, _, _⟩) (v := ?_) rfl (by kernel_rfl) (by kernel_rfl) (by kernel_rfl) (fun _ _ _ h => h) (Or.inl ⟨by rfl, ?_⟩) (by assumption) ?_
        rotate_left
        focus (intro w hSw; (try dsimp only at hSw); go_simp; first | done | with_reducible rfl)
        try simp only [Act.put, List.setIfInBounds_toArray, List.set_cons_zero, List.set_cons_succ]
        refine wpAnyH_ready (rs := [15]) (by kernel_rfl) (by simp) ?_
        refine AllReadyH.cons (o := ⟨some 102, _, _, _, _, _⟩) rfl (fun K hK => ?_) AllReadyH.nil
        go_simp
        refine hK.out _ _ (by exact ⟨alloc_drew _ hHeld.1, alloc_drew _ hHeld.2.1, alloc_drew _ hHeld.2.2.1, alloc_drew _ hHeld.2.2.2⟩) (fun hNew => ?_)
        clear hK K
        clear hHeld; have hHeld := hNew; clear hNew
        try simp only [Act.put, List.setIfInBounds_toArray, List.set_cons_zero, List.set_cons_succ]
        refine wpAnyH_ready (rs := [16]) (by kernel_rfl) (by simp) ?_
        refine AllReadyH.cons (o := ⟨some 103, _, _, _, _, _⟩) rfl (fun K hK => ?_) AllReadyH.nil
        go_simp
        (refine (wI_list (w.heap.size + 1) (Cm.P6 a) _ 4 [a.r1, a.r2, a.r3, a.r4] _ (by exact HW8.out.one _) hp6 (by simp) HR4.out (by exact few_at (Value.int .i64) _ _ [a.r1, a.r2, a.r3, a.r4] _ rfl)).mono ?_; rintro e w9 ⟨rfl, h9, hg9⟩; have HW9 := Lib.hid h9; have HG9 := Lib.hid hg9; clear h9 hg9)
        go_wp2_with fail
        refine hK.out _ _ (by exact ⟨cell_grown hHeld.1 HG9.out hAB, cell_grown hHeld.2.1 HG9.out hAB, cell_grown hHeld.2.2.1 HG9.out hAB, cell_grown hHeld.2.2.2 HG9.out hAB⟩) (fun hNew => ?_)
        clear hK K
        clear hHeld; have hHeld := hNew; clear hNew
        try simp only [Act.put, List.setIfInBounds_toArray, List.set_cons_zero, List.set_cons_succ]
        refine wpAnyH_done (by kernel_rfl) ?_ _
        clear hHeld
        have HB9 : RowKit.Hid (Below w.heap.size w w9) := Lib.hid (bl_stage HB8.out (Nat.le_succ _) HG9.out)
        go_wp2_with (go_at_call 26; ((with_reducible refine (wString_any (w.heap.size + 1) (Cm.P7 a) _ (by exact HW9.out) (Cm.P7_ne a) HP7.out).mono ?_); rintro e w10 ⟨rfl, hb10⟩; rw [HTX.out]))
        go_ret
        exact ⟨rfl, HB9.out.trans (hb10.mono HB9.out.size)⟩
      · have HYE : RowKit.Hid (Cm.yn a.y = 1) := Lib.hid (by rw [hyb]; rfl)
        rw [hyb] at x8
        clear hyb HYN0
        go_upto_region 16 with (go_at_call 22; ((refine (wU_list (w.heap.size + 1) (Cm.P5 a) _ 1 [1] _ (by exact HW7.out.below (below_alloc _ _)) hp5 (by simp) (by simp) (by exact few_at0 (fun k : Nat => Value.int .u64 k) _ _ _ _ rfl)).mono ?_; rintro e w8 ⟨rfl, h8, hg8⟩; have HW8' := Lib.hid h8; have HG8 := Lib.hid hg8; clear h8 hg8)))
        clear x8
        have HA8 := Lib.hid (hb_grown (hb_alloc HA7.out _) HG8.out (by simp))
        have HB8 : RowKit.Hid (Below w.heap.size w w8) := Lib.hid ((HB7.out.alloc HB7.out.size _).grown HG8.out (by rw [World.size_alloc]; exact Nat.le_succ_of_le HB7.out.size) (fun j hj => by cases hj; exact Nat.le_succ _))
        have HW8 : RowKit.Hid (Wr w8 (w.heap.size + 1) (Cm.P6 a)) := Lib.hid (by show Wr w8 (w.heap.size + 1) (many Cx.uv [Cm.yn a.y] :: Cm.P5 a); rw [HYE.out]; exact HW8'.out)
        refine wp_region_held_drew (S := (fun w' => w'.cell? ⟨w.heap.size, 9, none⟩ = some (.int .i64 a.r1) ∧ w'.cell? ⟨w.heap.size, 10, none⟩ = some (.int .i64 a.r2) ∧ w'.cell? ⟨w.heap.size, 11, none⟩ = some (.int .i64 a.r3) ∧ w'.cell? ⟨w.heap.size, 12, none⟩ = some (.int .i64 a.r4))) (by kernel_rfl) (by exact ⟨hb_at HA8.out 9 rfl, hb_at HA8.out 10 rfl, hb_at HA8.out 11 rfl, hb_at HA8.out 12 rfl⟩) (fun hHeld => ?_)
        refine wpAnyH_take (i := 0) (oi := ⟨some 87, _, _, _, _, _⟩) (v := ?_) rfl (by kernel_rfl) (by kernel_rfl) (by kernel_rfl) (fun _ _ _ h => h) (Or.inl ⟨by rfl, ?_⟩) (by assumption) ?_
        rotate_left
        focus (intro w hSw; (try dsimp only at hSw); go_simp; first | done | with_reducible rfl)
        try simp only [Act.put, List.setIfInBounds_toArray, List.set_cons_zero, List.set_cons_succ]
        refine wpAnyH_take (i := 1) (oi := ⟨some 88, _, _, _, _, _⟩) (v := ?_) rfl (by kernel_rfl) (by kernel_rfl) (by kernel_rfl) (fun _ _ _ h => h) (Or.inl ⟨by rfl, ?_⟩) (by assumption) ?_
        rotate_left
        focus (intro w hSw; (try dsimp only at hSw); go_simp; first | done | with_reducible rfl)
        try simp only [Act.put, List.setIfInBounds_toArray, List.set_cons_zero, List.set_cons_succ]
        refine wpAnyH_take (i := 2) (oi := ⟨some 89, _, _, _, _, _⟩) (v := ?_) rfl (by kernel_rfl) (by kernel_rfl) (by kernel_rfl) (fun _ _ _ h => h) (Or.inl ⟨by rfl, ?_⟩) (by assumption) ?_
        rotate_left
        focus (intro w hSw; (try dsimp only at hSw); go_simp; first | done | with_reducible rfl)
        try simp only [Act.put, List.setIfInBounds_toArray, List.set_cons_zero, List.set_cons_succ]
        refine wpAnyH_take (i := 3) (oi := ⟨some 90, _, _, _, _, _⟩) (v := ?_) rfl (by kernel_rfl) (by kernel_rfl) (by kernel_rfl) (fun _ _ _ h => h) (Or.inl ⟨by rfl, ?_⟩) (by assumption) ?_
        rotate_left
        focus (intro w hSw; (try dsimp only at hSw); go_simp; first | done | with_reducible rfl)
        try simp only [Act.put, List.setIfInBounds_toArray, List.set_cons_zero, List.set_cons_succ]
        refine wpAnyH_take (i := 4) (oi := ⟨some 91, _, _, _, _, _⟩) (v := ?_) rfl (by kernel_rfl) (by kernel_rfl) (by kernel_rfl) (fun _ _ _ h => h) (Or.inl ⟨by rfl, ?_⟩) (by assumption) ?_
        rotate_left
        focus (intro w hSw; (try dsimp only at hSw); go_simp; first | done | with_reducible rfl)
        try simp only [Act.put, List.setIfInBounds_toArray, List.set_cons_zero, List.set_cons_succ]
        refine wpAnyH_take (i := 5) (oi := ⟨some 92, _, _, _, _, _⟩) (v := ?_) rfl (by kernel_rfl) (by kernel_rfl) (by kernel_rfl) (fun _ _ _ h => h) (Or.inl ⟨by rfl, ?_⟩) (by assumption) ?_
        rotate_left
        focus (intro w hSw; (try dsimp only at hSw); go_simp; first | done | with_reducible rfl)
        try simp only [Act.put, List.setIfInBounds_toArray, List.set_cons_zero, List.set_cons_succ]
        refine wpAnyH_take (i := 6) (oi := ⟨some 93, _, _, _, _, _⟩) (v := ?_) rfl (by kernel_rfl) (by kernel_rfl) (by kernel_rfl) (fun _ _ _ h => h) (Or.inl ⟨by rfl, ?_⟩) (by assumption) ?_
        rotate_left
        focus (intro w hSw; (try dsimp only at hSw); go_simp; first | done | with_reducible rfl)
        try simp only [Act.put, List.setIfInBounds_toArray, List.set_cons_zero, List.set_cons_succ]
        refine wpAnyH_take (i := 7) (oi := ⟨some 94, _, _, _, _, _⟩) (v := ?_) rfl (by kernel_rfl) (by kernel_rfl) (by kernel_rfl) (fun _ _ _ h => h) (Or.inl ⟨by rfl, ?_⟩) (by assumption) ?_
        rotate_left
        focus (intro w hSw; (try dsimp only at hSw); go_simp; first | done | with_reducible rfl)
        try simp only [Act.put, List.setIfInBounds_toArray, List.set_cons_zero, List.set_cons_succ]
        refine wpAnyH_take (i := 8) (oi := ⟨some 95, _, _, _, _, _⟩) (v := ?_) rfl (by kernel_rfl) (by kernel_rfl) (by kernel_rfl) (fun _ _ _ h => h) (Or.inl ⟨by rfl, ?_⟩) (by assumption) ?_
        rotate_left
        focus (intro w hSw; (try dsimp only at hSw); go_simp; first | done | with_reducible rfl)
        try simp only [Act.put, List.setIfInBounds_toArray, List.set_cons_zero, List.set_cons_succ]
        refine wpAnyH_take (i := 9) (oi := ⟨some 96, _, _, _, _, _⟩) (v := ?_) rfl (by kernel_rfl) (by kernel_rfl) (by kernel_rfl) (fun _ _ _ h => h) (Or.inl ⟨by rfl, ?_⟩) (by assumption) ?_
        rotate_left
        focus (intro w hSw; (try dsimp only at hSw); go_simp; first | done | with_reducible rfl)
        try simp only [Act.put, List.setIfInBounds_toArray, List.set_cons_zero, List.set_cons_succ]
        refine wpAnyH_take (i := 10) (oi := ⟨some 97, _, _, _, _, _⟩) (v := ?_) rfl (by kernel_rfl) (by kernel_rfl) (by kernel_rfl) (fun _ _ _ h => h) (Or.inl ⟨by rfl, ?_⟩) (by assumption) ?_
        rotate_left
        focus (intro w hSw; (try dsimp only at hSw); go_simp; first | done | with_reducible rfl)
        try simp only [Act.put, List.setIfInBounds_toArray, List.set_cons_zero, List.set_cons_succ]
        refine wpAnyH_take (i := 11) (oi := ⟨some 98, _, _, _, _, _⟩) (v := ?_) rfl (by kernel_rfl) (by kernel_rfl) (by kernel_rfl) (fun _ _ _ h => h) (Or.inl ⟨by rfl, ?_⟩) (by assumption) ?_
        rotate_left
        focus (intro w hSw; (try dsimp only at hSw); go_simp; first | done | with_reducible rfl)
        try simp only [Act.put, List.setIfInBounds_toArray, List.set_cons_zero, List.set_cons_succ]
        refine wpAnyH_take (i := 12) (oi := ⟨some 99, _, _, _, _, _⟩) (v := ?_) rfl (by kernel_rfl) (by kernel_rfl) (by kernel_rfl) (fun _ _ _ h => h) (Or.inl ⟨by rfl, ?_⟩) (by assumption) ?_
        rotate_left
        focus (intro w hSw; (try dsimp only at hSw); go_simp; first | done | with_reducible rfl)
        try simp only [Act.put, List.setIfInBounds_toArray, List.set_cons_zero, List.set_cons_succ]
        refine wpAnyH_take (i := 13) (oi := ⟨some 100, _, _, _, _, _⟩) (v := ?_) rfl (by kernel_rfl) (by kernel_rfl) (by kernel_rfl) (fun _ _ _ h => h) (Or.inl ⟨by rfl, ?_⟩) (by assumption) ?_
        rotate_left
        focus (intro w hSw; (try dsimp only at hSw); go_simp; first | done | with_reducible rfl)
        try simp only [Act.put, List.setIfInBounds_toArray, List.set_cons_zero, List.set_cons_succ]
        refine wpAnyH_take (i := 14) (oi := ⟨some 101, _, _, _, _, _⟩) (v := ?_) rfl (by kernel_rfl) (by kernel_rfl) (by kernel_rfl) (fun _ _ _ h => h) (Or.inl ⟨by rfl, ?_⟩) (by assumption) ?_
        rotate_left
        focus (intro w hSw; (try dsimp only at hSw); go_simp; first | done | with_reducible rfl)
        try simp only [Act.put, List.setIfInBounds_toArray, List.set_cons_zero, List.set_cons_succ]
        refine wpAnyH_ready (rs := [15]) (by kernel_rfl) (by simp) ?_
        refine AllReadyH.cons (o := ⟨some 102, _, _, _, _, _⟩) rfl (fun K hK => ?_) AllReadyH.nil
        go_simp
        refine hK.out _ _ (by exact ⟨alloc_drew _ hHeld.1, alloc_drew _ hHeld.2.1, alloc_drew _ hHeld.2.2.1, alloc_drew _ hHeld.2.2.2⟩) (fun hNew => ?_)
        clear hK K
        clear hHeld; have hHeld := hNew; clear hNew
        try simp only [Act.put, List.setIfInBounds_toArray, List.set_cons_zero, List.set_cons_succ]
        refine wpAnyH_ready (rs := [16]) (by kernel_rfl) (by simp) ?_
        refine AllReadyH.cons (o := ⟨some 103, _, _, _, _, _⟩) rfl (fun K hK => ?_) AllReadyH.nil
        go_simp
        (refine (wI_list (w.heap.size + 1) (Cm.P6 a) _ 4 [a.r1, a.r2, a.r3, a.r4] _ (by exact HW8.out.one _) hp6 (by simp) HR4.out (by exact few_at (Value.int .i64) _ _ [a.r1, a.r2, a.r3, a.r4] _ rfl)).mono ?_; rintro e w9 ⟨rfl, h9, hg9⟩; have HW9 := Lib.hid h9; have HG9 := Lib.hid hg9; clear h9 hg9)
        go_wp2_with fail
        refine hK.out _ _ (by exact ⟨cell_grown hHeld.1 HG9.out hAB, cell_grown hHeld.2.1 HG9.out hAB, cell_grown hHeld.2.2.1 HG9.out hAB, cell_grown hHeld.2.2.2 HG9.out hAB⟩) (fun hNew => ?_)
        clear hK K
        clear hHeld; have hHeld := hNew; clear hNew
        try simp only [Act.put, List.setIfInBounds_toArray, List.set_cons_zero, List.set_cons_succ]
        refine wpAnyH_done (by kernel_rfl) ?_ _
        clear hHeld
        have HB9 : RowKit.Hid (Below w.heap.size w w9) := Lib.hid (bl_stage HB8.out (Nat.le_succ _) HG9.out)
        go_wp2_with (go_at_call 26; ((with_reducible refine (wString_any (w.heap.size + 1) (Cm.P7 a) _ (by exact HW9.out) (Cm.P7_ne a) HP7.out).mono ?_); rintro e w10 ⟨rfl, hb10⟩; rw [HTX.out]))
        go_ret
        exact ⟨rfl, HB9.out.trans (hb10.mono HB9.out.size)⟩
end Go.Proofs.Ytfbfdkjimoomlaa
