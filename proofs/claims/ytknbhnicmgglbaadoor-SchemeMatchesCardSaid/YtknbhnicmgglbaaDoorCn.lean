/- Canon of any type. -/
import Derived.Test.YtknbhnicmgglbaaDoorNa
import Derived.Test.YtknbhnicmgglbaaDoorU8
import Derived.Test.YtknbhnicmgglbaaDoorZm
import Derived.Laws.MakeOwn
namespace Go.Proofs.YtknbhnicmgglbaaDoor
open Go.RowKit
set_option linter.unusedSimpArgs false
set_option linter.unusedVariables false
theorem info24z : (Tryd.prog.info? 24).map (fun i => (i.zero, i.size, i.bytes)) = some (some zT, 5, 72) := by kernel_rfl
/-- What is put for so many names. -/
def nmT (n : Nat) : List Tm := (List.range n).map fun i => vT (nmB i)
/-- A type whose variables are named in the order in which they are met. -/
def canonT (d : Nat) (t : Tm) : Tm := sub (byOf (fg (varsT d [] t) (varsT d [] t).length) (nmT (varsT d [] t).length)) d t
/-- The cells of the names' terms, the first j of them made. -/
def cellJ (j i : Nat) : Nat → Value
  | 0 => .int .i64 (if i < j then 1 else 0)
  | 1 => .string ⟨#[]⟩
  | 2 => .string (if i < j then nmB i else ⟨#[]⟩)
  | 3 => .int .i64 0
  | _ => .slice none 0 0
def byA (n j : Nat) : Array Value := (Array.range (n * 5)).map fun k => cellJ j (k / 5) (k % 5)
theorem byA_at (n j i r : Nat) (hi : i < n) (hr : r < 5) : (byA n j)[i * 5 + r]? = some (cellJ j i r) := by
  unfold byA
  have h1 : i * 5 + r < n * 5 := by omega
  rw [Array.getElem?_map, Array.getElem?_range, if_pos h1]
  simp only [Option.map_some]
  congr 2
  · omega
  · omega
theorem byA_made (n : Nat) : madeCells zT.cells (n * 5) = byA n 0 := by
  unfold madeCells byA
  congr 1
  funext k
  have h1 : k % zT.cells.size = k % 5 := rfl
  rw [h1]
  have h2 : k % 5 = 0 ∨ k % 5 = 1 ∨ k % 5 = 2 ∨ k % 5 = 3 ∨ k % 5 = 4 := by omega
  rcases h2 with h | h | h | h | h <;> rw [h] <;> rfl
theorem byA_next (n j : Nat) (hj : j < n) : (((((byA n j).setIfInBounds (j * 5) (.int .i64 1)).setIfInBounds (j * 5 + 1) (.string ⟨#[]⟩)).setIfInBounds (j * 5 + 2) (.string (nmB j))).setIfInBounds (j * 5 + 3) (.int .i64 0)).setIfInBounds (j * 5 + 4) (.slice none 0 0) = byA n (j + 1) := by
  apply Array.ext_getElem?
  intro k
  simp only [Array.getElem?_setIfInBounds]
  have hsz : (byA n j).size = n * 5 := by simp [byA]
  have hsz2 : (byA n (j + 1)).size = n * 5 := by simp [byA]
  by_cases hk : k < n * 5
  · obtain ⟨i, r, rfl, hr⟩ : ∃ i r, k = i * 5 + r ∧ r < 5 := ⟨k / 5, k % 5, by omega, by omega⟩
    have hi : i < n := by omega
    rw [byA_at n j i r hi hr, byA_at n (j + 1) i r hi hr]
    simp only [Array.size_setIfInBounds, hsz]
    by_cases hij : i = j
    · subst hij
      have h2 : r = 0 ∨ r = 1 ∨ r = 2 ∨ r = 3 ∨ r = 4 := by omega
      rcases h2 with rfl | rfl | rfl | rfl | rfl
      · rw [if_neg (by omega), if_neg (by omega), if_neg (by omega), if_neg (by omega), if_pos (by omega), if_pos (by omega)]
        simp [cellJ]
      · rw [if_neg (by omega), if_neg (by omega), if_neg (by omega), if_pos (by omega), if_pos (by omega)]
        simp [cellJ]
      · rw [if_neg (by omega), if_neg (by omega), if_pos (by omega), if_pos (by omega)]
        simp [cellJ]
      · rw [if_neg (by omega), if_pos (by omega), if_pos (by omega)]
        simp [cellJ]
      · rw [if_pos (by omega), if_pos (by omega)]
        simp [cellJ]
    · rw [if_neg (by omega), if_neg (by omega), if_neg (by omega), if_neg (by omega), if_neg (by omega)]
      congr 1
      have h2 : r = 0 ∨ r = 1 ∨ r = 2 ∨ r = 3 ∨ r = 4 := by omega
      have h3 : (i < j + 1) ↔ (i < j) := by omega
      rcases h2 with rfl | rfl | rfl | rfl | rfl <;> simp [cellJ, h3]
  · rw [if_neg (by omega), if_neg (by omega), if_neg (by omega), if_neg (by omega), if_neg (by omega), Array.getElem?_eq_none (by omega), Array.getElem?_eq_none (by omega)]
theorem byA_kids {w : World} {g n : Nat} (hn : n ≤ 2600) (h : w.heap[g]? = some (.cells (byA n n) 24 (0, 0))) : KidsT w 1 (.slice (some ⟨g, 0, none⟩) n n) (nmT n) := by
  have hl : (nmT n).length = n := by simp [nmT]
  refine ⟨some ⟨g, 0, none⟩, n, by rw [hl], by rw [hl]; unfold maxLen; omega, fun i x hx => ?_⟩
  have hi : i < n := by
    have := (List.getElem?_eq_some_iff.1 hx).1
    omega
  have hx2 : x = vT (nmB i) := by
    unfold nmT at hx
    rw [List.getElem?_map, List.getElem?_range hi] at hx
    exact (Option.some.inj hx).symm
  subst hx2
  have e : ∀ r, r < 5 → w.cell? ⟨g, i * 5 + r, none⟩ = some (cellJ n i r) := fun r hr => by rw [hb_cell h, byA_at n n i r hi hr]
  have e0 := e 0 (by omega)
  have e1 := e 1 (by omega)
  have e2 := e 2 (by omega)
  have e3 := e 3 (by omega)
  have e4 := e 4 (by omega)
  simp only [cellJ, if_pos hi] at e0 e1 e2 e3 e4
  refine ⟨g, 0, 1, ⟨#[]⟩, nmB i, 0, .slice none 0 0, rfl, ?_, leaf_is w 0 1 _ (nm_size (by omega))⟩
  rw [Nat.zero_add]
  exact ⟨e0, e1, e2, e3, e4⟩
theorem makeM (m : Nat) (hm : m ≤ 2600) (W : World) : (Instr.makeSlice 22 (.int .i64 (m : Int)) (.int .i64 (m : Int))).run Tryd.prog W = .ok (.slice (some ⟨W.heap.size, 0, none⟩) m m) (W.alloc (.cells (byA m 0) 24)) := by
  obtain ⟨i0, hi, hz0, hz1, hz2⟩ := info_parts info24z
  have h := run_makeSlice (P := Tryd.prog) (w := W) 22 24 i0 zT Tryd.underlying22 hi hz0 .i64 .i64 m m (by omega) (by omega) (by rw [hz1]; simp; omega) (by rw [hz2]; omega) (by omega)
  rw [hz1, Int.toNat_natCast, byA_made] at h
  exact h
def CanA (d : Nat) (t : Tm) (w : World) (e : Ending) (w' : World) : Prop := ∃ k p n N q l c, e = .returned (tv k p n N (.slice q l c)) ∧ IsX (fun b => w.heap.size ≤ b) w' (1 + d) (tv k p n N (.slice q l c)) (canonT d t) ∧ Below w.heap.size w w'
set_option maxRecDepth 100000 in
set_option maxHeartbeats 4000000 in
theorem canonA_any (d : Nat) (v : Value) (t : Tm) (w : World) (h : IsT w d v t) (hs : Sm d t) (hz : tszN d t ≤ 30000) (hl : (varsT d [] t).length ≤ 2600) : Calls Tryd.prog 16 #[v] w (CanA d t w) := by
  have HT := Lib.hid h
  obtain ⟨d1, k, p, n, N, s1, kids, e1, e2, rfl, _, _, q, c, rfl, _, _⟩ := h.open
  generalize kids.length = l at *
  clear h e1 e2
  have k0 := hb_alloc (hb_alloc (hb_new w (.cells #[.int .i64 k, .string p, .string n, .int .i64 N, .slice q l c] 24)) (.cells #[.int .i64 0, .string ⟨#[]⟩, .string ⟨#[]⟩, .int .i64 0, .slice none 0 0] 24)) (.cells #[.int .i64 k, .string p, .string n, .int .i64 N, .slice q l c] 24)
  have k1 := hb_alloc (hb_new (w.alloc (.cells #[.int .i64 k, .string p, .string n, .int .i64 N, .slice q l c] 24)) (.cells #[.int .i64 0, .string ⟨#[]⟩, .string ⟨#[]⟩, .int .i64 0, .slice none 0 0] 24)) (.cells #[.int .i64 k, .string p, .string n, .int .i64 N, .slice q l c] 24)
  have k2 := hb_new ((w.alloc (.cells #[.int .i64 k, .string p, .string n, .int .i64 N, .slice q l c] 24)).alloc (.cells #[.int .i64 0, .string ⟨#[]⟩, .string ⟨#[]⟩, .int .i64 0, .slice none 0 0] 24)) (.cells #[.int .i64 k, .string p, .string n, .int .i64 N, .slice q l c] 24)
  simp only [World.size_alloc] at k1 k2
  have hB0 := (below2 w (.cells #[.int .i64 k, .string p, .string n, .int .i64 N, .slice q l c] 24) (.cells #[.int .i64 0, .string ⟨#[]⟩, .string ⟨#[]⟩, .int .i64 0, .slice none 0 0] 24)).trans ((below_alloc ((w.alloc (.cells #[.int .i64 k, .string p, .string n, .int .i64 N, .slice q l c] 24)).alloc (.cells #[.int .i64 0, .string ⟨#[]⟩, .string ⟨#[]⟩, .int .i64 0, .slice none 0 0] 24)) (.cells #[.int .i64 k, .string p, .string n, .int .i64 N, .slice q l c] 24)).mono (by simp; omega))
  have K0 := Lib.hid k0
  have K1 := Lib.hid k1
  have K2 := Lib.hid k2
  have HB0 := Lib.hid hB0
  have HVA := Lib.hid (vars_any d [t] _ _ (KidsT.one k2 (HT.out.below hB0)) (by show [t].foldl (fun n t => n + tszN d t) 0 ≤ 100000; simp only [List.foldl_cons, List.foldl_nil]; omega))
  have HS := Lib.hid hs
  have hsz : ∀ s ∈ varsT d [] t, s.size ≤ maxLen := vars_sz HT.out (ns := []) (by simp)
  have HSZ := Lib.hid hsz
  have hcan : canonT d t = sub (byOf (fg (varsT d [] t) (varsT d [] t).length) (nmT (varsT d [] t).length)) d t := rfl
  have HCAN := Lib.hid hcan
  clear k0 k1 k2 hB0 hs hsz hcan
  generalize hns : varsT d [] t = ns at *
  generalize hnl : ns.length = m at *
  have HNL := Lib.hid hnl
  have HNS : RowKit.Hid ([t].foldl (varsT d) [] = ns) := Lib.hid hns
  clear hns hnl hz
  go_enter Tryd.func16, Tryd.ntmps16
  go_upto_region 2 with (go_at_call 22; ((with_reducible refine HVA.out.mono ?_); rintro e w3 ⟨v3, rfl, ho3, hb3⟩; rw [HNS.out, HNL.out] at ho3; obtain ⟨a3, cc3, rfl, _⟩ := own_sl0 ho3; have HO3 := Lib.hid (SRow.own (l := ns) HNL.out.symm ho3); have HB3 := Lib.hid hb3; have u0 := hb_below K0.out hb3 (by simp <;> omega); have u1 := hb_below K1.out hb3 (by simp <;> omega); have U0 := Lib.hid u0; have U1 := Lib.hid u1; clear ho3 hb3 u0 u1))
  have hB3 : Below w.heap.size w w3 := HB0.out.trans (HB3.out.mono HB0.out.size)
  have HB3w := Lib.hid hB3
  have hz3 := hB3.size
  clear hB3
  have hmk := makeM m hl
  go_upto_region 3 with fail
  have hn4 := hb_new w3 (.cells (byA m 0) 24)
  have hB4 := below_alloc w3 (.cells (byA m 0) 24)
  generalize hW4 : w3.alloc (.cells (byA m 0) 24) = w4 at *
  have hz4 : w4.heap.size = w3.heap.size + 1 := by rw [← hW4]; simp
  clear hW4 hmk
  have HB4 := Lib.hid hB4
  have HN4 := Lib.hid hn4
  clear hB4 hn4
  go_wp2
  go_loopw [14] (fun i wr => ∃ j : Nat, j ≤ m ∧ i = .int .i64 j ∧ wr.heap[w3.heap.size]? = some (.cells (byA m j) 24 (0, 0)) ∧ Below w3.heap.size w3 wr) (fun i _ => m - (intOf i).toNat)
  case atStart => exact ⟨0, by omega, rfl, HN4.out, HB4.out⟩
  case round =>
    obtain ⟨j, hj, rfl, hbj, hBj⟩ := hrel
    have HBJ := Lib.hid hBj
    have hzj := hBj.size
    have hlb := hb_lt hbj
    have hf := hb_free hbj
    by_cases hjm : (j : Int) < (m : Int)
    · have hsz : (byA m j).size = m * 5 := by simp [byA]
      have e0 : wr.cell? ⟨w3.heap.size, j * 5, none⟩ = some (cellJ j j 0) := by rw [hb_cell hbj]; exact byA_at m j j 0 (by omega) (by omega)
      have e1 : wr.cell? ⟨w3.heap.size, j * 5 + 1, none⟩ = some (cellJ j j 1) := by rw [hb_cell hbj]; exact byA_at m j j 1 (by omega) (by omega)
      have e2 : wr.cell? ⟨w3.heap.size, j * 5 + 2, none⟩ = some (cellJ j j 2) := by rw [hb_cell hbj]; exact byA_at m j j 2 (by omega) (by omega)
      have e3 : wr.cell? ⟨w3.heap.size, j * 5 + 3, none⟩ = some (cellJ j j 3) := by rw [hb_cell hbj]; exact byA_at m j j 3 (by omega) (by omega)
      have e4 : wr.cell? ⟨w3.heap.size, j * 5 + 4, none⟩ = some (cellJ j j 4) := by rw [hb_cell hbj]; exact byA_at m j j 4 (by omega) (by omega)
      generalize cellJ j j 0 = y0 at *
      generalize cellJ j j 1 = y1 at *
      generalize cellJ j j 2 = y2 at *
      generalize cellJ j j 3 = y3 at *
      generalize cellJ j j 4 = y4 at *
      have f0 := hf (j * 5)
      have f1 := hf (j * 5 + 1)
      have f2 := hf (j * 5 + 2)
      have f3 := hf (j * 5 + 3)
      have f4 := hf (j * 5 + 4)
      have h0 := hb_set_same hbj (j * 5) (.int .i64 1)
      have h1 := hb_set_same h0 (j * 5 + 1) (.string ⟨#[]⟩)
      have h2 := hb_set_same h1 (j * 5 + 2) (.string (nmB j))
      have h3 := hb_set_same h2 (j * 5 + 3) (.int .i64 0)
      have h4 := hb_set_same h3 (j * 5 + 4) (.slice none 0 0)
      rw [byA_next m j (by omega)] at h4
      have H4 := Lib.hid h4
      clear hbj hf h0 h1 h2 h3 h4 hBj hsz
      go_wp2_with (go_at_call 20; (with_reducible refine (name_any j (by omega) _).mono ?_); rintro e w5 ⟨rfl, rfl⟩)
      exact ⟨⟨j + 1, by omega, by go_num, H4.out, (((((HBJ.out.setCell (by simp) _).setCell (by simp) _).setCell (by simp) _).setCell (by simp) _).setCell (by simp) _)⟩, by simp [intOf]; omega⟩
    · obtain rfl : j = m := by omega
      have hw1 : Below w.heap.size w wr := HB3w.out.trans (hBj.mono hz3)
      have HW1 := Lib.hid hw1
      have hT := HT.out.below hw1
      have t0 := hb_below U0.out hBj (hb_lt U0.out)
      have t1 := hb_below U1.out hBj (hb_lt U1.out)
      have T1 := Lib.hid t1
      have x0 := hb_at t0 0 rfl
      have x1 := hb_at t0 1 rfl
      have x2 := hb_at t0 2 rfl
      have x3 := hb_at t0 3 rfl
      have x4 := hb_at t0 4 rfl
      have hnsl := HNL.out
      have hK := byA_kids hl hbj
      have hsub := subst_any d 1 t _ ns _ (nmT j) _ wr hT (HO3.out.below hBj) (by omega) HSZ.out hK HS.out (by
        intro x hx
        unfold nmT at hx
        obtain ⟨i, _, rfl⟩ := List.mem_map.1 hx
        exact ⟨by simp, fun y hy => by cases hy⟩)
      rw [hnsl, ← HCAN.out] at hsub
      have HSU := Lib.hid hsub
      clear hbj hf hBj hw1 hT t0 t1 hK hsub hnsl
      go_wp2_with (go_at_call 25; (with_reducible refine HSU.out.mono ?_); rintro e w5 ⟨v5, rfl, hx5, hb5⟩; obtain ⟨k5, p5, n5, N5, q5, l5, c5, rfl⟩ := hx5.shape; have HX6 := Lib.hid hx5; have HB5 := Lib.hid hb5; have u1 := hb_below T1.out hb5 (hb_lt T1.out); have y0 := hb_at u1 0 rfl; have y1 := hb_at u1 1 rfl; have y2 := hb_at u1 2 rfl; have y3 := hb_at u1 3 rfl; have y4 := hb_at u1 4 rfl; have g0 := hb_free u1 0; have g1 := hb_free u1 1; have g2 := hb_free u1 2; have g3 := hb_free u1 3; have g4 := hb_free u1 4; have hw8 := hb_lt T1.out; clear hx5 hb5 u1)
      have hB5 : Below w.heap.size w w5 := HW1.out.trans (HB5.out.mono HW1.out.size)
      refine bodyPost_ret (v := tv k5 p5 n5 N5 (.slice q5 l5 c5)) (by simp [results, Tryd.results16, go_sem, y0, y1, y2, y3, y4]) rfl ⟨_, _, _, _, _, _, _, rfl, ?_, (((((hB5.setCell (by simp) _).setCell (by simp) _).setCell (by simp) _).setCell (by simp) _).setCell (by simp) _)⟩
      refine HX6.out.move fun b hb _ => ⟨by have := HW1.out.size; show w.heap.size ≤ b; have hb2 : wr.heap.size ≤ b := hb; omega, ?_⟩
      have hb2 : wr.heap.size ≤ b := hb
      have hne : b ≠ w.heap.size + 1 := by omega
      rw [Below.heap_setCell _ _ _ b hne, Below.heap_setCell _ _ _ b hne, Below.heap_setCell _ _ _ b hne, Below.heap_setCell _ _ _ b hne, Below.heap_setCell _ _ _ b hne]
end Go.Proofs.YtknbhnicmgglbaaDoor
