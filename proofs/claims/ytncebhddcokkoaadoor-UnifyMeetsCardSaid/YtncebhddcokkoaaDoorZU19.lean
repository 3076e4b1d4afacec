/- Texts in a row: Qe Qf Qg. -/
import Derived.Test.YtncebhddcokkoaaDoorZU18
/- The document's solver: Unify where the first one is a variable. -/
namespace Go.Proofs.YtncebhddcokkoaaDoor
open Go.RowKit
set_option linter.unusedSimpArgs false
set_option linter.unusedVariables false
/-- What Unify answers. -/
def UnR (B0 B g D : Nat) (ns : List ByteArray) (S : RS) (nv : Value) (cg : Nat) (P : (ByteArray → Tm) → Prop) (w : World) (e : Ending) (w' : World) : Prop :=
  ∃ (r : Bool) (S' : RS), e = .returned (.bool r) ∧ RS.UR S ns P r S' ∧ (r = true → RSt B0 B g D ns S' nv cg w') ∧ Gk B0 g w w' ∧ (S.Nz → S'.Nz)
theorem RS.put_put (S : RS) (n : ByteArray) (c : Tm) : (S.put n c).put n c = S.put n c := by
  funext m
  show (if m = n then some c else (if m = n then some c else S m)) = if m = n then some c else S m
  split <;> rfl
/-- The solver, ahead of a store or behind it. -/
def RSt2 (B0 B g D : Nat) (ns : List ByteArray) (S : RS) (nv : Value) (cg : Nat) (n : ByteArray) (c : Tm) (w : World) : Prop := RSt B0 B g D ns S nv cg w ∨ RSt B0 B g D ns (S.put n c) nv cg w
theorem RSt2.below {B0 B g D : Nat} {ns : List ByteArray} {S : RS} {nv : Value} {cg : Nat} {n : ByteArray} {c : Tm} {w w' : World} (h : RSt2 B0 B g D ns S nv cg n c w) (hb : Below w.heap.size w w') : RSt2 B0 B g D ns S nv cg n c w' := by
  rcases h with h | h
  · exact .inl (h.below hb)
  · exact .inr (h.below hb)
theorem RSt.frz {B0 B g D : Nat} {ns : List ByteArray} {S : RS} {nv : Value} {cg : Nat} {w : World} (h : RSt B0 B g D ns S nv cg w) (o : Nat) : w.frozen? ⟨g, o, none⟩ = false := by
  obtain ⟨ts, _, h2, _⟩ := h.row
  exact hb_free h2 o
theorem RSt2.at {B0 B g D : Nat} {ns : List ByteArray} {S : RS} {nv : Value} {cg : Nat} {n : ByteArray} {c : Tm} {w : World} (h : RSt2 B0 B g D ns S nv cg n c w) (hn : n ∈ ns) : ∃ k p m N s, TAt w g (ixO ns n * 5) k p m N s ∧ ∀ o, w.frozen? ⟨g, o, none⟩ = false := by
  rcases h with h | h
  · obtain ⟨k, p, m, N, s, ht, _⟩ := h.is hn
    exact ⟨k, p, m, N, s, ht, h.frz⟩
  · obtain ⟨k, p, m, N, s, ht, _⟩ := h.is hn
    exact ⟨k, p, m, N, s, ht, h.frz⟩
theorem RSt2.put {B0 B g D : Nat} {ns : List ByteArray} {S : RS} {nv : Value} {cg : Nat} {n : ByteArray} {x : Tm} {w : World} (h : RSt2 B0 B g D ns S nv cg n x w) (hn : n ∈ ns) {k N : Int} {p m : ByteArray} {s : Value} (hx : IsX (fun b => b < B0) w D (tv k p m N s) x) (hk : k ≠ 0) :
    RSt B0 B g D ns (S.put n x) nv cg (((((w.setCell ⟨g, ixO ns n * 5, none⟩ (.int .i64 k)).setCell ⟨g, ixO ns n * 5 + 1, none⟩ (.string p)).setCell ⟨g, ixO ns n * 5 + 2, none⟩ (.string m)).setCell ⟨g, ixO ns n * 5 + 3, none⟩ (.int .i64 N)).setCell ⟨g, ixO ns n * 5 + 4, none⟩ s) ∧
    Gk B0 g w (((((w.setCell ⟨g, ixO ns n * 5, none⟩ (.int .i64 k)).setCell ⟨g, ixO ns n * 5 + 1, none⟩ (.string p)).setCell ⟨g, ixO ns n * 5 + 2, none⟩ (.string m)).setCell ⟨g, ixO ns n * 5 + 3, none⟩ (.int .i64 N)).setCell ⟨g, ixO ns n * 5 + 4, none⟩ s) := by
  rcases h with h | h
  · exact h.put hn hx hk
  · have := h.put hn hx hk
    rw [RS.put_put] at this
    exact this
theorem RSt.lt_g {B0 B g D : Nat} {ns : List ByteArray} {S : RS} {nv : Value} {cg : Nat} {w : World} (h : RSt B0 B g D ns S nv cg w) : g < w.heap.size := by
  obtain ⟨ts, _, h2, _⟩ := h.row
  exact hb_lt h2
set_option maxRecDepth 100000 in
set_option maxHeartbeats 2000000 in
theorem uni_vv {B0 B g D : Nat} {ns : List ByteArray} {S : RS} {nv : Value} {cg : Nat} {w : World} (hR : RSt B0 B g D ns S nv cg w) (hI : S.Inv ns (ixO ns)) {va vb : Value} {ta tb x y : Tm} (hva : IsX (fun b => b < B0) w D va ta) (hvb : IsX (fun b => b < B0) w D vb tb) (hwa : Wt ns ta) (hwb : Wt ns tb) (hla : RS.Look S ta x) (hlb : RS.Look S tb y) {n m : ByteArray} (ex : x = vN n) (ey : y = vN m) (hn : S n = none) (hm : S m = none) (hns : n ∈ ns) (hms : m ∈ ns) : Calls Tryd.prog 69 #[.pointer (some ⟨B, 0, none⟩), va, vb] w (UnR B0 B g D ns S nv cg (fun σ => Eq2 σ ta tb) w) := by
  have hlx := hla
  have hly := hlb
  obtain ⟨ka, pa, na, Na, qa, la, ca, rfl⟩ := hva.shape
  obtain ⟨kb, pb, nb, Nb, qb, lb, cb, rfl⟩ := hvb.shape
  have hba := below2 w (.cells #[.int .i64 ka, .string pa, .string na, .int .i64 Na, .slice qa la ca] 36) (.cells #[.int .i64 kb, .string pb, .string nb, .int .i64 Nb, .slice qb lb cb] 36)
  have hn1 := hb_alloc (hb_new w (.cells #[.int .i64 ka, .string pa, .string na, .int .i64 Na, .slice qa la ca] 36)) (.cells #[.int .i64 kb, .string pb, .string nb, .int .i64 Nb, .slice qb lb cb] 36)
  have hn2 := hb_new (w.alloc (.cells #[.int .i64 ka, .string pa, .string na, .int .i64 Na, .slice qa la ca] 36)) (.cells #[.int .i64 kb, .string pb, .string nb, .int .i64 Nb, .slice qb lb cb] 36)
  simp only [World.size_alloc] at hn2
  have HR := Lib.hid hR
  have HI := Lib.hid hI
  have HVA := Lib.hid hva
  have HVB := Lib.hid hvb
  have HB0 := Lib.hid hR.b0
  have hBl := hR.lt
  have HWA := Lib.hid hwa
  have HWB := Lib.hid hwb
  have HLA := Lib.hid hla
  have HLB := Lib.hid hlb
  have HGL := Lib.hid (hR.lt_g)
  clear hva hvb hwa hwb hla hlb hR hI
  go_enter Tryd.func69, Tryd.ntmps69
  go_upto_region 1 with (fail)
  have HBA := Lib.hid hba
  have HN1 := Lib.hid hn1
  have HN2 := Lib.hid hn2
  clear hba hn1 hn2
  generalize (w.alloc (.cells #[.int .i64 ka, .string pa, .string na, .int .i64 Na, .slice qa la ca] 36)).alloc (.cells #[.int .i64 kb, .string pb, .string nb, .int .i64 Nb, .slice qb lb cb] 36) = W0 at *
  have HC1 := Lib.hid (look_any (HR.out.below HBA.out) HI.out (HVA.out.below HBA.out) HWA.out HLA.out)
  obtain ⟨x0, x1, x2, x3, x4⟩ := box_cells HN1.out
  go_upto_region 2 with (go_at_call 70; (with_reducible refine HC1.out.mono ?_); rintro e w1 ⟨k1, p1, n1, N1, q1, l1, c1, rfl, hx, hb⟩; have HX := Lib.hid hx; have HB1 := Lib.hid hb; have hb1 := hb_below HN1.out hb (hb_lt HN1.out); have f0 := hb_free hb1 0; have f1 := hb_free hb1 1; have f2 := hb_free hb1 2; have f3 := hb_free hb1 3; have f4 := hb_free hb1 4; have e0 := hb_at hb1 0 rfl; have e1 := hb_at hb1 1 rfl; have e2 := hb_at hb1 2 rfl; have e3 := hb_at hb1 3 rfl; have e4 := hb_at hb1 4 rfl; have HBB := Lib.hid hb1; clear hx hb hb1)
  obtain ⟨y1, y2, y3⟩ := box_set (base := w.heap.size) (Nat.le_refl _) HBB.out (.int .i64 k1) (.string p1) (.string n1) (.int .i64 N1) (.slice q1 l1 c1)
  have HX1 := Lib.hid (HX.out.move (Y := fun b => b < B0) fun b hb _ => ⟨hb, y3.block b (by have := HB0.out; omega)⟩)
  have HB2 := Lib.hid ((HBA.out.trans (HB1.out.mono HBA.out.size)).trans y3)
  have HY1 := Lib.hid y1
  have HN3 := Lib.hid ((y2 (w.heap.size + 1) (by omega)).trans (hb_below HN2.out HB1.out (hb_lt HN2.out)))
  clear y1 y2 y3 HBB HC1 HX HN1 HN2 HBA HB1 f0 f1 f2 f3 f4 e0 e1 e2 e3 e4 x0 x1 x2 x3 x4
  generalize (((((w1.setCell ⟨w.heap.size, 0, none⟩ (.int .i64 k1)).setCell ⟨w.heap.size, 1, none⟩ (.string p1)).setCell ⟨w.heap.size, 2, none⟩ (.string n1)).setCell ⟨w.heap.size, 3, none⟩ (.int .i64 N1)).setCell ⟨w.heap.size, 4, none⟩ (.slice q1 l1 c1)) = W2 at *
  have HC2 := Lib.hid (look_any (HR.out.below HB2.out) HI.out (HVB.out.below HB2.out) HWB.out HLB.out)
  obtain ⟨x0, x1, x2, x3, x4⟩ := box_cells HN3.out
  go_upto_region 3 with (go_at_call 70; (with_reducible refine HC2.out.mono ?_); rintro e w3 ⟨k2, p2, n2, N2, q2, l2, c2, rfl, hx, hb⟩; have HX := Lib.hid hx; have HB1 := Lib.hid hb; have hb1 := hb_below HN3.out hb (hb_lt HN3.out); have f0 := hb_free hb1 0; have f1 := hb_free hb1 1; have f2 := hb_free hb1 2; have f3 := hb_free hb1 3; have f4 := hb_free hb1 4; have e0 := hb_at hb1 0 rfl; have e1 := hb_at hb1 1 rfl; have e2 := hb_at hb1 2 rfl; have e3 := hb_at hb1 3 rfl; have e4 := hb_at hb1 4 rfl; have HBB := Lib.hid hb1; clear hx hb hb1)
  obtain ⟨y1, y2, y3⟩ := box_set (base := w.heap.size) (Nat.le_succ _) HBB.out (.int .i64 k2) (.string p2) (.string n2) (.int .i64 N2) (.slice q2 l2 c2)
  have HX2 := Lib.hid (HX.out.move (Y := fun b => b < B0) fun b hb _ => ⟨hb, y3.block b (by have := HB0.out; omega)⟩)
  have HX1 := Lib.hid ((HX1.out.below HB1.out).move (Y := fun b => b < B0) fun b hb _ => ⟨hb, y3.block b (by have := HB0.out; omega)⟩)
  have HB4 := Lib.hid ((HB2.out.trans (HB1.out.mono HB2.out.size)).trans y3)
  have HY2 := Lib.hid y1
  have HY1 := Lib.hid ((y2 w.heap.size (by omega)).trans (hb_below HY1.out HB1.out (hb_lt HY1.out)))
  clear y1 y2 y3 HBB HC2 HX HN3 HB2 HB1 HVA HVB f0 f1 f2 f3 f4 e0 e1 e2 e3 e4 x0 x1 x2 x3 x4
  generalize (((((w3.setCell ⟨w.heap.size + 1, 0, none⟩ (.int .i64 k2)).setCell ⟨w.heap.size + 1, 1, none⟩ (.string p2)).setCell ⟨w.heap.size + 1, 2, none⟩ (.string n2)).setCell ⟨w.heap.size + 1, 3, none⟩ (.int .i64 N2)).setCell ⟨w.heap.size + 1, 4, none⟩ (.slice q2 l2 c2)) = W4 at *
  have HR4 := Lib.hid (HR.out.below HB4.out)
  obtain ⟨x0, x1, x2, x3, x4⟩ := box_cells HY1.out
  obtain ⟨z0, z1, z2, z3, z4⟩ := box_cells HY2.out
  have b0 := hb_at HR4.out.blk 0 rfl
  have b1 := hb_at HR4.out.blk 1 rfl
  subst ex ey
  obtain ⟨_, _, _, _, _, _, _, hv1, hv2, _⟩ := HX1.out.opn
  cases hv2
  cases hv1
  obtain ⟨_, _, _, _, _, _, _, hv1, hv2, _⟩ := HX2.out.opn
  cases hv2
  cases hv1
  have HNM := Lib.hid HR4.out.nm.o
  have HN := Lib.hid hn
  have HM := Lib.hid hm
  have HNS := Lib.hid hns
  have HMS := Lib.hid hms
  have HLX := Lib.hid hlx
  have HLY := Lib.hid hly
  clear hn hm hns hms hlx hly
  go_upto_region 4 with (fail)
  refine wp_region_held_drew (S := (fun w' => RowKit.Hid (Below W4.heap.size W4 w') ∧ w'.cell? ⟨B, 0, none⟩ = some (nv) ∧ w'.cell? ⟨w.heap.size, 2, none⟩ = some (.string n) ∧ w'.cell? ⟨w.heap.size + 1, 2, none⟩ = some (.string m))) (by kernel_rfl) (by exact ⟨Lib.hid (below_drewN (Below.refl _ _) 1), b0, x2, z2⟩) (fun hHeld => ?_)
  refine wpAnyH_take (i := 0) (oi := ⟨some 24, _, _, _, _, _⟩) (v := ?_) rfl (by kernel_rfl) (by kernel_rfl) (by kernel_rfl) (fun _ _ _ h => h) (Or.inl ⟨by rfl, ?_⟩) (by assumption) ?_
  rotate_left
  focus (intro w hSw; (try dsimp only at hSw); go_simp; first | done | with_reducible rfl)
  try simp only [Act.put, List.setIfInBounds_toArray, List.set_cons_zero, List.set_cons_succ]
  refine wpAnyH_take (i := 1) (oi := ⟨some 25, _, _, _, _, _⟩) (v := ?_) rfl (by kernel_rfl) (by kernel_rfl) (by kernel_rfl) (fun _ _ _ h => h) (Or.inl ⟨by rfl, ?_⟩) (by assumption) ?_
  rotate_left
  focus (intro w hSw; (try dsimp only at hSw); go_simp; first | done | with_reducible rfl)
  try simp only [Act.put, List.setIfInBounds_toArray, List.set_cons_zero, List.set_cons_succ]
  refine wpAnyH_take (i := 2) (oi := ⟨some 26, _, _, _, _, _⟩) (v := ?_) rfl (by kernel_rfl) (by kernel_rfl) (by kernel_rfl) (fun _ _ _ h => h) (Or.inl ⟨by rfl, ?_⟩) (by assumption) ?_
  rotate_left
  focus (intro w hSw; (try dsimp only at hSw); go_simp; first | done | with_reducible rfl)
  try simp only [Act.put, List.setIfInBounds_toArray, List.set_cons_zero, List.set_cons_succ]
  refine wpAnyH_take (i := 3) (oi := ⟨some 27, _, _, _, _, _⟩) (v := ?_) rfl (by kernel_rfl) (by kernel_rfl) (by kernel_rfl) (fun _ _ _ h => h) (Or.inl ⟨by rfl, ?_⟩) (by assumption) ?_
  rotate_left
  focus (intro w hSw; (try dsimp only at hSw); go_simp; first | done | with_reducible rfl)
  try simp only [Act.put, List.setIfInBounds_toArray, List.set_cons_zero, List.set_cons_succ]
  refine wpAnyH_take (i := 4) (oi := ⟨some 28, _, _, _, _, _⟩) (v := ?_) rfl (by kernel_rfl) (by kernel_rfl) (by kernel_rfl) (fun _ _ _ h => h) (Or.inl ⟨by rfl, ?_⟩) (by assumption) ?_
  rotate_left
  focus (intro w hSw; (try dsimp only at hSw); go_simp; first | done | with_reducible rfl)
  try simp only [Act.put, List.setIfInBounds_toArray, List.set_cons_zero, List.set_cons_succ]
  refine wpAnyH_take (i := 5) (oi := ⟨some 29, _, _, _, _, _⟩) (v := ?_) rfl (by kernel_rfl) (by kernel_rfl) (by kernel_rfl) (fun _ _ _ h => h) (Or.inl ⟨by rfl, ?_⟩) (by assumption) ?_
  rotate_left
  focus (intro w hSw; (try dsimp only at hSw); go_simp; first | done | with_reducible rfl)
  try simp only [Act.put, List.setIfInBounds_toArray, List.set_cons_zero, List.set_cons_succ]
  refine wpAnyH_take (i := 7) (oi := ⟨some 31, _, _, _, _, _⟩) (v := ?_) rfl (by kernel_rfl) (by kernel_rfl) (by kernel_rfl) (fun _ _ _ h => h) (Or.inl ⟨by rfl, ?_⟩) (by assumption) ?_
  rotate_left
  focus (intro w hSw; (try dsimp only at hSw); go_simp; first | done | with_reducible rfl)
  try simp only [Act.put, List.setIfInBounds_toArray, List.set_cons_zero, List.set_cons_succ]
  refine wpAnyH_take (i := 8) (oi := ⟨some 32, _, _, _, _, _⟩) (v := ?_) rfl (by kernel_rfl) (by kernel_rfl) (by kernel_rfl) (fun _ _ _ h => h) (Or.inl ⟨by rfl, ?_⟩) (by assumption) ?_
  rotate_left
  focus (intro w hSw; (try dsimp only at hSw); go_simp; first | done | with_reducible rfl)
  try simp only [Act.put, List.setIfInBounds_toArray, List.set_cons_zero, List.set_cons_succ]
  refine wpAnyH_take (i := 9) (oi := ⟨some 33, _, _, _, _, _⟩) (v := ?_) rfl (by kernel_rfl) (by kernel_rfl) (by kernel_rfl) (fun _ _ _ h => h) (Or.inl ⟨by rfl, ?_⟩) (by assumption) ?_
  rotate_left
  focus (intro w hSw; (try dsimp only at hSw); go_simp; first | done | with_reducible rfl)
  try simp only [Act.put, List.setIfInBounds_toArray, List.set_cons_zero, List.set_cons_succ]
  refine wpAnyH_take (i := 10) (oi := ⟨some 34, _, _, _, _, _⟩) (v := ?_) rfl (by kernel_rfl) (by kernel_rfl) (by kernel_rfl) (fun _ _ _ h => h) (Or.inl ⟨by rfl, ?_⟩) (by assumption) ?_
  rotate_left
  focus (intro w hSw; (try dsimp only at hSw); go_simp; first | done | with_reducible rfl)
  try simp only [Act.put, List.setIfInBounds_toArray, List.set_cons_zero, List.set_cons_succ]
  refine wpAnyH_take (i := 11) (oi := ⟨some 35, _, _, _, _, _⟩) (v := ?_) rfl (by kernel_rfl) (by kernel_rfl) (by kernel_rfl) (fun _ _ _ h => h) (Or.inl ⟨by rfl, ?_⟩) (by assumption) ?_
  rotate_left
  focus (intro w hSw; (try dsimp only at hSw); go_simp; first | done | with_reducible rfl)
  try simp only [Act.put, List.setIfInBounds_toArray, List.set_cons_zero, List.set_cons_succ]
  refine wpAnyH_take (i := 12) (oi := ⟨some 36, _, _, _, _, _⟩) (v := ?_) rfl (by kernel_rfl) (by kernel_rfl) (by kernel_rfl) (fun _ _ _ h => h) (Or.inl ⟨by rfl, ?_⟩) (by assumption) ?_
  rotate_left
  focus (intro w hSw; (try dsimp only at hSw); go_simp; first | done | with_reducible rfl)
  try simp only [Act.put, List.setIfInBounds_toArray, List.set_cons_zero, List.set_cons_succ]
  refine wpAnyH_ready (rs := [6]) (by kernel_rfl) (by simp) ?_
  refine AllReadyH.cons (o := ⟨some 30, _, _, _, _, _⟩) rfl (fun K hK => ?_) AllReadyH.nil
  go_simp
  have hc := place_any _ nv ns n (HNM.out.below hHeld.1.out) HR.out.ln; (with_reducible refine hc.mono ?_); rintro e v1 ⟨rfl, hb⟩; clear hc
  go_wp2_with fail
  refine hK.out _ _ (by exact ⟨Lib.hid (hHeld.1.out.trans (hb.mono hHeld.1.out.size)), keep_cell hb hHeld.2.1, keep_cell hb hHeld.2.2.1, keep_cell hb hHeld.2.2.2⟩) (fun hNew => ?_)
  clear hK K
  clear hHeld hb; have hHeld := hNew; clear hNew
  try simp only [Act.put, List.setIfInBounds_toArray, List.set_cons_zero, List.set_cons_succ]
  refine wpAnyH_ready (rs := [13]) (by kernel_rfl) (by simp) ?_
  refine AllReadyH.cons (o := ⟨some 37, _, _, _, _, _⟩) rfl (fun K hK => ?_) AllReadyH.nil
  go_simp
  have hc := place_any _ nv ns m (HNM.out.below hHeld.1.out) HR.out.ln; (with_reducible refine hc.mono ?_); rintro e v2 ⟨rfl, hb⟩; clear hc
  go_wp2_with fail
  refine hK.out _ _ (by exact ⟨Lib.hid (hHeld.1.out.trans (hb.mono hHeld.1.out.size)), keep_cell hb hHeld.2.1, keep_cell hb hHeld.2.2.1, keep_cell hb hHeld.2.2.2⟩) (fun hNew => ?_)
  clear hK K
  clear hHeld hb; have hHeld := hNew; clear hNew
  try simp only [Act.put, List.setIfInBounds_toArray, List.set_cons_zero, List.set_cons_succ]
  refine wpAnyH_take (i := 14) (oi := ⟨some 7, _, _, _, _, _⟩) (v := ?_) rfl (by kernel_rfl) (by kernel_rfl) (by kernel_rfl) (fun _ _ _ h => h) (Or.inl ⟨by rfl, ?_⟩) (by assumption) ?_
  rotate_left
  focus (intro w hSw; (try dsimp only at hSw); go_simp; first | done | with_reducible rfl)
  try simp only [Act.put, List.setIfInBounds_toArray, List.set_cons_zero, List.set_cons_succ]
  refine wpAnyH_take (i := 15) (oi := ⟨some 8, _, _, _, _, _⟩) (v := ?_) rfl (by kernel_rfl) (by kernel_rfl) (by kernel_rfl) (fun _ _ _ h => h) (Or.inl ⟨by rfl, ?_⟩) (by assumption) ?_
  rotate_left
  focus (intro w hSw; (try dsimp only at hSw); go_simp; first | done | with_reducible rfl)
  try simp only [Act.put, List.setIfInBounds_toArray, List.set_cons_zero, List.set_cons_succ]
  refine wpAnyH_done (by kernel_rfl) ?_ _
  have HB5 := Lib.hid hHeld.1.out
  clear hHeld
  have HR5 := Lib.hid (HR4.out.below HB5.out)
  have HBW := Lib.hid HR5.out.b0
  have HX5 : RowKit.Hid (IsX (fun b => b < B0) _ D (tv 1 ⟨#[]⟩ n 0 (.slice q1 0 c1)) (vN n)) := Lib.hid (HX1.out.below HB5.out)
  have HY5 : RowKit.Hid (IsX (fun b => b < B0) _ D (tv 1 ⟨#[]⟩ m 0 (.slice q2 0 c2)) (vN m)) := Lib.hid (HX2.out.below HB5.out)
  have HB6 := Lib.hid (HB4.out.trans (HB5.out.mono HB4.out.size))
  have hpn := plc_in HNS.out
  have hpm := plc_in HMS.out
  have hn9 := ixO_lt HNS.out
  have hm9 := ixO_lt HMS.out
  obtain ⟨iN, hin⟩ : ∃ i, ixO ns n = i := ⟨_, rfl⟩
  obtain ⟨im, him⟩ : ∃ i, ixO ns m = i := ⟨_, rfl⟩
  rw [hin] at hpn hn9
  rw [him] at hpm hm9
  have HIN := Lib.hid hin
  have HIM := Lib.hid him
  clear hin him
  have hn9' : (iN : Int) < (ns.length : Int) := by omega
  have hm9' : (im : Int) < (ns.length : Int) := by omega
  obtain ⟨x0, x1, x2, x3, x4⟩ := box_cells (hb_below HY1.out HB5.out (hb_lt HY1.out))
  obtain ⟨z0, z1, z2, z3, z4⟩ := box_cells (hb_below HY2.out HB5.out (hb_lt HY2.out))
  have b0 := hb_at HR5.out.blk 0 rfl
  have b1 := hb_at HR5.out.blk 1 rfl
  rw [hpn, hpm]
  have HGK := Lib.hid (Gk.of_below (g := g) HB0.out HB6.out)
  by_cases h1 : iN < im
  · have h1' : decide (iN < im) = true := by simpa using h1
    have h2' : decide (im < iN) = false := by simp; omega
    have HLT := Lib.hid h1
    clear h1
    go_upto_region 6 with (fail)
    refine wp_region_held_drew (S := (fun w' => RowKit.Hid (Gk B0 g v2 w') ∧ RowKit.Hid (RSt2 B0 B g D ns S nv cg m (vN n) w') ∧ w'.cell? ⟨B, 1, none⟩ = some (.slice (some ⟨g, 0, none⟩) ns.length cg) ∧ w'.cell? ⟨w.heap.size, 0, none⟩ = some (.int .i64 1) ∧ w'.cell? ⟨w.heap.size, 1, none⟩ = some (.string ⟨#[]⟩) ∧ w'.cell? ⟨w.heap.size, 2, none⟩ = some (.string n) ∧ w'.cell? ⟨w.heap.size, 3, none⟩ = some (.int .i64 0) ∧ w'.cell? ⟨w.heap.size, 4, none⟩ = some (.slice q1 0 c1))) (by kernel_rfl) (by exact ⟨Lib.hid (Gk.of_below HBW.out (below_drewN (Below.refl _ _) 1)), Lib.hid (RSt2.below (.inl HR5.out) (below_drewN (Below.refl _ _) 1)), b1, x0, x1, x2, x3, x4⟩) (fun hHeld => ?_)
    refine wpAnyH_take (i := 0) (oi := ⟨some 41, _, _, _, _, _⟩) (v := ?_) rfl (by kernel_rfl) (by kernel_rfl) (by kernel_rfl) (fun _ _ _ h => h) (Or.inl ⟨by rfl, ?_⟩) (by assumption) ?_
    rotate_left
    focus (intro w hSw; (try dsimp only at hSw); go_simp; first | done | with_reducible rfl)
    try simp only [Act.put, List.setIfInBounds_toArray, List.set_cons_zero, List.set_cons_succ]
    refine wpAnyH_take (i := 1) (oi := ⟨some 42, _, _, _, _, _⟩) (v := ?_) rfl (by kernel_rfl) (by kernel_rfl) (by kernel_rfl) (fun _ _ _ h => h) (Or.inl ⟨by rfl, ?_⟩) (by assumption) ?_
    rotate_left
    focus (intro w hSw; (try dsimp only at hSw); go_simp; first | done | with_reducible rfl)
    try simp only [Act.put, List.setIfInBounds_toArray, List.set_cons_zero, List.set_cons_succ]
    refine wpAnyH_take (i := 2) (oi := ⟨some 43, _, _, _, _, _⟩) (v := ?_) rfl (by kernel_rfl) (by kernel_rfl) (by kernel_rfl) (fun _ _ _ h => h) (Or.inl ⟨by rfl, ?_⟩) (by assumption) ?_
    rotate_left
    focus (intro w hSw; (try dsimp only at hSw); go_simp; first | done | with_reducible rfl)
    try simp only [Act.put, List.setIfInBounds_toArray, List.set_cons_zero, List.set_cons_succ]
    refine wpAnyH_take (i := 3) (oi := ⟨some 44, _, _, _, _, _⟩) (v := ?_) rfl (by kernel_rfl) (by kernel_rfl) (by kernel_rfl) (fun _ _ _ h => h) (Or.inl ⟨by rfl, ?_⟩) (by assumption) ?_
    rotate_left
    focus (intro w hSw; (try dsimp only at hSw); go_simp; first | done | with_reducible rfl)
    try simp only [Act.put, List.setIfInBounds_toArray, List.set_cons_zero, List.set_cons_succ]
    refine wpAnyH_take (i := 4) (oi := ⟨some 45, _, _, _, _, _⟩) (v := ?_) rfl (by kernel_rfl) (by kernel_rfl) (by kernel_rfl) (fun _ _ _ h => h) (Or.inl ⟨by rfl, ?_⟩) (by assumption) ?_
    rotate_left
    focus (intro w hSw; (try dsimp only at hSw); go_simp; first | done | with_reducible rfl)
    try simp only [Act.put, List.setIfInBounds_toArray, List.set_cons_zero, List.set_cons_succ]
    refine wpAnyH_take (i := 5) (oi := ⟨some 46, _, _, _, _, _⟩) (v := ?_) rfl (by kernel_rfl) (by kernel_rfl) (by kernel_rfl) (fun _ _ _ h => h) (Or.inl ⟨by rfl, ?_⟩) (by assumption) ?_
    rotate_left
    focus (intro w hSw; (try dsimp only at hSw); go_simp; first | done | with_reducible rfl)
    try simp only [Act.put, List.setIfInBounds_toArray, List.set_cons_zero, List.set_cons_succ]
    refine wpAnyH_take (i := 6) (oi := ⟨some 47, _, _, _, _, _⟩) (v := ?_) rfl (by kernel_rfl) (by kernel_rfl) (by kernel_rfl) (fun _ _ _ h => h) (Or.inl ⟨by rfl, ?_⟩) (by assumption) ?_
    rotate_left
    focus (intro w hSw; (try dsimp only at hSw); go_simp; first | done | with_reducible rfl)
    try simp only [Act.put, List.setIfInBounds_toArray, List.set_cons_zero, List.set_cons_succ]
    refine wpAnyH_ready (rs := [7]) (by kernel_rfl) (by simp) ?_
    refine AllReadyH.cons (o := ⟨none, _, _, _, _, _⟩) rfl (fun K hK => ?_) AllReadyH.nil
    generalize v2.drew = D6 at *
    have HDG := hHeld.1
    obtain ⟨k9, p9, m9, N9, s9, ⟨t0, t1, t2, t3, t4⟩, hfz⟩ := hHeld.2.1.out.at HMS.out
    obtain ⟨hur, hug⟩ := hHeld.2.1.out.put HMS.out (HX5.out.gk (hHeld.1.out)) (by decide)
    rw [HIM.out] at t0 t1 t2 t3 t4 hur hug
    have h0 := hfz (im * 5)
    have h1 := hfz (im * 5 + 1)
    have h2 := hfz (im * 5 + 2)
    have h3 := hfz (im * 5 + 3)
    have h4 := hfz (im * 5 + 4)
    have HUR := Lib.hid hur
    have HUG := Lib.hid hug
    clear hur hug hfz
    have hb : True := trivial
    go_simp
    refine hK.out _ _ (by exact ⟨Lib.hid (hHeld.1.out.trans HUG.out), Lib.hid (.inr HUR.out), HUG.out.cell hHeld.2.2.1 (by exact fun e => HR.out.ne e.symm), HUG.out.cell hHeld.2.2.2.1 (by have := HGL.out; omega), HUG.out.cell hHeld.2.2.2.2.1 (by have := HGL.out; omega), HUG.out.cell hHeld.2.2.2.2.2.1 (by have := HGL.out; omega), HUG.out.cell hHeld.2.2.2.2.2.2.1 (by have := HGL.out; omega), HUG.out.cell hHeld.2.2.2.2.2.2.2 (by have := HGL.out; omega)⟩) (fun hNew => ?_)
    clear hK K
    clear hHeld hb; have hHeld := hNew; clear hNew
    try simp only [Act.put, List.setIfInBounds_toArray, List.set_cons_zero, List.set_cons_succ]
    refine wpAnyH_done (by kernel_rfl) ?_ _
    clear hHeld
    go_wp2
    go_ret
    refine ⟨true, _, rfl, RS.UR.look HLX.out HLY.out (RS.ur_vars HI.out HN.out HM.out HNS.out HMS.out (by rw [HIN.out, HIM.out]; exact HLT.out)), fun _ => HUR.out, (HGK.out.trans HDG.out).trans HUG.out, fun hz => hz.put (.mk (by decide) (fun x hx => by cases hx))⟩
  · by_cases h2 : im < iN
    · have h1' : decide (iN < im) = false := by simp; omega
      have h2' : decide (im < iN) = true := by simpa using h2
      have HLT := Lib.hid h2
      clear h1 h2
      go_upto_region 8 with (fail)
      refine wp_region_held_drew (S := (fun w' => RowKit.Hid (Gk B0 g v2 w') ∧ RowKit.Hid (RSt2 B0 B g D ns S nv cg n (vN m) w') ∧ w'.cell? ⟨B, 1, none⟩ = some (.slice (some ⟨g, 0, none⟩) ns.length cg) ∧ w'.cell? ⟨w.heap.size + 1, 0, none⟩ = some (.int .i64 1) ∧ w'.cell? ⟨w.heap.size + 1, 1, none⟩ = some (.string ⟨#[]⟩) ∧ w'.cell? ⟨w.heap.size + 1, 2, none⟩ = some (.string m) ∧ w'.cell? ⟨w.heap.size + 1, 3, none⟩ = some (.int .i64 0) ∧ w'.cell? ⟨w.heap.size + 1, 4, none⟩ = some (.slice q2 0 c2))) (by kernel_rfl) (by exact ⟨Lib.hid (Gk.of_below HBW.out (below_drewN (Below.refl _ _) 1)), Lib.hid (RSt2.below (.inl HR5.out) (below_drewN (Below.refl _ _) 1)), b1, z0, z1, z2, z3, z4⟩) (fun hHeld => ?_)
      refine wpAnyH_take (i := 0) (oi := ⟨some 51, _, _, _, _, _⟩) (v := ?_) rfl (by kernel_rfl) (by kernel_rfl) (by kernel_rfl) (fun _ _ _ h => h) (Or.inl ⟨by rfl, ?_⟩) (by assumption) ?_
      rotate_left
      focus (intro w hSw; (try dsimp only at hSw); go_simp; first | done | with_reducible rfl)
      try simp only [Act.put, List.setIfInBounds_toArray, List.set_cons_zero, List.set_cons_succ]
      refine wpAnyH_take (i := 1) (oi := ⟨some 52, _, _, _, _, _⟩) (v := ?_) rfl (by kernel_rfl) (by kernel_rfl) (by kernel_rfl) (fun _ _ _ h => h) (Or.inl ⟨by rfl, ?_⟩) (by assumption) ?_
      rotate_left
      focus (intro w hSw; (try dsimp only at hSw); go_simp; first | done | with_reducible rfl)
      try simp only [Act.put, List.setIfInBounds_toArray, List.set_cons_zero, List.set_cons_succ]
      refine wpAnyH_take (i := 2) (oi := ⟨some 53, _, _, _, _, _⟩) (v := ?_) rfl (by kernel_rfl) (by kernel_rfl) (by kernel_rfl) (fun _ _ _ h => h) (Or.inl ⟨by rfl, ?_⟩) (by assumption) ?_
      rotate_left
      focus (intro w hSw; (try dsimp only at hSw); go_simp; first | done | with_reducible rfl)
      try simp only [Act.put, List.setIfInBounds_toArray, List.set_cons_zero, List.set_cons_succ]
      refine wpAnyH_take (i := 3) (oi := ⟨some 54, _, _, _, _, _⟩) (v := ?_) rfl (by kernel_rfl) (by kernel_rfl) (by kernel_rfl) (fun _ _ _ h => h) (Or.inl ⟨by rfl, ?_⟩) (by assumption) ?_
      rotate_left
      focus (intro w hSw; (try dsimp only at hSw); go_simp; first | done | with_reducible rfl)
      try simp only [Act.put, List.setIfInBounds_toArray, List.set_cons_zero, List.set_cons_succ]
      refine wpAnyH_take (i := 4) (oi := ⟨some 55, _, _, _, _, _⟩) (v := ?_) rfl (by kernel_rfl) (by kernel_rfl) (by kernel_rfl) (fun _ _ _ h => h) (Or.inl ⟨by rfl, ?_⟩) (by assumption) ?_
      rotate_left
      focus (intro w hSw; (try dsimp only at hSw); go_simp; first | done | with_reducible rfl)
      try simp only [Act.put, List.setIfInBounds_toArray, List.set_cons_zero, List.set_cons_succ]
      refine wpAnyH_take (i := 5) (oi := ⟨some 56, _, _, _, _, _⟩) (v := ?_) rfl (by kernel_rfl) (by kernel_rfl) (by kernel_rfl) (fun _ _ _ h => h) (Or.inl ⟨by rfl, ?_⟩) (by assumption) ?_
      rotate_left
      focus (intro w hSw; (try dsimp only at hSw); go_simp; first | done | with_reducible rfl)
      try simp only [Act.put, List.setIfInBounds_toArray, List.set_cons_zero, List.set_cons_succ]
      refine wpAnyH_take (i := 6) (oi := ⟨some 57, _, _, _, _, _⟩) (v := ?_) rfl (by kernel_rfl) (by kernel_rfl) (by kernel_rfl) (fun _ _ _ h => h) (Or.inl ⟨by rfl, ?_⟩) (by assumption) ?_
      rotate_left
      focus (intro w hSw; (try dsimp only at hSw); go_simp; first | done | with_reducible rfl)
      try simp only [Act.put, List.setIfInBounds_toArray, List.set_cons_zero, List.set_cons_succ]
      refine wpAnyH_ready (rs := [7]) (by kernel_rfl) (by simp) ?_
      refine AllReadyH.cons (o := ⟨none, _, _, _, _, _⟩) rfl (fun K hK => ?_) AllReadyH.nil
      generalize v2.drew = D6 at *
      have HDG := hHeld.1
      obtain ⟨k9, p9, m9, N9, s9, ⟨t0, t1, t2, t3, t4⟩, hfz⟩ := hHeld.2.1.out.at HNS.out
      obtain ⟨hur, hug⟩ := hHeld.2.1.out.put HNS.out (HY5.out.gk (hHeld.1.out)) (by decide)
      rw [HIN.out] at t0 t1 t2 t3 t4 hur hug
      have h0 := hfz (iN * 5)
      have h1 := hfz (iN * 5 + 1)
      have h2 := hfz (iN * 5 + 2)
      have h3 := hfz (iN * 5 + 3)
      have h4 := hfz (iN * 5 + 4)
      have HUR := Lib.hid hur
      have HUG := Lib.hid hug
      clear hur hug hfz
      have hb : True := trivial
      go_simp
      refine hK.out _ _ (by exact ⟨Lib.hid (hHeld.1.out.trans HUG.out), Lib.hid (.inr HUR.out), HUG.out.cell hHeld.2.2.1 (by exact fun e => HR.out.ne e.symm), HUG.out.cell hHeld.2.2.2.1 (by have := HGL.out; omega), HUG.out.cell hHeld.2.2.2.2.1 (by have := HGL.out; omega), HUG.out.cell hHeld.2.2.2.2.2.1 (by have := HGL.out; omega), HUG.out.cell hHeld.2.2.2.2.2.2.1 (by have := HGL.out; omega), HUG.out.cell hHeld.2.2.2.2.2.2.2 (by have := HGL.out; omega)⟩) (fun hNew => ?_)
      clear hK K
      clear hHeld hb; have hHeld := hNew; clear hNew
      try simp only [Act.put, List.setIfInBounds_toArray, List.set_cons_zero, List.set_cons_succ]
      refine wpAnyH_done (by kernel_rfl) ?_ _
      clear hHeld
      go_wp2
      go_ret
      refine ⟨true, _, rfl, RS.UR.look HLX.out HLY.out (RS.UR.symm (RS.ur_vars HI.out HM.out HN.out HMS.out HNS.out (by rw [HIN.out, HIM.out]; exact HLT.out))), fun _ => HUR.out, (HGK.out.trans HDG.out).trans HUG.out, fun hz => hz.put (.mk (by decide) (fun x hx => by cases hx))⟩
    · have h1' : decide (iN < im) = false := by simp; omega
      have h2' : decide (im < iN) = false := by simp; omega
      have he : n = m := ixO_inj HNS.out HMS.out (by rw [HIN.out, HIM.out]; omega)
      have HE := Lib.hid he
      clear h1 h2 he
      go_wp2
      go_ret
      refine ⟨true, S, rfl, RS.UR.look HLX.out HLY.out ?_, fun _ => HR5.out, HGK.out, fun hz => hz⟩
      rw [HE.out]
      exact RS.ur_same HI.out
end Go.Proofs.YtncebhddcokkoaaDoor
/- The document's solver: Unify of a variable and a type that is none. -/
namespace Go.Proofs.YtncebhddcokkoaaDoor
open Go.RowKit
set_option linter.unusedSimpArgs false
set_option linter.unusedVariables false
set_option maxRecDepth 100000 in
set_option maxHeartbeats 2000000 in
theorem uni_vn {B0 B g D : Nat} {ns : List ByteArray} {S : RS} {nv : Value} {cg : Nat} {w : World} (hR : RSt B0 B g D ns S nv cg w) (hI : S.Inv ns (ixO ns)) {va vb : Value} {ta tb x y : Tm} (hva : IsX (fun b => b < B0) w D va ta) (hvb : IsX (fun b => b < B0) w D vb tb) (hwa : Wt ns ta) (hwb : Wt ns tb) (hla : RS.Look S ta x) (hlb : RS.Look S tb y) {n : ByteArray} {uy : Tm} (ex : x = vN n) (hny : ∀ p m N l, y ≠ .mk 1 p m N l) (hn : S n = none) (hns : n ∈ ns) (hnz : NZ y) (hfy : RS.Fu S y uy) : Calls Tryd.prog 69 #[.pointer (some ⟨B, 0, none⟩), va, vb] w (UnR B0 B g D ns S nv cg (fun σ => Eq2 σ ta tb) w) := by
  have hlx := hla
  have hly := hlb
  have hwy := hlb.wt hI hwb
  obtain ⟨ka, pa, na, Na, qa, la, ca, rfl⟩ := hva.shape
  obtain ⟨kb, pb, nb, Nb, qb, lb, cb, rfl⟩ := hvb.shape
  have hba := below2 w (.cells #[.int .i64 ka, .string pa, .string na, .int .i64 Na, .slice qa la ca] 36) (.cells #[.int .i64 kb, .string pb, .string nb, .int .i64 Nb, .slice qb lb cb] 36)
  have hn1 := hb_alloc (hb_new w (.cells #[.int .i64 ka, .string pa, .string na, .int .i64 Na, .slice qa la ca] 36)) (.cells #[.int .i64 kb, .string pb, .string nb, .int .i64 Nb, .slice qb lb cb] 36)
  have hn2 := hb_new (w.alloc (.cells #[.int .i64 ka, .string pa, .string na, .int .i64 Na, .slice qa la ca] 36)) (.cells #[.int .i64 kb, .string pb, .string nb, .int .i64 Nb, .slice qb lb cb] 36)
  simp only [World.size_alloc] at hn2
  have HR := Lib.hid hR
  have HI := Lib.hid hI
  have HVA := Lib.hid hva
  have HVB := Lib.hid hvb
  have HB0 := Lib.hid hR.b0
  have hBl := hR.lt
  have HWA := Lib.hid hwa
  have HWB := Lib.hid hwb
  have HLA := Lib.hid hla
  have HLB := Lib.hid hlb
  have HGL := Lib.hid (hR.lt_g)
  clear hva hvb hwa hwb hla hlb hR hI
  go_enter Tryd.func69, Tryd.ntmps69
  go_upto_region 1 with (fail)
  have HBA := Lib.hid hba
  have HN1 := Lib.hid hn1
  have HN2 := Lib.hid hn2
  clear hba hn1 hn2
  generalize (w.alloc (.cells #[.int .i64 ka, .string pa, .string na, .int .i64 Na, .slice qa la ca] 36)).alloc (.cells #[.int .i64 kb, .string pb, .string nb, .int .i64 Nb, .slice qb lb cb] 36) = W0 at *
  have HC1 := Lib.hid (look_any (HR.out.below HBA.out) HI.out (HVA.out.below HBA.out) HWA.out HLA.out)
  obtain ⟨x0, x1, x2, x3, x4⟩ := box_cells HN1.out
  go_upto_region 2 with (go_at_call 70; (with_reducible refine HC1.out.mono ?_); rintro e w1 ⟨k1, p1, n1, N1, q1, l1, c1, rfl, hx, hb⟩; have HX := Lib.hid hx; have HB1 := Lib.hid hb; have hb1 := hb_below HN1.out hb (hb_lt HN1.out); have f0 := hb_free hb1 0; have f1 := hb_free hb1 1; have f2 := hb_free hb1 2; have f3 := hb_free hb1 3; have f4 := hb_free hb1 4; have e0 := hb_at hb1 0 rfl; have e1 := hb_at hb1 1 rfl; have e2 := hb_at hb1 2 rfl; have e3 := hb_at hb1 3 rfl; have e4 := hb_at hb1 4 rfl; have HBB := Lib.hid hb1; clear hx hb hb1)
  obtain ⟨y1, y2, y3⟩ := box_set (base := w.heap.size) (Nat.le_refl _) HBB.out (.int .i64 k1) (.string p1) (.string n1) (.int .i64 N1) (.slice q1 l1 c1)
  have HX1 := Lib.hid (HX.out.move (Y := fun b => b < B0) fun b hb _ => ⟨hb, y3.block b (by have := HB0.out; omega)⟩)
  have HB2 := Lib.hid ((HBA.out.trans (HB1.out.mono HBA.out.size)).trans y3)
  have HY1 := Lib.hid y1
  have HN3 := Lib.hid ((y2 (w.heap.size + 1) (by omega)).trans (hb_below HN2.out HB1.out (hb_lt HN2.out)))
  clear y1 y2 y3 HBB HC1 HX HN1 HN2 HBA HB1 f0 f1 f2 f3 f4 e0 e1 e2 e3 e4 x0 x1 x2 x3 x4
  generalize (((((w1.setCell ⟨w.heap.size, 0, none⟩ (.int .i64 k1)).setCell ⟨w.heap.size, 1, none⟩ (.string p1)).setCell ⟨w.heap.size, 2, none⟩ (.string n1)).setCell ⟨w.heap.size, 3, none⟩ (.int .i64 N1)).setCell ⟨w.heap.size, 4, none⟩ (.slice q1 l1 c1)) = W2 at *
  have HC2 := Lib.hid (look_any (HR.out.below HB2.out) HI.out (HVB.out.below HB2.out) HWB.out HLB.out)
  obtain ⟨x0, x1, x2, x3, x4⟩ := box_cells HN3.out
  go_upto_region 3 with (go_at_call 70; (with_reducible refine HC2.out.mono ?_); rintro e w3 ⟨k2, p2, n2, N2, q2, l2, c2, rfl, hx, hb⟩; have HX := Lib.hid hx; have HB1 := Lib.hid hb; have hb1 := hb_below HN3.out hb (hb_lt HN3.out); have f0 := hb_free hb1 0; have f1 := hb_free hb1 1; have f2 := hb_free hb1 2; have f3 := hb_free hb1 3; have f4 := hb_free hb1 4; have e0 := hb_at hb1 0 rfl; have e1 := hb_at hb1 1 rfl; have e2 := hb_at hb1 2 rfl; have e3 := hb_at hb1 3 rfl; have e4 := hb_at hb1 4 rfl; have HBB := Lib.hid hb1; clear hx hb hb1)
  obtain ⟨y1, y2, y3⟩ := box_set (base := w.heap.size) (Nat.le_succ _) HBB.out (.int .i64 k2) (.string p2) (.string n2) (.int .i64 N2) (.slice q2 l2 c2)
  have HX2 := Lib.hid (HX.out.move (Y := fun b => b < B0) fun b hb _ => ⟨hb, y3.block b (by have := HB0.out; omega)⟩)
  have HX1 := Lib.hid ((HX1.out.below HB1.out).move (Y := fun b => b < B0) fun b hb _ => ⟨hb, y3.block b (by have := HB0.out; omega)⟩)
  have HB4 := Lib.hid ((HB2.out.trans (HB1.out.mono HB2.out.size)).trans y3)
  have HY2 := Lib.hid y1
  have HY1 := Lib.hid ((y2 w.heap.size (by omega)).trans (hb_below HY1.out HB1.out (hb_lt HY1.out)))
  clear y1 y2 y3 HBB HC2 HX HN3 HB2 HB1 HVA HVB f0 f1 f2 f3 f4 e0 e1 e2 e3 e4 x0 x1 x2 x3 x4
  generalize (((((w3.setCell ⟨w.heap.size + 1, 0, none⟩ (.int .i64 k2)).setCell ⟨w.heap.size + 1, 1, none⟩ (.string p2)).setCell ⟨w.heap.size + 1, 2, none⟩ (.string n2)).setCell ⟨w.heap.size + 1, 3, none⟩ (.int .i64 N2)).setCell ⟨w.heap.size + 1, 4, none⟩ (.slice q2 l2 c2)) = W4 at *
  have HR4 := Lib.hid (HR.out.below HB4.out)
  obtain ⟨x0, x1, x2, x3, x4⟩ := box_cells HY1.out
  obtain ⟨z0, z1, z2, z3, z4⟩ := box_cells HY2.out
  have b0 := hb_at HR4.out.blk 0 rfl
  have b1 := hb_at HR4.out.blk 1 rfl
  subst ex
  obtain ⟨_, _, _, _, _, _, _, hv1, hv2, _⟩ := HX1.out.opn
  cases hv2
  cases hv1
  obtain ⟨k', p', n', N', q', c', l', hv1, rfl, _⟩ := HX2.out.opn
  cases hv1
  have hk2 : k2 ≠ 1 := fun e => hny p2 n2 N2 l' (by rw [e])
  have hk2' : (k2 == 1) = false := by simpa using hk2
  have HK2 := Lib.hid hk2
  have HK0 := Lib.hid hnz.inv.1
  have HNZ := Lib.hid hnz
  have HNM := Lib.hid HR4.out.nm
  have HN := Lib.hid hn
  have HNS := Lib.hid hns
  have HLX := Lib.hid hlx
  have HLY := Lib.hid hly
  have HFY := Lib.hid hfy
  have HWI := Lib.hid (within_any HI.out n _ _ _ _ _ HR4.out HX2.out hwy hfy (Nat.le_refl _))
  have HWY := Lib.hid hwy
  clear hn hns hlx hly hk2 hny hnz hfy hwy
  go_upto_region 13 with (go_at_call 88; (with_reducible refine HWI.out.mono ?_); rintro e w5 ⟨r, rfl, hr, hb5⟩; have HRR := Lib.hid hr; have HB5 := Lib.hid hb5; clear hr hb5; rcases Bool.eq_false_or_eq_true r with hrt | hrt; (subst hrt); rotate_left; (subst hrt))
  · have HR5 := Lib.hid (HR4.out.below HB5.out)
    have HBW := Lib.hid HR5.out.b0
    have HY5 := Lib.hid (HX2.out.below HB5.out)
    have HB6 := Lib.hid (HB4.out.trans (HB5.out.mono HB4.out.size))
    have HNM := Lib.hid HR5.out.nm
    obtain ⟨x0, x1, x2, x3, x4⟩ := box_cells (hb_below HY1.out HB5.out (hb_lt HY1.out))
    obtain ⟨z0, z1, z2, z3, z4⟩ := box_cells (hb_below HY2.out HB5.out (hb_lt HY2.out))
    have b0 := hb_at HR5.out.blk 0 rfl
    have b1 := hb_at HR5.out.blk 1 rfl
    have hpn := plc_in HNS.out
    have hn9 := ixO_lt HNS.out
    obtain ⟨iN, hin⟩ : ∃ i, ixO ns n = i := ⟨_, rfl⟩
    rw [hin] at hpn hn9
    have HIN := Lib.hid hin
    have HPN := Lib.hid hpn
    clear hin hpn
    have hn9' : (iN : Int) < (ns.length : Int) := by omega
    have HGK := Lib.hid (Gk.of_below (g := g) HB0.out HB6.out)
    refine wp_region_held_drew (S := (fun w' => RowKit.Hid (Gk B0 g w5 w') ∧ RowKit.Hid (RSt2 B0 B g D ns S nv cg n (Tm.mk k2 p2 n2 N2 l') w') ∧ w'.cell? ⟨B, 0, none⟩ = some (nv) ∧ w'.cell? ⟨B, 1, none⟩ = some (.slice (some ⟨g, 0, none⟩) ns.length cg) ∧ w'.cell? ⟨w.heap.size, 2, none⟩ = some (.string n) ∧ w'.cell? ⟨w.heap.size + 1, 0, none⟩ = some (.int .i64 k2) ∧ w'.cell? ⟨w.heap.size + 1, 1, none⟩ = some (.string p2) ∧ w'.cell? ⟨w.heap.size + 1, 2, none⟩ = some (.string n2) ∧ w'.cell? ⟨w.heap.size + 1, 3, none⟩ = some (.int .i64 N2) ∧ w'.cell? ⟨w.heap.size + 1, 4, none⟩ = some (.slice q2 l'.length c2))) (by kernel_rfl) (by exact ⟨Lib.hid (Gk.of_below HBW.out (below_drewN (Below.refl _ _) 1)), Lib.hid (RSt2.below (.inl HR5.out) (below_drewN (Below.refl _ _) 1)), b0, b1, x2, z0, z1, z2, z3, z4⟩) (fun hHeld => ?_)
    refine wpAnyH_take (i := 0) (oi := ⟨some 66, _, _, _, _, _⟩) (v := ?_) rfl (by kernel_rfl) (by kernel_rfl) (by kernel_rfl) (fun _ _ _ h => h) (Or.inl ⟨by rfl, ?_⟩) (by assumption) ?_
    rotate_left
    focus (intro w hSw; (try dsimp only at hSw); go_simp; first | done | with_reducible rfl)
    try simp only [Act.put, List.setIfInBounds_toArray, List.set_cons_zero, List.set_cons_succ]
    refine wpAnyH_take (i := 1) (oi := ⟨some 67, _, _, _, _, _⟩) (v := ?_) rfl (by kernel_rfl) (by kernel_rfl) (by kernel_rfl) (fun _ _ _ h => h) (Or.inl ⟨by rfl, ?_⟩) (by assumption) ?_
    rotate_left
    focus (intro w hSw; (try dsimp only at hSw); go_simp; first | done | with_reducible rfl)
    try simp only [Act.put, List.setIfInBounds_toArray, List.set_cons_zero, List.set_cons_succ]
    refine wpAnyH_take (i := 2) (oi := ⟨some 68, _, _, _, _, _⟩) (v := ?_) rfl (by kernel_rfl) (by kernel_rfl) (by kernel_rfl) (fun _ _ _ h => h) (Or.inl ⟨by rfl, ?_⟩) (by assumption) ?_
    rotate_left
    focus (intro w hSw; (try dsimp only at hSw); go_simp; first | done | with_reducible rfl)
    try simp only [Act.put, List.setIfInBounds_toArray, List.set_cons_zero, List.set_cons_succ]
    refine wpAnyH_take (i := 3) (oi := ⟨some 69, _, _, _, _, _⟩) (v := ?_) rfl (by kernel_rfl) (by kernel_rfl) (by kernel_rfl) (fun _ _ _ h => h) (Or.inl ⟨by rfl, ?_⟩) (by assumption) ?_
    rotate_left
    focus (intro w hSw; (try dsimp only at hSw); go_simp; first | done | with_reducible rfl)
    try simp only [Act.put, List.setIfInBounds_toArray, List.set_cons_zero, List.set_cons_succ]
    refine wpAnyH_take (i := 4) (oi := ⟨some 70, _, _, _, _, _⟩) (v := ?_) rfl (by kernel_rfl) (by kernel_rfl) (by kernel_rfl) (fun _ _ _ h => h) (Or.inl ⟨by rfl, ?_⟩) (by assumption) ?_
    rotate_left
    focus (intro w hSw; (try dsimp only at hSw); go_simp; first | done | with_reducible rfl)
    try simp only [Act.put, List.setIfInBounds_toArray, List.set_cons_zero, List.set_cons_succ]
    refine wpAnyH_take (i := 5) (oi := ⟨some 71, _, _, _, _, _⟩) (v := ?_) rfl (by kernel_rfl) (by kernel_rfl) (by kernel_rfl) (fun _ _ _ h => h) (Or.inl ⟨by rfl, ?_⟩) (by assumption) ?_
    rotate_left
    focus (intro w hSw; (try dsimp only at hSw); go_simp; first | done | with_reducible rfl)
    try simp only [Act.put, List.setIfInBounds_toArray, List.set_cons_zero, List.set_cons_succ]
    refine wpAnyH_take (i := 6) (oi := ⟨some 72, _, _, _, _, _⟩) (v := ?_) rfl (by kernel_rfl) (by kernel_rfl) (by kernel_rfl) (fun _ _ _ h => h) (Or.inl ⟨by rfl, ?_⟩) (by assumption) ?_
    rotate_left
    focus (intro w hSw; (try dsimp only at hSw); go_simp; first | done | with_reducible rfl)
    try simp only [Act.put, List.setIfInBounds_toArray, List.set_cons_zero, List.set_cons_succ]
    refine wpAnyH_take (i := 7) (oi := ⟨some 73, _, _, _, _, _⟩) (v := ?_) rfl (by kernel_rfl) (by kernel_rfl) (by kernel_rfl) (fun _ _ _ h => h) (Or.inl ⟨by rfl, ?_⟩) (by assumption) ?_
    rotate_left
    focus (intro w hSw; (try dsimp only at hSw); go_simp; first | done | with_reducible rfl)
    try simp only [Act.put, List.setIfInBounds_toArray, List.set_cons_zero, List.set_cons_succ]
    refine wpAnyH_take (i := 8) (oi := ⟨some 74, _, _, _, _, _⟩) (v := ?_) rfl (by kernel_rfl) (by kernel_rfl) (by kernel_rfl) (fun _ _ _ h => h) (Or.inl ⟨by rfl, ?_⟩) (by assumption) ?_
    rotate_left
    focus (intro w hSw; (try dsimp only at hSw); go_simp; first | done | with_reducible rfl)
    try simp only [Act.put, List.setIfInBounds_toArray, List.set_cons_zero, List.set_cons_succ]
    refine wpAnyH_take (i := 9) (oi := ⟨some 75, _, _, _, _, _⟩) (v := ?_) rfl (by kernel_rfl) (by kernel_rfl) (by kernel_rfl) (fun _ _ _ h => h) (Or.inl ⟨by rfl, ?_⟩) (by assumption) ?_
    rotate_left
    focus (intro w hSw; (try dsimp only at hSw); go_simp; first | done | with_reducible rfl)
    try simp only [Act.put, List.setIfInBounds_toArray, List.set_cons_zero, List.set_cons_succ]
    refine wpAnyH_take (i := 11) (oi := ⟨some 77, _, _, _, _, _⟩) (v := ?_) rfl (by kernel_rfl) (by kernel_rfl) (by kernel_rfl) (fun _ _ _ h => h) (Or.inl ⟨by rfl, ?_⟩) (by assumption) ?_
    rotate_left
    focus (intro w hSw; (try dsimp only at hSw); go_simp; first | done | with_reducible rfl)
    try simp only [Act.put, List.setIfInBounds_toArray, List.set_cons_zero, List.set_cons_succ]
    refine wpAnyH_ready (rs := [10]) (by kernel_rfl) (by simp) ?_
    refine AllReadyH.cons (o := ⟨some 76, _, _, _, _, _⟩) rfl (fun K hK => ?_) AllReadyH.nil
    go_simp
    have hc := place_any _ nv ns n ((HNM.out.gk hHeld.1.out).o) HR.out.ln; rw [HPN.out] at hc; (with_reducible refine hc.mono ?_); rintro e v1 ⟨rfl, hb⟩; clear hc
    go_wp2_with fail
    refine hK.out _ _ (by exact ⟨Lib.hid (hHeld.1.out.trans (Gk.of_below (Nat.le_trans HBW.out hHeld.1.out.size) hb)), Lib.hid (hHeld.2.1.out.below hb), keep_cell hb hHeld.2.2.1, keep_cell hb hHeld.2.2.2.1, keep_cell hb hHeld.2.2.2.2.1, keep_cell hb hHeld.2.2.2.2.2.1, keep_cell hb hHeld.2.2.2.2.2.2.1, keep_cell hb hHeld.2.2.2.2.2.2.2.1, keep_cell hb hHeld.2.2.2.2.2.2.2.2.1, keep_cell hb hHeld.2.2.2.2.2.2.2.2.2⟩) (fun hNew => ?_)
    clear hK K
    clear hHeld hb; have hHeld := hNew; clear hNew
    try simp only [Act.put, List.setIfInBounds_toArray, List.set_cons_zero, List.set_cons_succ]
    refine wpAnyH_take (i := 12) (oi := ⟨some 78, _, _, _, _, _⟩) (v := ?_) rfl (by kernel_rfl) (by kernel_rfl) (by kernel_rfl) (fun _ _ _ h => h) (Or.inl ⟨by rfl, ?_⟩) (by assumption) ?_
    rotate_left
    focus (intro w hSw; (try dsimp only at hSw); go_simp; first | done | with_reducible rfl)
    try simp only [Act.put, List.setIfInBounds_toArray, List.set_cons_zero, List.set_cons_succ]
    refine wpAnyH_ready (rs := [13]) (by kernel_rfl) (by simp) ?_
    refine AllReadyH.cons (o := ⟨none, _, _, _, _, _⟩) rfl (fun K hK => ?_) AllReadyH.nil
    have HDG := hHeld.1
    have HDG := hHeld.1
    obtain ⟨k9, p9, m9, N9, s9, ⟨t0, t1, t2, t3, t4⟩, hfz⟩ := hHeld.2.1.out.at HNS.out
    obtain ⟨hur, hug⟩ := hHeld.2.1.out.put HNS.out (HY5.out.gk (hHeld.1.out)) (HK0.out)
    rw [HIN.out] at t0 t1 t2 t3 t4 hur hug
    have h0 := hfz (iN * 5)
    have h1 := hfz (iN * 5 + 1)
    have h2 := hfz (iN * 5 + 2)
    have h3 := hfz (iN * 5 + 3)
    have h4 := hfz (iN * 5 + 4)
    have HUR := Lib.hid hur
    have HUG := Lib.hid hug
    clear hur hug hfz
    have hb : True := trivial
    go_simp
    refine hK.out _ _ (by exact ⟨Lib.hid (hHeld.1.out.trans HUG.out), Lib.hid (.inr HUR.out), HUG.out.cell hHeld.2.2.1 (by exact fun e => HR.out.ne e.symm), HUG.out.cell hHeld.2.2.2.1 (by exact fun e => HR.out.ne e.symm), HUG.out.cell hHeld.2.2.2.2.1 (by have := HGL.out; omega), HUG.out.cell hHeld.2.2.2.2.2.1 (by have := HGL.out; omega), HUG.out.cell hHeld.2.2.2.2.2.2.1 (by have := HGL.out; omega), HUG.out.cell hHeld.2.2.2.2.2.2.2.1 (by have := HGL.out; omega), HUG.out.cell hHeld.2.2.2.2.2.2.2.2.1 (by have := HGL.out; omega), HUG.out.cell hHeld.2.2.2.2.2.2.2.2.2 (by have := HGL.out; omega)⟩) (fun hNew => ?_)
    clear hK K
    clear hHeld hb; have hHeld := hNew; clear hNew
    try simp only [Act.put, List.setIfInBounds_toArray, List.set_cons_zero, List.set_cons_succ]
    refine wpAnyH_done (by kernel_rfl) ?_ _
    clear hHeld
    go_wp2
    go_ret
    refine ⟨true, _, rfl, RS.UR.look HLX.out HLY.out (RS.UR.symm (RS.ur_put HI.out HN.out HNS.out HWY.out (fun m e => ?_) HFY.out (fun ho => ?_))), fun _ => HUR.out, (HGK.out.trans HDG.out).trans HUG.out, fun hz => hz.put HNZ.out⟩
    · injection e with e; exact absurd e HK2.out
    · have := HRR.out.2 ho; cases this
  · go_ret
    refine ⟨false, S, rfl, RS.UR.look HLX.out HLY.out (RS.UR.symm (RS.ur_occ HI.out HK2.out HFY.out (HRR.out.1 (by first | rfl | trivial)))), (fun h => by cases h), Gk.of_below HB0.out (HB4.out.trans (HB5.out.mono HB4.out.size)), fun hz => hz⟩
end Go.Proofs.YtncebhddcokkoaaDoor
/- The document's solver: Unify of two types that are no variables; of any. -/
namespace Go.Proofs.YtncebhddcokkoaaDoor
open Go.RowKit
set_option linter.unusedSimpArgs false
set_option linter.unusedVariables false
set_option maxRecDepth 100000 in
set_option maxHeartbeats 2000000 in
theorem uni_nv {B0 B g D : Nat} {ns : List ByteArray} {S : RS} {nv : Value} {cg : Nat} {w : World} (hR : RSt B0 B g D ns S nv cg w) (hI : S.Inv ns (ixO ns)) {va vb : Value} {ta tb x y : Tm} (hva : IsX (fun b => b < B0) w D va ta) (hvb : IsX (fun b => b < B0) w D vb tb) (hwa : Wt ns ta) (hwb : Wt ns tb) (hla : RS.Look S ta x) (hlb : RS.Look S tb y) {m : ByteArray} {ux : Tm} (ey : y = vN m) (hny : ∀ p m N l, x ≠ .mk 1 p m N l) (hm : S m = none) (hms : m ∈ ns) (hnz : NZ x) (hfx : RS.Fu S x ux) : Calls Tryd.prog 69 #[.pointer (some ⟨B, 0, none⟩), va, vb] w (UnR B0 B g D ns S nv cg (fun σ => Eq2 σ ta tb) w) := by
  have hlx := hla
  have hly := hlb
  have hwx := hla.wt hI hwa
  have hwy := hlb.wt hI hwb
  obtain ⟨ka, pa, na, Na, qa, la, ca, rfl⟩ := hva.shape
  obtain ⟨kb, pb, nb, Nb, qb, lb, cb, rfl⟩ := hvb.shape
  have hba := below2 w (.cells #[.int .i64 ka, .string pa, .string na, .int .i64 Na, .slice qa la ca] 36) (.cells #[.int .i64 kb, .string pb, .string nb, .int .i64 Nb, .slice qb lb cb] 36)
  have hn1 := hb_alloc (hb_new w (.cells #[.int .i64 ka, .string pa, .string na, .int .i64 Na, .slice qa la ca] 36)) (.cells #[.int .i64 kb, .string pb, .string nb, .int .i64 Nb, .slice qb lb cb] 36)
  have hn2 := hb_new (w.alloc (.cells #[.int .i64 ka, .string pa, .string na, .int .i64 Na, .slice qa la ca] 36)) (.cells #[.int .i64 kb, .string pb, .string nb, .int .i64 Nb, .slice qb lb cb] 36)
  simp only [World.size_alloc] at hn2
  have HR := Lib.hid hR
  have HI := Lib.hid hI
  have HVA := Lib.hid hva
  have HVB := Lib.hid hvb
  have HB0 := Lib.hid hR.b0
  have hBl := hR.lt
  have HWA := Lib.hid hwa
  have HWB := Lib.hid hwb
  have HLA := Lib.hid hla
  have HLB := Lib.hid hlb
  have HGL := Lib.hid (hR.lt_g)
  clear hva hvb hwa hwb hla hlb hR hI
  go_enter Tryd.func69, Tryd.ntmps69
  go_upto_region 1 with (fail)
  have HBA := Lib.hid hba
  have HN1 := Lib.hid hn1
  have HN2 := Lib.hid hn2
  clear hba hn1 hn2
  generalize (w.alloc (.cells #[.int .i64 ka, .string pa, .string na, .int .i64 Na, .slice qa la ca] 36)).alloc (.cells #[.int .i64 kb, .string pb, .string nb, .int .i64 Nb, .slice qb lb cb] 36) = W0 at *
  have HC1 := Lib.hid (look_any (HR.out.below HBA.out) HI.out (HVA.out.below HBA.out) HWA.out HLA.out)
  obtain ⟨x0, x1, x2, x3, x4⟩ := box_cells HN1.out
  go_upto_region 2 with (go_at_call 70; (with_reducible refine HC1.out.mono ?_); rintro e w1 ⟨k1, p1, n1, N1, q1, l1, c1, rfl, hx, hb⟩; have HX := Lib.hid hx; have HB1 := Lib.hid hb; have hb1 := hb_below HN1.out hb (hb_lt HN1.out); have f0 := hb_free hb1 0; have f1 := hb_free hb1 1; have f2 := hb_free hb1 2; have f3 := hb_free hb1 3; have f4 := hb_free hb1 4; have e0 := hb_at hb1 0 rfl; have e1 := hb_at hb1 1 rfl; have e2 := hb_at hb1 2 rfl; have e3 := hb_at hb1 3 rfl; have e4 := hb_at hb1 4 rfl; have HBB := Lib.hid hb1; clear hx hb hb1)
  obtain ⟨y1, y2, y3⟩ := box_set (base := w.heap.size) (Nat.le_refl _) HBB.out (.int .i64 k1) (.string p1) (.string n1) (.int .i64 N1) (.slice q1 l1 c1)
  have HX1 := Lib.hid (HX.out.move (Y := fun b => b < B0) fun b hb _ => ⟨hb, y3.block b (by have := HB0.out; omega)⟩)
  have HB2 := Lib.hid ((HBA.out.trans (HB1.out.mono HBA.out.size)).trans y3)
  have HY1 := Lib.hid y1
  have HN3 := Lib.hid ((y2 (w.heap.size + 1) (by omega)).trans (hb_below HN2.out HB1.out (hb_lt HN2.out)))
  clear y1 y2 y3 HBB HC1 HX HN1 HN2 HBA HB1 f0 f1 f2 f3 f4 e0 e1 e2 e3 e4 x0 x1 x2 x3 x4
  generalize (((((w1.setCell ⟨w.heap.size, 0, none⟩ (.int .i64 k1)).setCell ⟨w.heap.size, 1, none⟩ (.string p1)).setCell ⟨w.heap.size, 2, none⟩ (.string n1)).setCell ⟨w.heap.size, 3, none⟩ (.int .i64 N1)).setCell ⟨w.heap.size, 4, none⟩ (.slice q1 l1 c1)) = W2 at *
  have HC2 := Lib.hid (look_any (HR.out.below HB2.out) HI.out (HVB.out.below HB2.out) HWB.out HLB.out)
  obtain ⟨x0, x1, x2, x3, x4⟩ := box_cells HN3.out
  go_upto_region 3 with (go_at_call 70; (with_reducible refine HC2.out.mono ?_); rintro e w3 ⟨k2, p2, n2, N2, q2, l2, c2, rfl, hx, hb⟩; have HX := Lib.hid hx; have HB1 := Lib.hid hb; have hb1 := hb_below HN3.out hb (hb_lt HN3.out); have f0 := hb_free hb1 0; have f1 := hb_free hb1 1; have f2 := hb_free hb1 2; have f3 := hb_free hb1 3; have f4 := hb_free hb1 4; have e0 := hb_at hb1 0 rfl; have e1 := hb_at hb1 1 rfl; have e2 := hb_at hb1 2 rfl; have e3 := hb_at hb1 3 rfl; have e4 := hb_at hb1 4 rfl; have HBB := Lib.hid hb1; clear hx hb hb1)
  obtain ⟨y1, y2, y3⟩ := box_set (base := w.heap.size) (Nat.le_succ _) HBB.out (.int .i64 k2) (.string p2) (.string n2) (.int .i64 N2) (.slice q2 l2 c2)
  have HX2 := Lib.hid (HX.out.move (Y := fun b => b < B0) fun b hb _ => ⟨hb, y3.block b (by have := HB0.out; omega)⟩)
  have HX1 := Lib.hid ((HX1.out.below HB1.out).move (Y := fun b => b < B0) fun b hb _ => ⟨hb, y3.block b (by have := HB0.out; omega)⟩)
  have HB4 := Lib.hid ((HB2.out.trans (HB1.out.mono HB2.out.size)).trans y3)
  have HY2 := Lib.hid y1
  have HY1 := Lib.hid ((y2 w.heap.size (by omega)).trans (hb_below HY1.out HB1.out (hb_lt HY1.out)))
  clear y1 y2 y3 HBB HC2 HX HN3 HB2 HB1 HVA HVB f0 f1 f2 f3 f4 e0 e1 e2 e3 e4 x0 x1 x2 x3 x4
  generalize (((((w3.setCell ⟨w.heap.size + 1, 0, none⟩ (.int .i64 k2)).setCell ⟨w.heap.size + 1, 1, none⟩ (.string p2)).setCell ⟨w.heap.size + 1, 2, none⟩ (.string n2)).setCell ⟨w.heap.size + 1, 3, none⟩ (.int .i64 N2)).setCell ⟨w.heap.size + 1, 4, none⟩ (.slice q2 l2 c2)) = W4 at *
  have HR4 := Lib.hid (HR.out.below HB4.out)
  obtain ⟨x0, x1, x2, x3, x4⟩ := box_cells HY1.out
  obtain ⟨z0, z1, z2, z3, z4⟩ := box_cells HY2.out
  have b0 := hb_at HR4.out.blk 0 rfl
  have b1 := hb_at HR4.out.blk 1 rfl
  subst ey
  obtain ⟨_, _, _, _, _, _, _, hv1, hv2, _⟩ := HX2.out.opn
  cases hv2
  cases hv1
  obtain ⟨k', p', n', N', q', c', l', hv1, rfl, _⟩ := HX1.out.opn
  cases hv1
  have hk1 : k1 ≠ 1 := fun e => hny p1 n1 N1 l' (by rw [e])
  have hk1' : (k1 == 1) = false := by simpa using hk1
  have HLX := Lib.hid hlx
  have HLY := Lib.hid hly
  have HX2' : IsX (fun b => b < B0) W4 D (tv 1 ⟨#[]⟩ m 0 (.slice q2 0 c2)) (vN m) := HX2.out
  have HC := Lib.hid (uni_vn HR4.out HI.out HX2' HX1.out hwy hwx (.free hm) (.con hk1) rfl hny hm hms hnz hfx)
  clear hm hms hlx hly hk1 hny hnz hfx hwx hwy HX2'
  go_wp2_with (go_at_call 69; (with_reducible refine HC.out.mono ?_); rintro e w5 ⟨r, S', rfl, hur, hrs, hg5, hz⟩; have HUR := Lib.hid hur; have HRS := Lib.hid hrs; have HG5 := Lib.hid hg5; have HZ := Lib.hid hz; clear hur hrs hg5 hz)
  go_ret
  exact ⟨r, S', rfl, RS.UR.look HLX.out HLY.out HUR.out.symm, HRS.out, (Gk.of_below HB0.out HB4.out).trans HG5.out, HZ.out⟩
/-- What a call for parts may rely on. -/
def URec (B0 B g D : Nat) (ns : List ByteArray) (S : RS) (nv : Value) (cg : Nat) (M : Nat) : Prop :=
  ∀ (w1 : World) (S1 : RS) (va vb : Value) (x y : Tm), RSt B0 B g D ns S1 nv cg w1 → S1.Inv ns (ixO ns) → IsX (fun b => b < B0) w1 D va x → IsX (fun b => b < B0) w1 D vb y → Wt ns x → Wt ns y → NZ x → NZ y → S1.Nz →
    (S1.nv ns < S.nv ns ∨ (S1 = S ∧ ∃ ux uy, RS.Fu S x ux ∧ RS.Fu S y uy ∧ cnt2 ux + cnt2 uy < M)) → Calls Tryd.prog 69 #[.pointer (some ⟨B, 0, none⟩), va, vb] w1 (UnR B0 B g D ns S1 nv cg (fun σ => Eq2 σ x y) w1)
set_option maxRecDepth 100000 in
set_option maxHeartbeats 4000000 in
theorem uni_nn {B0 B g D : Nat} {ns : List ByteArray} {S : RS} {nv : Value} {cg : Nat} {w : World} (hR : RSt B0 B g D ns S nv cg w) (hI : S.Inv ns (ixO ns)) {va vb : Value} {ta tb x y : Tm} (hva : IsX (fun b => b < B0) w D va ta) (hvb : IsX (fun b => b < B0) w D vb tb) (hwa : Wt ns ta) (hwb : Wt ns tb) (hla : RS.Look S ta x) (hlb : RS.Look S tb y) {ux uy : Tm} (hnx : ∀ p m N l, x ≠ .mk 1 p m N l) (hny : ∀ p m N l, y ≠ .mk 1 p m N l) (hzx : NZ x) (hzy : NZ y) (hnz : S.Nz) (hfx : RS.Fu S x ux) (hfy : RS.Fu S y uy) (hrec : URec B0 B g D ns S nv cg (cnt2 ux + cnt2 uy)) : Calls Tryd.prog 69 #[.pointer (some ⟨B, 0, none⟩), va, vb] w (UnR B0 B g D ns S nv cg (fun σ => Eq2 σ ta tb) w) := by
  have hlx := hla
  have hly := hlb
  have hwx := hla.wt hI hwa
  have hwy := hlb.wt hI hwb
  obtain ⟨ka, pa, na, Na, qa, la, ca, rfl⟩ := hva.shape
  obtain ⟨kb, pb, nb, Nb, qb, lb, cb, rfl⟩ := hvb.shape
  have hba := below2 w (.cells #[.int .i64 ka, .string pa, .string na, .int .i64 Na, .slice qa la ca] 36) (.cells #[.int .i64 kb, .string pb, .string nb, .int .i64 Nb, .slice qb lb cb] 36)
  have hn1 := hb_alloc (hb_new w (.cells #[.int .i64 ka, .string pa, .string na, .int .i64 Na, .slice qa la ca] 36)) (.cells #[.int .i64 kb, .string pb, .string nb, .int .i64 Nb, .slice qb lb cb] 36)
  have hn2 := hb_new (w.alloc (.cells #[.int .i64 ka, .string pa, .string na, .int .i64 Na, .slice qa la ca] 36)) (.cells #[.int .i64 kb, .string pb, .string nb, .int .i64 Nb, .slice qb lb cb] 36)
  simp only [World.size_alloc] at hn2
  have HR := Lib.hid hR
  have HI := Lib.hid hI
  have HVA := Lib.hid hva
  have HVB := Lib.hid hvb
  have HB0 := Lib.hid hR.b0
  have hBl := hR.lt
  have HWA := Lib.hid hwa
  have HWB := Lib.hid hwb
  have HLA := Lib.hid hla
  have HLB := Lib.hid hlb
  have HGL := Lib.hid (hR.lt_g)
  clear hva hvb hwa hwb hla hlb hR hI
  go_enter Tryd.func69, Tryd.ntmps69
  go_upto_region 1 with (fail)
  have HBA := Lib.hid hba
  have HN1 := Lib.hid hn1
  have HN2 := Lib.hid hn2
  clear hba hn1 hn2
  generalize (w.alloc (.cells #[.int .i64 ka, .string pa, .string na, .int .i64 Na, .slice qa la ca] 36)).alloc (.cells #[.int .i64 kb, .string pb, .string nb, .int .i64 Nb, .slice qb lb cb] 36) = W0 at *
  have HC1 := Lib.hid (look_any (HR.out.below HBA.out) HI.out (HVA.out.below HBA.out) HWA.out HLA.out)
  obtain ⟨x0, x1, x2, x3, x4⟩ := box_cells HN1.out
  go_upto_region 2 with (go_at_call 70; (with_reducible refine HC1.out.mono ?_); rintro e w1 ⟨k1, p1, n1, N1, q1, l1, c1, rfl, hx, hb⟩; have HX := Lib.hid hx; have HB1 := Lib.hid hb; have hb1 := hb_below HN1.out hb (hb_lt HN1.out); have f0 := hb_free hb1 0; have f1 := hb_free hb1 1; have f2 := hb_free hb1 2; have f3 := hb_free hb1 3; have f4 := hb_free hb1 4; have e0 := hb_at hb1 0 rfl; have e1 := hb_at hb1 1 rfl; have e2 := hb_at hb1 2 rfl; have e3 := hb_at hb1 3 rfl; have e4 := hb_at hb1 4 rfl; have HBB := Lib.hid hb1; clear hx hb hb1)
  obtain ⟨y1, y2, y3⟩ := box_set (base := w.heap.size) (Nat.le_refl _) HBB.out (.int .i64 k1) (.string p1) (.string n1) (.int .i64 N1) (.slice q1 l1 c1)
  have HX1 := Lib.hid (HX.out.move (Y := fun b => b < B0) fun b hb _ => ⟨hb, y3.block b (by have := HB0.out; omega)⟩)
  have HB2 := Lib.hid ((HBA.out.trans (HB1.out.mono HBA.out.size)).trans y3)
  have HY1 := Lib.hid y1
  have HN3 := Lib.hid ((y2 (w.heap.size + 1) (by omega)).trans (hb_below HN2.out HB1.out (hb_lt HN2.out)))
  clear y1 y2 y3 HBB HC1 HX HN1 HN2 HBA HB1 f0 f1 f2 f3 f4 e0 e1 e2 e3 e4 x0 x1 x2 x3 x4
  generalize (((((w1.setCell ⟨w.heap.size, 0, none⟩ (.int .i64 k1)).setCell ⟨w.heap.size, 1, none⟩ (.string p1)).setCell ⟨w.heap.size, 2, none⟩ (.string n1)).setCell ⟨w.heap.size, 3, none⟩ (.int .i64 N1)).setCell ⟨w.heap.size, 4, none⟩ (.slice q1 l1 c1)) = W2 at *
  have HC2 := Lib.hid (look_any (HR.out.below HB2.out) HI.out (HVB.out.below HB2.out) HWB.out HLB.out)
  obtain ⟨x0, x1, x2, x3, x4⟩ := box_cells HN3.out
  go_upto_region 3 with (go_at_call 70; (with_reducible refine HC2.out.mono ?_); rintro e w3 ⟨k2, p2, n2, N2, q2, l2, c2, rfl, hx, hb⟩; have HX := Lib.hid hx; have HB1 := Lib.hid hb; have hb1 := hb_below HN3.out hb (hb_lt HN3.out); have f0 := hb_free hb1 0; have f1 := hb_free hb1 1; have f2 := hb_free hb1 2; have f3 := hb_free hb1 3; have f4 := hb_free hb1 4; have e0 := hb_at hb1 0 rfl; have e1 := hb_at hb1 1 rfl; have e2 := hb_at hb1 2 rfl; have e3 := hb_at hb1 3 rfl; have e4 := hb_at hb1 4 rfl; have HBB := Lib.hid hb1; clear hx hb hb1)
  obtain ⟨y1, y2, y3⟩ := box_set (base := w.heap.size) (Nat.le_succ _) HBB.out (.int .i64 k2) (.string p2) (.string n2) (.int .i64 N2) (.slice q2 l2 c2)
  have HX2 := Lib.hid (HX.out.move (Y := fun b => b < B0) fun b hb _ => ⟨hb, y3.block b (by have := HB0.out; omega)⟩)
  have HX1 := Lib.hid ((HX1.out.below HB1.out).move (Y := fun b => b < B0) fun b hb _ => ⟨hb, y3.block b (by have := HB0.out; omega)⟩)
  have HB4 := Lib.hid ((HB2.out.trans (HB1.out.mono HB2.out.size)).trans y3)
  have HY2 := Lib.hid y1
  have HY1 := Lib.hid ((y2 w.heap.size (by omega)).trans (hb_below HY1.out HB1.out (hb_lt HY1.out)))
  clear y1 y2 y3 HBB HC2 HX HN3 HB2 HB1 HVA HVB f0 f1 f2 f3 f4 e0 e1 e2 e3 e4 x0 x1 x2 x3 x4
  generalize (((((w3.setCell ⟨w.heap.size + 1, 0, none⟩ (.int .i64 k2)).setCell ⟨w.heap.size + 1, 1, none⟩ (.string p2)).setCell ⟨w.heap.size + 1, 2, none⟩ (.string n2)).setCell ⟨w.heap.size + 1, 3, none⟩ (.int .i64 N2)).setCell ⟨w.heap.size + 1, 4, none⟩ (.slice q2 l2 c2)) = W4 at *
  have HR4 := Lib.hid (HR.out.below HB4.out)
  obtain ⟨x0, x1, x2, x3, x4⟩ := box_cells HY1.out
  obtain ⟨z0, z1, z2, z3, z4⟩ := box_cells HY2.out
  have b0 := hb_at HR4.out.blk 0 rfl
  have b1 := hb_at HR4.out.blk 1 rfl
  obtain ⟨k', p', n', N', q', c', l', hv1, rfl, _, _, hml1, hka⟩ := HX1.out.opn
  cases hv1
  obtain ⟨k', p', n', N', q', c', l2', hv1, rfl, _, _, hml2, hkb⟩ := HX2.out.opn
  cases hv1
  have hk1 : k1 ≠ 1 := fun e => hnx p1 n1 N1 l' (by rw [e])
  have hk1' : (k1 == 1) = false := by simpa using hk1
  have hk2 : k2 ≠ 1 := fun e => hny p2 n2 N2 l2' (by rw [e])
  have hk2' : (k2 == 1) = false := by simpa using hk2
  have HK1 := Lib.hid hk1
  have HK2 := Lib.hid hk2
  have HLX := Lib.hid hlx
  have HLY := Lib.hid hly
  have HWX := Lib.hid hwx
  have HWY := Lib.hid hwy
  have HZX := Lib.hid hzx
  have HZY := Lib.hid hzy
  have HNZ := Lib.hid hnz
  have HFX := Lib.hid hfx
  have HFY := Lib.hid hfy
  have HREC := Lib.hid hrec
  have HKA0 := Lib.hid hka
  have HKB0 := Lib.hid hkb
  have HGK := Lib.hid (Gk.of_below (g := g) HB0.out HB4.out)
  unfold maxLen at hml1 hml2
  clear hlx hly hk1 hk2 hnx hny hzx hzy hnz hfx hfy hrec hwx hwy hka hkb
  by_cases h1 : k1 = k2
  rotate_left
  · have h1' : (k1 != k2) = true := by simpa using h1
    have HH := Lib.hid h1
    clear h1
    go_wp2
    go_ret
    exact ⟨false, S, rfl, RS.UR.look HLX.out HLY.out (RS.ur_clash HI.out HK1.out HK2.out fun h => HH.out h.1), (fun h => by cases h), HGK.out, fun hz => hz⟩
  subst h1
  by_cases h2 : p1 = p2
  rotate_left
  · have h2' : (p1.toList != p2.toList) = true := by rw [bne_iff_ne]; exact fun e => h2 (toList_inj e)
    have h2'' : (p1.toList == p2.toList) = false := by rw [beq_eq_false_iff_ne]; exact fun e => h2 (toList_inj e)
    have HH := Lib.hid h2
    clear h2
    go_wp2
    go_ret
    exact ⟨false, S, rfl, RS.UR.look HLX.out HLY.out (RS.ur_clash HI.out HK1.out HK2.out fun h => HH.out h.2.1), (fun h => by cases h), HGK.out, fun hz => hz⟩
  subst h2
  by_cases h3 : n1 = n2
  rotate_left
  · have h2' : (n1.toList != n2.toList) = true := by rw [bne_iff_ne]; exact fun e => h3 (toList_inj e)
    have h2'' : (n1.toList == n2.toList) = false := by rw [beq_eq_false_iff_ne]; exact fun e => h3 (toList_inj e)
    have HH := Lib.hid h3
    clear h3
    go_wp2
    go_ret
    exact ⟨false, S, rfl, RS.UR.look HLX.out HLY.out (RS.ur_clash HI.out HK1.out HK2.out fun h => HH.out h.2.2.1), (fun h => by cases h), HGK.out, fun hz => hz⟩
  subst h3
  by_cases h4 : l'.length = l2'.length
  rotate_left
  · have h2' : (l'.length != l2'.length) = true := by simpa using h4
    have h2'' : ((l'.length : Int) != (l2'.length : Int)) = true := by simp; omega
    have HH := Lib.hid h4
    clear h4
    go_wp2
    go_ret
    exact ⟨false, S, rfl, RS.UR.look HLX.out HLY.out (RS.ur_clash HI.out HK1.out HK2.out fun h => HH.out h.2.2.2), (fun h => by cases h), HGK.out, fun hz => hz⟩
  have HLL := Lib.hid h4
  rw [← h4] at z4 HX2 HY2
  clear h4 hml2
  have h4' : (l'.length != l'.length) = false := by simp
  go_wp2
  go_loopw [9] (fun t wr => ∃ (j : Nat) (S1 : RS), j ≤ l'.length ∧ t = .int .i64 j ∧ RS.UR S ns (RS.KidsEq l' l2' j) true S1 ∧ RSt B0 B g D ns S1 nv cg wr ∧ S1.Nz ∧ Gk B0 g W4 wr) (fun t _ => l'.length - (intOf t).toNat)
  case atStart => exact ⟨0, S, Nat.zero_le _, rfl, RS.ur_zero HI.out _ _, HR4.out, HNZ.out, Gk.refl _ _ _⟩
  case round =>
    obtain ⟨j, S1, hj, rfl, hur, hr1, hnz1, hg1⟩ := hrel
    have HUR := Lib.hid hur
    have HR1 := Lib.hid hr1
    have HN1 := Lib.hid hnz1
    have HG1 := Lib.hid hg1
    have HG0 := Lib.hid HB4.out.size
    have HINV := Lib.hid hur.inv
    have HBW := Lib.hid hr1.b0
    have hy1 := hg1.block _ _ HY1.out (by have := HGL.out; omega)
    have hy2 := hg1.block _ _ HY2.out (by have := HGL.out; omega)
    clear x0 x1 x2 x3 x4 z0 z1 z2 z3 z4 b0 b1
    obtain ⟨_, _, _, _, za⟩ := box_cells hy1
    obtain ⟨_, _, _, _, zb⟩ := box_cells hy2
    clear hur hr1 hnz1 hg1 hy1 hy2
    by_cases hlt : j < l'.length
    · have hlt2 : (j : Int) < (l'.length : Int) := by omega
      have hxk := List.getElem?_eq_getElem hlt
      obtain ⟨yk, hyk⟩ := at_both HLL.out hxk
      generalize l'[j] = xk at hxk
      obtain ⟨ga, oa, k3, p3, n3, N3, q3, l3, c3, rfl, hga, hta, hx3⟩ := HKA0.out j _ hxk
      obtain ⟨gb, ob, k4, p4, n4, N4, q4, l4, c4, rfl, hgb, htb, hx4⟩ := HKB0.out j _ hyk
      have HKA := Lib.hid (hx3.gk HG1.out)
      have HKB := Lib.hid (hx4.gk HG1.out)
      have HWK := Lib.hid (HWX.out.kid HK1.out (List.mem_of_getElem? hxk))
      have HWL := Lib.hid (HWY.out.kid HK1.out (List.mem_of_getElem? hyk))
      have HZK := Lib.hid (HZX.out.inv.2 xk (List.mem_of_getElem? hxk))
      have HZL := Lib.hid (HZY.out.inv.2 yk (List.mem_of_getElem? hyk))
      have hless : S1.nv ns < S.nv ns ∨ (S1 = S ∧ ∃ ux' uy', RS.Fu S xk ux' ∧ RS.Fu S yk uy' ∧ cnt2 ux' + cnt2 uy' < cnt2 ux + cnt2 uy) := by
        rcases HUR.out.nv with h | h
        · obtain ⟨a1, b1, b2⟩ := HFX.out.part HK1.out (List.mem_of_getElem? hxk)
          obtain ⟨a2, b3, b4⟩ := HFY.out.part HK1.out (List.mem_of_getElem? hyk)
          exact .inr ⟨h, a1, a2, b1, b3, by omega⟩
        · exact .inl h
      have HLESS := Lib.hid hless
      have HXK := Lib.hid hxk
      have HYK := Lib.hid hyk
      have HGA := Lib.hid hga
      have HGB0 := Lib.hid hgb
      have HHG := Lib.hid HR.out.hg
      have ha := fun i (v : Value) (h : W4.cell? ⟨ga, i, none⟩ = some v) => HG1.out.cell h (by have := HGA.out; have := HHG.out; omega)
      have hbb := fun i (v : Value) (h : W4.cell? ⟨gb, i, none⟩ = some v) => HG1.out.cell h (by have := HGB0.out; have := HHG.out; omega)
      obtain ⟨s0, s1, s2, s3, s4⟩ := hta
      obtain ⟨t0, t1, t2, t3, t4⟩ := htb
      have s0 := ha _ _ s0
      have s1 := ha _ _ s1
      have s2 := ha _ _ s2
      have s3 := ha _ _ s3
      have s4 := ha _ _ s4
      have t0 := hbb _ _ t0
      have t1 := hbb _ _ t1
      have t2 := hbb _ _ t2
      have t3 := hbb _ _ t3
      have t4 := hbb _ _ t4
      clear hxk hyk hx3 hx4 hless hga hgb ha hbb
      go_upto_region 22 with (fail)
      refine wp_region_held_drew (S := (fun w' => RowKit.Hid (Gk B0 g wr w') ∧ w'.cell? ⟨w.heap.size, 4, none⟩ = some (.slice (some ⟨ga, oa, none⟩) l'.length c1) ∧ w'.cell? ⟨w.heap.size + 1, 4, none⟩ = some (.slice (some ⟨gb, ob, none⟩) l'.length c2) ∧ w'.cell? ⟨ga, oa + j * 5, none⟩ = some (.int .i64 k3) ∧ w'.cell? ⟨ga, oa + j * 5 + 1, none⟩ = some (.string p3) ∧ w'.cell? ⟨ga, oa + j * 5 + 2, none⟩ = some (.string n3) ∧ w'.cell? ⟨ga, oa + j * 5 + 3, none⟩ = some (.int .i64 N3) ∧ w'.cell? ⟨ga, oa + j * 5 + 4, none⟩ = some (.slice q3 l3 c3) ∧ w'.cell? ⟨gb, ob + j * 5, none⟩ = some (.int .i64 k4) ∧ w'.cell? ⟨gb, ob + j * 5 + 1, none⟩ = some (.string p4) ∧ w'.cell? ⟨gb, ob + j * 5 + 2, none⟩ = some (.string n4) ∧ w'.cell? ⟨gb, ob + j * 5 + 3, none⟩ = some (.int .i64 N4) ∧ w'.cell? ⟨gb, ob + j * 5 + 4, none⟩ = some (.slice q4 l4 c4))) (by kernel_rfl) (by exact ⟨Lib.hid (Gk.of_below HBW.out (below_drewN (Below.refl _ _) 1)), za, zb, s0, s1, s2, s3, s4, t0, t1, t2, t3, t4⟩) (fun hHeld => ?_)
      refine wpAnyH_take (i := 0) (oi := ⟨some 121, _, _, _, _, _⟩) (v := ?_) rfl (by kernel_rfl) (by kernel_rfl) (by kernel_rfl) (fun _ _ _ h => h) (Or.inl ⟨by rfl, ?_⟩) (by assumption) ?_
      rotate_left
      focus (intro w hSw; (try dsimp only at hSw); go_simp; first | done | with_reducible rfl)
      try simp only [Act.put, List.setIfInBounds_toArray, List.set_cons_zero, List.set_cons_succ]
      refine wpAnyH_take (i := 1) (oi := ⟨some 122, _, _, _, _, _⟩) (v := ?_) rfl (by kernel_rfl) (by kernel_rfl) (by kernel_rfl) (fun _ _ _ h => h) (Or.inl ⟨by rfl, ?_⟩) (by assumption) ?_
      rotate_left
      focus (intro w hSw; (try dsimp only at hSw); go_simp; first | done | with_reducible rfl)
      try simp only [Act.put, List.setIfInBounds_toArray, List.set_cons_zero, List.set_cons_succ]
      refine wpAnyH_take (i := 2) (oi := ⟨some 123, _, _, _, _, _⟩) (v := ?_) rfl (by kernel_rfl) (by kernel_rfl) (by kernel_rfl) (fun _ _ _ h => h) (Or.inl ⟨by rfl, ?_⟩) (by assumption) ?_
      rotate_left
      focus (intro w hSw; (try dsimp only at hSw); go_simp; first | done | with_reducible rfl)
      try simp only [Act.put, List.setIfInBounds_toArray, List.set_cons_zero, List.set_cons_succ]
      refine wpAnyH_take (i := 3) (oi := ⟨some 124, _, _, _, _, _⟩) (v := ?_) rfl (by kernel_rfl) (by kernel_rfl) (by kernel_rfl) (fun _ _ _ h => h) (Or.inl ⟨by rfl, ?_⟩) (by assumption) ?_
      rotate_left
      focus (intro w hSw; (try dsimp only at hSw); go_simp; first | done | with_reducible rfl)
      try simp only [Act.put, List.setIfInBounds_toArray, List.set_cons_zero, List.set_cons_succ]
      refine wpAnyH_take (i := 4) (oi := ⟨some 125, _, _, _, _, _⟩) (v := ?_) rfl (by kernel_rfl) (by kernel_rfl) (by kernel_rfl) (fun _ _ _ h => h) (Or.inl ⟨by rfl, ?_⟩) (by assumption) ?_
      rotate_left
      focus (intro w hSw; (try dsimp only at hSw); go_simp; first | done | with_reducible rfl)
      try simp only [Act.put, List.setIfInBounds_toArray, List.set_cons_zero, List.set_cons_succ]
      refine wpAnyH_take (i := 5) (oi := ⟨some 126, _, _, _, _, _⟩) (v := ?_) rfl (by kernel_rfl) (by kernel_rfl) (by kernel_rfl) (fun _ _ _ h => h) (Or.inl ⟨by rfl, ?_⟩) (by assumption) ?_
      rotate_left
      focus (intro w hSw; (try dsimp only at hSw); go_simp; first | done | with_reducible rfl)
      try simp only [Act.put, List.setIfInBounds_toArray, List.set_cons_zero, List.set_cons_succ]
      refine wpAnyH_take (i := 6) (oi := ⟨some 127, _, _, _, _, _⟩) (v := ?_) rfl (by kernel_rfl) (by kernel_rfl) (by kernel_rfl) (fun _ _ _ h => h) (Or.inl ⟨by rfl, ?_⟩) (by assumption) ?_
      rotate_left
      focus (intro w hSw; (try dsimp only at hSw); go_simp; first | done | with_reducible rfl)
      try simp only [Act.put, List.setIfInBounds_toArray, List.set_cons_zero, List.set_cons_succ]
      refine wpAnyH_take (i := 7) (oi := ⟨some 128, _, _, _, _, _⟩) (v := ?_) rfl (by kernel_rfl) (by kernel_rfl) (by kernel_rfl) (fun _ _ _ h => h) (Or.inl ⟨by rfl, ?_⟩) (by assumption) ?_
      rotate_left
      focus (intro w hSw; (try dsimp only at hSw); go_simp; first | done | with_reducible rfl)
      try simp only [Act.put, List.setIfInBounds_toArray, List.set_cons_zero, List.set_cons_succ]
      refine wpAnyH_take (i := 8) (oi := ⟨some 129, _, _, _, _, _⟩) (v := ?_) rfl (by kernel_rfl) (by kernel_rfl) (by kernel_rfl) (fun _ _ _ h => h) (Or.inl ⟨by rfl, ?_⟩) (by assumption) ?_
      rotate_left
      focus (intro w hSw; (try dsimp only at hSw); go_simp; first | done | with_reducible rfl)
      try simp only [Act.put, List.setIfInBounds_toArray, List.set_cons_zero, List.set_cons_succ]
      refine wpAnyH_take (i := 9) (oi := ⟨some 130, _, _, _, _, _⟩) (v := ?_) rfl (by kernel_rfl) (by kernel_rfl) (by kernel_rfl) (fun _ _ _ h => h) (Or.inl ⟨by rfl, ?_⟩) (by assumption) ?_
      rotate_left
      focus (intro w hSw; (try dsimp only at hSw); go_simp; first | done | with_reducible rfl)
      try simp only [Act.put, List.setIfInBounds_toArray, List.set_cons_zero, List.set_cons_succ]
      refine wpAnyH_take (i := 10) (oi := ⟨some 131, _, _, _, _, _⟩) (v := ?_) rfl (by kernel_rfl) (by kernel_rfl) (by kernel_rfl) (fun _ _ _ h => h) (Or.inl ⟨by rfl, ?_⟩) (by assumption) ?_
      rotate_left
      focus (intro w hSw; (try dsimp only at hSw); go_simp; first | done | with_reducible rfl)
      try simp only [Act.put, List.setIfInBounds_toArray, List.set_cons_zero, List.set_cons_succ]
      refine wpAnyH_ready (rs := [11]) (by kernel_rfl) (by simp) ?_
      refine AllReadyH.cons (o := ⟨some 132, _, _, _, _, _⟩) rfl (fun K hK => ?_) AllReadyH.nil
      go_simp
      have hc := HREC.out wr.drew S1 _ _ xk yk (HR1.out.below (below_drewN (Below.refl _ _) 1)) HINV.out (HKA.out.below (below_drewN (Below.refl _ _) 1)) (HKB.out.below (below_drewN (Below.refl _ _) 1)) HWK.out HWL.out HZK.out HZL.out HN1.out HLESS.out; (with_reducible refine hc.mono ?_); rintro e v1 ⟨r, S2, rfl, hur, hrs, hb, hz2⟩; have HUR2 := Lib.hid hur; have HRS2 := Lib.hid hrs; have HZ2 := Lib.hid hz2; have HGB := Lib.hid hb; clear hc hur hrs hz2
      go_wp2_with fail
      refine hK.out _ _ (by exact ⟨Lib.hid (hHeld.1.out.trans hb), hb.cell hHeld.2.1 (by have := HGL.out; have := HGA.out; have := HGB0.out; have := HHG.out; omega), hb.cell hHeld.2.2.1 (by have := HGL.out; have := HGA.out; have := HGB0.out; have := HHG.out; omega), hb.cell hHeld.2.2.2.1 (by have := HGL.out; have := HGA.out; have := HGB0.out; have := HHG.out; omega), hb.cell hHeld.2.2.2.2.1 (by have := HGL.out; have := HGA.out; have := HGB0.out; have := HHG.out; omega), hb.cell hHeld.2.2.2.2.2.1 (by have := HGL.out; have := HGA.out; have := HGB0.out; have := HHG.out; omega), hb.cell hHeld.2.2.2.2.2.2.1 (by have := HGL.out; have := HGA.out; have := HGB0.out; have := HHG.out; omega), hb.cell hHeld.2.2.2.2.2.2.2.1 (by have := HGL.out; have := HGA.out; have := HGB0.out; have := HHG.out; omega), hb.cell hHeld.2.2.2.2.2.2.2.2.1 (by have := HGL.out; have := HGA.out; have := HGB0.out; have := HHG.out; omega), hb.cell hHeld.2.2.2.2.2.2.2.2.2.1 (by have := HGL.out; have := HGA.out; have := HGB0.out; have := HHG.out; omega), hb.cell hHeld.2.2.2.2.2.2.2.2.2.2.1 (by have := HGL.out; have := HGA.out; have := HGB0.out; have := HHG.out; omega), hb.cell hHeld.2.2.2.2.2.2.2.2.2.2.2.1 (by have := HGL.out; have := HGA.out; have := HGB0.out; have := HHG.out; omega), hb.cell hHeld.2.2.2.2.2.2.2.2.2.2.2.2 (by have := HGL.out; have := HGA.out; have := HGB0.out; have := HHG.out; omega)⟩) (fun hNew => ?_)
      clear hK K
      clear hHeld hb; have hHeld := hNew; clear hNew
      try simp only [Act.put, List.setIfInBounds_toArray, List.set_cons_zero, List.set_cons_succ]
      refine wpAnyH_take (i := 12) (oi := ⟨some 133, _, _, _, _, _⟩) (v := ?_) rfl (by kernel_rfl) (by kernel_rfl) (by kernel_rfl) (fun _ _ _ h => h) (Or.inl ⟨by rfl, ?_⟩) (by assumption) ?_
      rotate_left
      focus (intro w hSw; (try dsimp only at hSw); go_simp; first | done | with_reducible rfl)
      try simp only [Act.put, List.setIfInBounds_toArray, List.set_cons_zero, List.set_cons_succ]
      refine wpAnyH_done (by kernel_rfl) ?_ _
      have HG9 := Lib.hid hHeld.1.out
      clear hHeld
      rcases Bool.eq_false_or_eq_true r with hrt | hrt
      · subst hrt
        have hnt : (!true) = false := rfl
        go_wp2
        refine ⟨⟨j + 1, S2, by omega, by go_num, RS.ur_next HUR.out HXK.out HYK.out HUR2.out, HRS2.out rfl, HZ2.out HN1.out, HG1.out.trans HG9.out⟩, by simp [intOf]; omega⟩
      · subst hrt
        have hnt : (!false) = true := rfl
        go_wp2
        go_ret
        refine ⟨false, S2, rfl, RS.UR.look HLX.out HLY.out (by rw [HWY.out.zero.trans HWX.out.zero.symm]; exact RS.ur_more HK1.out HLL.out (fun h => by cases h) (RS.ur_next HUR.out HXK.out HYK.out HUR2.out)), (fun h => by cases h), HGK.out.trans (HG1.out.trans HG9.out), fun hz => HZ2.out HN1.out⟩
    · obtain rfl : j = l'.length := by omega
      go_wp2
      go_ret
      refine ⟨true, S1, rfl, RS.UR.look HLX.out HLY.out (by rw [HWY.out.zero.trans HWX.out.zero.symm]; exact RS.ur_more HK1.out HLL.out (fun _ => rfl) HUR.out), fun _ => HR1.out, HGK.out.trans HG1.out, fun hz => HN1.out⟩
/-- Any two types. -/
theorem uni_any {B0 B g D : Nat} {ns : List ByteArray} {nv : Value} {cg : Nat} : ∀ (N M : Nat) (w : World) (S : RS) (va vb : Value) (ta tb ua ub : Tm), RSt B0 B g D ns S nv cg w → S.Inv ns (ixO ns) → IsX (fun b => b < B0) w D va ta → IsX (fun b => b < B0) w D vb tb → Wt ns ta → Wt ns tb → NZ ta → NZ tb → S.Nz → RS.Fu S ta ua → RS.Fu S tb ub → S.nv ns ≤ N → (S.nv ns = N → cnt2 ua + cnt2 ub ≤ M) →
    Calls Tryd.prog 69 #[.pointer (some ⟨B, 0, none⟩), va, vb] w (UnR B0 B g D ns S nv cg (fun σ => Eq2 σ ta tb) w) := by
  intro N
  induction N using Nat.strongRecOn with
  | ind N ihN =>
    intro M
    induction M using Nat.strongRecOn with
    | ind M ihM =>
      intro w S va vb ta tb ua ub hR hI hva hvb hwa hwb hza hzb hz hfa hfb hN hM
      by_cases hlt : S.nv ns < N
      · exact ihN _ hlt (cnt2 ua + cnt2 ub) w S va vb ta tb ua ub hR hI hva hvb hwa hwb hza hzb hz hfa hfb (Nat.le_refl _) (fun _ => Nat.le_refl _)
      have hM := hM (by omega)
      have hrec : URec B0 B g D ns S nv cg (cnt2 ua + cnt2 ub) := by
        intro w1 S1 va vb x y h1 h2 h3 h4 h5 h6 h7 h8 h9 h
        rcases h with h | ⟨rfl, ux, uy, h10, h11, h12⟩
        · obtain ⟨ux, h10⟩ := h2.all h5.1
          obtain ⟨uy, h11⟩ := h2.all h6.1
          exact ihN _ (by omega) (cnt2 ux + cnt2 uy) w1 S1 va vb x y ux uy h1 h2 h3 h4 h5 h6 h7 h8 h9 h10 h11 (Nat.le_refl _) (fun _ => Nat.le_refl _)
        · exact ihM (cnt2 ux + cnt2 uy) (by omega) w1 S1 va vb x y ux uy h1 h2 h3 h4 h5 h6 h7 h8 h9 h10 h11 hN (fun _ => Nat.le_refl _)
      obtain ⟨x, hlx, hfx⟩ := RS.Look.ex hfa
      obtain ⟨y, hly, hfy⟩ := RS.Look.ex hfb
      have hwx := hlx.wt hI hwa
      have hwy := hly.wt hI hwb
      have hzx := hlx.nz hz hza
      have hzy := hly.nz hz hzb
      obtain ⟨k, N1, p, n, l, ex, hfx1⟩ := hlx.top
      obtain ⟨k', N1', p', n', l', ey, hfy1⟩ := hly.top
      by_cases hk : k = 1
      · subst hk
        obtain ⟨h1, h2, h3, h4⟩ := (ex ▸ hwx).var
        subst h2 h3 h4
        by_cases hk' : k' = 1
        · subst hk'
          obtain ⟨h5, h6, h7, h8⟩ := (ey ▸ hwy).var
          subst h6 h7 h8
          exact uni_vv hR hI hva hvb hwa hwb hlx hly ex ey (hfx1 rfl) (hfy1 rfl) h1 h5
        · exact uni_vn hR hI hva hvb hwa hwb hlx hly ex (fun p m N l e => by rw [ey] at e; injection e with e; exact hk' e) (hfx1 rfl) h1 hzy hfy
      · have hnx : ∀ p m N l, x ≠ .mk 1 p m N l := fun p m N l e => by rw [ex] at e; injection e with e; exact hk e
        by_cases hk' : k' = 1
        · subst hk'
          obtain ⟨h5, h6, h7, h8⟩ := (ey ▸ hwy).var
          subst h6 h7 h8
          exact uni_nv hR hI hva hvb hwa hwb hlx hly ey hnx (hfy1 rfl) h5 hzx hfx
        · exact uni_nn hR hI hva hvb hwa hwb hlx hly hnx (fun p m N l e => by rw [ey] at e; injection e with e; exact hk' e) hzx hzy hz hfx hfy hrec
end Go.Proofs.YtncebhddcokkoaaDoor
