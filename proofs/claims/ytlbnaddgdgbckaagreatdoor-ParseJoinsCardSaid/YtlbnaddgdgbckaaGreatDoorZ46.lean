/- Texts in a row: Tg Th. -/
import Derived.Test.YtlbnaddgdgbckaaGreatDoorZ45
import Derived.Test.YtlbnaddgdgbckaaGreatDoorZ34
/- The document's SameAll of terms in a row that are the same. -/
namespace Go.Proofs.YtlbnaddgdgbckaaGreatDoor
open Go.RowKit
set_option linter.unusedSimpArgs false
set_option linter.unusedVariables false
set_option maxRecDepth 100000 in
set_option maxHeartbeats 4000000 in
theorem terms_same (va vb : Value) (l : List Tm) (X Y : Nat → Prop) (w : World) (ha : SlG termK X w va l) (hb : SlG termK Y w vb l) (hl : l.length ≤ 7000) :
    Calls Tryz.prog 20 #[va, vb] w fun e w' => e = .returned (.bool true) ∧ Below w.heap.size w w' := by
  have G1 := Lib.hid ha
  have G2 := Lib.hid hb
  obtain ⟨q1, c1, rfl, h1⟩ := ha
  obtain ⟨q2, c2, rfl, h2⟩ := hb
  have H1 := Lib.hid h1
  have H2 := Lib.hid h2
  clear h1 h2
  go_enter Tryz.func20, Tryz.ntmps20
  go_wp2
  go_loopw [5] (fun i wr => ∃ k : Nat, k ≤ l.length ∧ i = .int .i64 k ∧ Below w.heap.size w wr) (fun i _ => l.length - (intOf i).toNat)
  case atStart => exact ⟨0, Nat.zero_le _, rfl, Below.refl _ _⟩
  case round =>
    obtain ⟨k, hk, rfl, hB⟩ := hrel
    have HB := Lib.hid hB
    by_cases hlt : k < l.length
    · obtain ⟨b1, o1, cs1, e1, _, ha1, hv1⟩ := H1.out k l[k] (List.getElem?_eq_getElem hlt)
      obtain ⟨b2, o2, cs2, e2, _, ha2, hv2⟩ := H2.out k l[k] (List.getElem?_eq_getElem hlt)
      subst e1 e2
      generalize l[k] = x at *
      obtain ⟨k1, p1, n1, N1, s1, d1, rfl, ht1⟩ := hv1
      obtain ⟨k2, p2, n2, N2, s2, d2, rfl, ht2⟩ := hv2
      have x0 := keep_cell hB (ha1 0 _ rfl)
      have x1 := keep_cell hB (ha1 1 _ rfl)
      have x2 := keep_cell hB (ha1 2 _ rfl)
      have x3 := keep_cell hB (ha1 3 _ rfl)
      have x4 := keep_cell hB (ha1 4 _ rfl)
      have y0 := keep_cell hB (ha2 0 _ rfl)
      have y1 := keep_cell hB (ha2 1 _ rfl)
      have y2 := keep_cell hB (ha2 2 _ rfl)
      have y3 := keep_cell hB (ha2 3 _ rfl)
      have y4 := keep_cell hB (ha2 4 _ rfl)
      change wr.cell? ⟨b1, o1 + k * 5, none⟩ = _ at x0
      change wr.cell? ⟨b1, o1 + k * 5 + 1, none⟩ = _ at x1
      change wr.cell? ⟨b1, o1 + k * 5 + 2, none⟩ = _ at x2
      change wr.cell? ⟨b1, o1 + k * 5 + 3, none⟩ = _ at x3
      change wr.cell? ⟨b1, o1 + k * 5 + 4, none⟩ = _ at x4
      change wr.cell? ⟨b2, o2 + k * 5, none⟩ = _ at y0
      change wr.cell? ⟨b2, o2 + k * 5 + 1, none⟩ = _ at y1
      change wr.cell? ⟨b2, o2 + k * 5 + 2, none⟩ = _ at y2
      change wr.cell? ⟨b2, o2 + k * 5 + 3, none⟩ = _ at y3
      change wr.cell? ⟨b2, o2 + k * 5 + 4, none⟩ = _ at y4
      have HC : RowKit.Hid (∀ W, Below wr.heap.size wr W → Calls Tryz.prog 14 #[tv k1 p1 n1 N1 s1, tv k2 p2 n2 N2 s2] W fun e w' => e = .returned (.bool true) ∧ Below W.heap.size W w') :=
        Lib.hid fun W hW => (refSame_any (max d1 d2) _ _ x x W (((ht1.isT.more (Nat.le_max_left ..)).below hB).below hW) (((ht2.isT.more (Nat.le_max_right ..)).below hB).below hW)).mono fun e w' h => by
          obtain ⟨he, h2⟩ := h
          rw [same_self] at he
          exact ⟨he, h2⟩
      have hki : (k : Int) < (l.length : Int) := by omega
      clear ha1 ha2 ht1 ht2 hB
      go_wp2
      refine wp_region_held_drew (S := (fun w' => RowKit.Hid (Below wr.heap.size wr w') ∧ w'.cell? ⟨b1, o1 + k * 5, none⟩ = some (.int .i64 k1) ∧ w'.cell? ⟨b1, o1 + k * 5 + 1, none⟩ = some (.string p1) ∧ w'.cell? ⟨b1, o1 + k * 5 + 2, none⟩ = some (.string n1) ∧ w'.cell? ⟨b1, o1 + k * 5 + 3, none⟩ = some (.int .i64 N1) ∧ w'.cell? ⟨b1, o1 + k * 5 + 4, none⟩ = some (s1) ∧ w'.cell? ⟨b2, o2 + k * 5, none⟩ = some (.int .i64 k2) ∧ w'.cell? ⟨b2, o2 + k * 5 + 1, none⟩ = some (.string p2) ∧ w'.cell? ⟨b2, o2 + k * 5 + 2, none⟩ = some (.string n2) ∧ w'.cell? ⟨b2, o2 + k * 5 + 3, none⟩ = some (.int .i64 N2) ∧ w'.cell? ⟨b2, o2 + k * 5 + 4, none⟩ = some (s2))) (by kernel_rfl) (by exact ⟨Lib.hid (below_drewN (Below.refl _ _) 1), x0, x1, x2, x3, x4, y0, y1, y2, y3, y4⟩) (fun hHeld => ?_)
      refine wpAnyH_take (i := 0) (oi := ⟨some 17, _, _, _, _, _⟩) (v := ?_) rfl (by kernel_rfl) (by kernel_rfl) (by kernel_rfl) (fun _ _ _ h => h) (Or.inl ⟨by rfl, ?_⟩) (by assumption) ?_
      rotate_left
      focus (intro w hSw; (try dsimp only at hSw); go_simp; first | done | with_reducible rfl)
      try simp only [Act.put, List.setIfInBounds_toArray, List.set_cons_zero, List.set_cons_succ]
      refine wpAnyH_take (i := 1) (oi := ⟨some 18, _, _, _, _, _⟩) (v := ?_) rfl (by kernel_rfl) (by kernel_rfl) (by kernel_rfl) (fun _ _ _ h => h) (Or.inl ⟨by rfl, ?_⟩) (by assumption) ?_
      rotate_left
      focus (intro w hSw; (try dsimp only at hSw); go_simp; first | done | with_reducible rfl)
      try simp only [Act.put, List.setIfInBounds_toArray, List.set_cons_zero, List.set_cons_succ]
      refine wpAnyH_take (i := 2) (oi := ⟨some 19, _, _, _, _, _⟩) (v := ?_) rfl (by kernel_rfl) (by kernel_rfl) (by kernel_rfl) (fun _ _ _ h => h) (Or.inl ⟨by rfl, ?_⟩) (by assumption) ?_
      rotate_left
      focus (intro w hSw; (try dsimp only at hSw); go_simp; first | done | with_reducible rfl)
      try simp only [Act.put, List.setIfInBounds_toArray, List.set_cons_zero, List.set_cons_succ]
      refine wpAnyH_take (i := 3) (oi := ⟨some 20, _, _, _, _, _⟩) (v := ?_) rfl (by kernel_rfl) (by kernel_rfl) (by kernel_rfl) (fun _ _ _ h => h) (Or.inl ⟨by rfl, ?_⟩) (by assumption) ?_
      rotate_left
      focus (intro w hSw; (try dsimp only at hSw); go_simp; first | done | with_reducible rfl)
      try simp only [Act.put, List.setIfInBounds_toArray, List.set_cons_zero, List.set_cons_succ]
      refine wpAnyH_take (i := 4) (oi := ⟨some 21, _, _, _, _, _⟩) (v := ?_) rfl (by kernel_rfl) (by kernel_rfl) (by kernel_rfl) (fun _ _ _ h => h) (Or.inl ⟨by rfl, ?_⟩) (by assumption) ?_
      rotate_left
      focus (intro w hSw; (try dsimp only at hSw); go_simp; first | done | with_reducible rfl)
      try simp only [Act.put, List.setIfInBounds_toArray, List.set_cons_zero, List.set_cons_succ]
      refine wpAnyH_take (i := 5) (oi := ⟨some 22, _, _, _, _, _⟩) (v := ?_) rfl (by kernel_rfl) (by kernel_rfl) (by kernel_rfl) (fun _ _ _ h => h) (Or.inl ⟨by rfl, ?_⟩) (by assumption) ?_
      rotate_left
      focus (intro w hSw; (try dsimp only at hSw); go_simp; first | done | with_reducible rfl)
      try simp only [Act.put, List.setIfInBounds_toArray, List.set_cons_zero, List.set_cons_succ]
      refine wpAnyH_take (i := 6) (oi := ⟨some 23, _, _, _, _, _⟩) (v := ?_) rfl (by kernel_rfl) (by kernel_rfl) (by kernel_rfl) (fun _ _ _ h => h) (Or.inl ⟨by rfl, ?_⟩) (by assumption) ?_
      rotate_left
      focus (intro w hSw; (try dsimp only at hSw); go_simp; first | done | with_reducible rfl)
      try simp only [Act.put, List.setIfInBounds_toArray, List.set_cons_zero, List.set_cons_succ]
      refine wpAnyH_take (i := 7) (oi := ⟨some 24, _, _, _, _, _⟩) (v := ?_) rfl (by kernel_rfl) (by kernel_rfl) (by kernel_rfl) (fun _ _ _ h => h) (Or.inl ⟨by rfl, ?_⟩) (by assumption) ?_
      rotate_left
      focus (intro w hSw; (try dsimp only at hSw); go_simp; first | done | with_reducible rfl)
      try simp only [Act.put, List.setIfInBounds_toArray, List.set_cons_zero, List.set_cons_succ]
      refine wpAnyH_ready (rs := [8]) (by kernel_rfl) (by simp) ?_
      refine AllReadyH.cons (o := ⟨some 25, _, _, _, _, _⟩) rfl (fun K hK => ?_) AllReadyH.nil
      go_simp
      (with_reducible refine (HC.out _ hHeld.1.out).mono ?_); rintro e w3 ⟨rfl, hb⟩
      go_wp2_with fail
      refine hK.out _ _ (by exact ⟨Lib.hid (hHeld.1.out.trans (hb.mono hHeld.1.out.size)), keep_cell hb hHeld.2.1, keep_cell hb hHeld.2.2.1, keep_cell hb hHeld.2.2.2.1, keep_cell hb hHeld.2.2.2.2.1, keep_cell hb hHeld.2.2.2.2.2.1, keep_cell hb hHeld.2.2.2.2.2.2.1, keep_cell hb hHeld.2.2.2.2.2.2.2.1, keep_cell hb hHeld.2.2.2.2.2.2.2.2.1, keep_cell hb hHeld.2.2.2.2.2.2.2.2.2.1, keep_cell hb hHeld.2.2.2.2.2.2.2.2.2.2⟩) (fun hNew => ?_)
      clear hK K
      clear hHeld hb; have hHeld := hNew; clear hNew
      try simp only [Act.put, List.setIfInBounds_toArray, List.set_cons_zero, List.set_cons_succ]
      refine wpAnyH_take (i := 9) (oi := ⟨some 26, _, _, _, _, _⟩) (v := ?_) rfl (by kernel_rfl) (by kernel_rfl) (by kernel_rfl) (fun _ _ _ h => h) (Or.inl ⟨by rfl, ?_⟩) (by assumption) ?_
      rotate_left
      focus (intro w hSw; (try dsimp only at hSw); go_simp; first | done | with_reducible rfl)
      try simp only [Act.put, List.setIfInBounds_toArray, List.set_cons_zero, List.set_cons_succ]
      refine wpAnyH_done (by kernel_rfl) ?_ _
      have HQ := Lib.hid (HB.out.trans (hHeld.1.out.mono HB.out.size))
      clear hHeld
      go_wp2
      go_roundw
      case rel => exact ⟨k + 1, by omega, by go_num, HQ.out⟩
      case measure => simp [intOf]; omega
    · go_wp2
      go_ret
      exact ⟨rfl, HB.out⟩
end Go.Proofs.YtlbnaddgdgbckaaGreatDoor
/- The document's Same of modules that are the same. -/
namespace Go.Proofs.YtlbnaddgdgbckaaGreatDoor
open Go.RowKit
set_option linter.unusedSimpArgs false
set_option linter.unusedVariables false
/-- A module as a value, in any blocks. -/
def ModS (w : World) (v : Value) (m : Mod) : Prop := ∃ q0 k0 q1 k1 q2 k2 q3 k3 q4 k4, v = .agg #[.slice q0 m.im.length k0, .slice q1 m.ty.length k1, .slice q2 m.al.length k2, .slice q3 m.le.length k3, .slice q4 m.ex.length k4] ∧
  SlG impK (fun _ => True) w (.slice q0 m.im.length k0) m.im ∧ SlG tydK (fun _ => True) w (.slice q1 m.ty.length k1) m.ty ∧ SlG aliK (fun _ => True) w (.slice q2 m.al.length k2) m.al ∧ SlG letIK (fun _ => True) w (.slice q3 m.le.length k3) m.le ∧ SlG expK (fun _ => True) w (.slice q4 m.ex.length k4) m.ex ∧
  (m.im.length ≤ 20000 ∧ m.ty.length ≤ 20000 ∧ m.al.length ≤ 20000 ∧ m.le.length ≤ 20000 ∧ m.ex.length ≤ 20000)
theorem ModV.toS {w w' : World} {v : Value} {m : Mod} (h : ModV w w' v m) : ModS w' v m := by
  obtain ⟨q0, k0, q1, k1, q2, k2, q3, k3, q4, k4, h0, h1, h2, h3, h4, h5, h6⟩ := h
  have hm : ∀ b, New w b → b < w'.heap.size → True ∧ w'.heap[b]? = w'.heap[b]? := fun b _ _ => ⟨trivial, rfl⟩
  obtain ⟨f0, f1, f2, f3, f4⟩ := h6
  exact ⟨q0, k0, q1, k1, q2, k2, q3, k3, q4, k4, h0, h1.move hm, h2.move hm, h3.move hm, h4.move hm, h5.move hm, by omega, by omega, by omega, by omega, by omega⟩
theorem ModS.below {w w' : World} {v : Value} {m : Mod} (h : ModS w v m) (hb : Below w.heap.size w w') : ModS w' v m := by
  obtain ⟨q0, k0, q1, k1, q2, k2, q3, k3, q4, k4, h0, h1, h2, h3, h4, h5, h6⟩ := h
  have hm : ∀ b, True → b < w.heap.size → True ∧ w'.heap[b]? = w.heap[b]? := fun b _ hl => ⟨trivial, hb.block b hl⟩
  exact ⟨q0, k0, q1, k1, q2, k2, q3, k3, q4, k4, h0, h1.move hm, h2.move hm, h3.move hm, h4.move hm, h5.move hm, h6⟩
theorem SlG.below {α : Type} {K : Mem α} {w w' : World} {v : Value} {l : List α} (h : SlG K (fun _ => True) w v l) (hb : Below w.heap.size w w') : SlG K (fun _ => True) w' v l :=
  h.move fun b _ hl => ⟨trivial, hb.block b hl⟩
theorem K_below {α : Type} {K : Mem α} {w w' : World} {cs : List Value} {a : α} (h : K.V (fun _ => True) w cs a) (hb : Below w.heap.size w w') : K.V (fun _ => True) w' cs a :=
  K.move (fun b _ hl => ⟨trivial, hb.block b hl⟩) h
theorem term_same {w : World} {d1 d2 : Nat} {v1 v2 : Value} {x : Tm} {X Y : Nat → Prop} (h1 : IsX X w d1 v1 x) (h2 : IsX Y w d2 v2 x) : Calls Tryz.prog 14 #[v1, v2] w fun e w' => e = .returned (.bool true) ∧ Below w.heap.size w w' :=
  (refSame_any (max d1 d2) _ _ x x w (h1.isT.more (Nat.le_max_left ..)) (h2.isT.more (Nat.le_max_right ..))).mono fun e w' h => by
    obtain ⟨he, h2⟩ := h
    rw [same_self] at he
    exact ⟨he, h2⟩
theorem set3_box {base g : Nat} {W : World} {T : TypeId} {f : Nat × Nat} {c0 c1 c2 : Value} (hb : base ≤ g) (h : W.heap[g]? = some (.cells #[c0, c1, c2] T f)) (d0 d1 d2 : Value) :
    (((W.setCell ⟨g, 0, none⟩ d0).setCell ⟨g, 1, none⟩ d1).setCell ⟨g, 2, none⟩ d2).heap[g]? = some (.cells #[d0, d1, d2] T f) ∧ (∀ b, b ≠ g → (((W.setCell ⟨g, 0, none⟩ d0).setCell ⟨g, 1, none⟩ d1).setCell ⟨g, 2, none⟩ d2).heap[b]? = W.heap[b]?) ∧ Below base W (((W.setCell ⟨g, 0, none⟩ d0).setCell ⟨g, 1, none⟩ d1).setCell ⟨g, 2, none⟩ d2) :=
  ⟨hb_set_same (hb_set_same (hb_set_same h 0 _) 1 _) 2 _, fun b hne => by rw [Below.heap_setCell _ _ _ _ (by simpa using hne), Below.heap_setCell _ _ _ _ (by simpa using hne), Below.heap_setCell _ _ _ _ (by simpa using hne)],
    (((Below.refl base W).setCell hb _).setCell hb _).setCell hb _⟩
set_option maxRecDepth 100000 in
set_option maxHeartbeats 16000000 in
theorem modSame_any (va vb : Value) (m : Mod) (w : World) (ha : ModS w va m) (hb : ModS w vb m) : Calls Tryz.prog 10 #[va, vb] w fun e w' => e = .returned (.bool true) ∧ Below w.heap.size w w' := by
  obtain ⟨l0, l1, l2, l3, l4⟩ := m
  obtain ⟨q0, k0, q1, k1, q2, k2, q3, k3, q4, k4, rfl, h0, h1, h2, h3, h4, f0, f1, f2, f3, f4⟩ := ha
  obtain ⟨r0, j0, r1, j1, r2, j2, r3, j3, r4, j4, rfl, g0, g1, g2, g3, g4, _⟩ := hb
  dsimp only at h0 h1 h2 h3 h4 g0 g1 g2 g3 g4 f0 f1 f2 f3 f4 ⊢
  have hBW := below2 w (.cells #[.slice q0 l0.length k0, .slice q1 l1.length k1, .slice q2 l2.length k2, .slice q3 l3.length k3, .slice q4 l4.length k4] 29) (.cells #[.slice r0 l0.length j0, .slice r1 l1.length j1, .slice r2 l2.length j2, .slice r3 l3.length j3, .slice r4 l4.length j4] 29)
  have P0 := Lib.hid (h0.below hBW)
  have P1 := Lib.hid (h1.below hBW)
  have P2 := Lib.hid (h2.below hBW)
  have P3 := Lib.hid (h3.below hBW)
  have P4 := Lib.hid (h4.below hBW)
  have Q0 := Lib.hid (g0.below hBW)
  have Q1 := Lib.hid (g1.below hBW)
  have Q2 := Lib.hid (g2.below hBW)
  have Q3 := Lib.hid (g3.below hBW)
  have Q4 := Lib.hid (g4.below hBW)
  obtain ⟨c0, c1, hz2, hb2⟩ := boxes2 w (.cells #[.slice q0 l0.length k0, .slice q1 l1.length k1, .slice q2 l2.length k2, .slice q3 l3.length k3, .slice q4 l4.length k4] 29) (.cells #[.slice r0 l0.length j0, .slice r1 l1.length j1, .slice r2 l2.length j2, .slice r3 l3.length j3, .slice r4 l4.length j4] 29)
  clear h0 h1 h2 h3 h4 g0 g1 g2 g3 g4
  go_enter Tryz.func10, Tryz.ntmps10
  go_upto_region 1 with (fail)
  generalize hW2 : (w.alloc (.cells #[.slice q0 l0.length k0, .slice q1 l1.length k1, .slice q2 l2.length k2, .slice q3 l3.length k3, .slice q4 l4.length k4] 29)).alloc (.cells #[.slice r0 l0.length j0, .slice r1 l1.length j1, .slice r2 l2.length j2, .slice r3 l3.length j3, .slice r4 l4.length j4] 29) = W2 at *
  clear hW2
  have HBW := Lib.hid hBW
  obtain ⟨xa0, xa1, xa2, xa3, xa4, _⟩ := box5 c0
  obtain ⟨xb0, xb1, xb2, xb3, xb4, _⟩ := box5 c1
  have C0 := Lib.hid c0
  have C1 := Lib.hid c1
  clear hBW c0 c1 hb2
  go_upto_region 3 with (fail)
  go_wp2
  go_loopw [5] (fun i wr => ∃ k : Nat, k ≤ l0.length ∧ i = .int .i64 k ∧ Below W2.heap.size W2 wr) (fun i _ => l0.length - (intOf i).toNat)
  case atStart => exact ⟨0, Nat.zero_le _, rfl, Below.refl _ _⟩
  case round =>
    obtain ⟨k, hk, rfl, hB⟩ := hrel
    have HB0 := Lib.hid hB
    have hzr := hB.size
    have xa : wr.cell? ⟨w.heap.size, 0, none⟩ = some (.slice q0 l0.length k0) := hb_at (hb_below C0.out hB (by omega)) 0 rfl
    by_cases hlt : k < l0.length
    · have xb : wr.cell? ⟨w.heap.size + 1, 0, none⟩ = some (.slice r0 l0.length j0) := hb_at (hb_below C1.out hB (by omega)) 0 rfl
      obtain ⟨_, _, E1, hp⟩ := P0.out.below hB
      obtain ⟨_, _, E2, hq⟩ := Q0.out.below hB
      cases E1
      cases E2
      obtain ⟨b1, o1, cs1, e1, _, ha1, hv1⟩ := hp k l0[k] (List.getElem?_eq_getElem hlt)
      obtain ⟨b2, o2, cs2, e2, _, ha2, hv2⟩ := hq k l0[k] (List.getElem?_eq_getElem hlt)
      subst e1 e2
      clear hp hq
      generalize l0[k] = x at *
      have hki : (k : Int) < (l0.length : Int) := by omega
      obtain ⟨rfl, _⟩ := hv1
      obtain ⟨rfl, _⟩ := hv2
      have x10 := ha1 0 _ rfl
      change wr.cell? ⟨b1, o1 + k * 5, none⟩ = _ at x10
      have x11 := ha1 1 _ rfl
      change wr.cell? ⟨b1, o1 + k * 5 + 1, none⟩ = _ at x11
      have x12 := ha1 2 _ rfl
      change wr.cell? ⟨b1, o1 + k * 5 + 2, none⟩ = _ at x12
      have x13 := ha1 3 _ rfl
      change wr.cell? ⟨b1, o1 + k * 5 + 3, none⟩ = _ at x13
      have x14 := ha1 4 _ rfl
      change wr.cell? ⟨b1, o1 + k * 5 + 4, none⟩ = _ at x14
      have x20 := ha2 0 _ rfl
      change wr.cell? ⟨b2, o2 + k * 5, none⟩ = _ at x20
      have x21 := ha2 1 _ rfl
      change wr.cell? ⟨b2, o2 + k * 5 + 1, none⟩ = _ at x21
      have x22 := ha2 2 _ rfl
      change wr.cell? ⟨b2, o2 + k * 5 + 2, none⟩ = _ at x22
      have x23 := ha2 3 _ rfl
      change wr.cell? ⟨b2, o2 + k * 5 + 3, none⟩ = _ at x23
      have x24 := ha2 4 _ rfl
      change wr.cell? ⟨b2, o2 + k * 5 + 4, none⟩ = _ at x24
      clear ha1 ha2
      go_wp2
      go_quiet (fail)
      go_wp2
      go_roundw
      case rel => exact ⟨k + 1, by omega, by go_num, below_drewN HB0.out _⟩
      case measure => simp [intOf]; omega
    · obtain rfl : k = l0.length := by omega
      generalize hwx : wr = w0x at *
      clear hwx
      go_wp2
      go_loopw [6] (fun i wr => ∃ k : Nat, k ≤ l1.length ∧ i = .int .i64 k ∧ Below W2.heap.size W2 wr) (fun i _ => l1.length - (intOf i).toNat)
      case atStart => exact ⟨0, Nat.zero_le _, rfl, HB0.out⟩
      case round =>
        obtain ⟨k, hk, rfl, hB⟩ := hrel
        have HB1 := Lib.hid hB
        have hzr := hB.size
        have xa : wr.cell? ⟨w.heap.size, 1, none⟩ = some (.slice q1 l1.length k1) := hb_at (hb_below C0.out hB (by omega)) 1 rfl
        by_cases hlt : k < l1.length
        · have xb : wr.cell? ⟨w.heap.size + 1, 1, none⟩ = some (.slice r1 l1.length j1) := hb_at (hb_below C1.out hB (by omega)) 1 rfl
          obtain ⟨_, _, E1, hp⟩ := P1.out.below hB
          obtain ⟨_, _, E2, hq⟩ := Q1.out.below hB
          cases E1
          cases E2
          obtain ⟨b1, o1, cs1, e1, _, ha1, hv1⟩ := hp k l1[k] (List.getElem?_eq_getElem hlt)
          obtain ⟨b2, o2, cs2, e2, _, ha2, hv2⟩ := hq k l1[k] (List.getElem?_eq_getElem hlt)
          subst e1 e2
          clear hp hq
          generalize l1[k] = x at *
          have hki : (k : Int) < (l1.length : Int) := by omega
          obtain ⟨pv1, cv1, rfl, _, hps1, hpl, hcs1, hcl⟩ := hv1
          obtain ⟨pv2, cv2, rfl, _, hps2, _, hcs2, _⟩ := hv2
          obtain ⟨pq1, pc1, rfl⟩ : ∃ q c, pv1 = .slice q x.ps.length c := let ⟨q, c, h, _⟩ := hps1; ⟨q, c, h⟩
          obtain ⟨pq2, pc2, rfl⟩ : ∃ q c, pv2 = .slice q x.ps.length c := let ⟨q, c, h, _⟩ := hps2; ⟨q, c, h⟩
          obtain ⟨cq1, cc1, rfl⟩ : ∃ q c, cv1 = .slice q x.cs.length c := let ⟨q, c, h, _⟩ := hcs1; ⟨q, c, h⟩
          obtain ⟨cq2, cc2, rfl⟩ : ∃ q c, cv2 = .slice q x.cs.length c := let ⟨q, c, h, _⟩ := hcs2; ⟨q, c, h⟩
          have x10 := ha1 0 _ rfl
          change wr.cell? ⟨b1, o1 + k * 3, none⟩ = _ at x10
          have x11 := ha1 1 _ rfl
          change wr.cell? ⟨b1, o1 + k * 3 + 1, none⟩ = _ at x11
          have x12 := ha1 2 _ rfl
          change wr.cell? ⟨b1, o1 + k * 3 + 2, none⟩ = _ at x12
          have x20 := ha2 0 _ rfl
          change wr.cell? ⟨b2, o2 + k * 3, none⟩ = _ at x20
          have x21 := ha2 1 _ rfl
          change wr.cell? ⟨b2, o2 + k * 3 + 1, none⟩ = _ at x21
          have x22 := ha2 2 _ rfl
          change wr.cell? ⟨b2, o2 + k * 3 + 2, none⟩ = _ at x22
          clear ha1 ha2
          have hw0 : w.heap.size + 2 ≤ wr.heap.size := by omega
          have PS1 := Lib.hid hps1
          have PS2 := Lib.hid hps2
          have CS1 := Lib.hid hcs1
          have CS2 := Lib.hid hcs2
          clear hps1 hps2 hcs1 hcs2 hB
          go_upto_region 11 with (fail)
          go_cut [7, 8] (fun v7 v8 wx => ∃ b7 b8, v7 = .pointer (some ⟨b7, 0, none⟩) ∧ v8 = .pointer (some ⟨b8, 0, none⟩) ∧ wx.heap[b7]? = some (.cells #[.string x.n, .slice pq1 x.ps.length pc1, .slice cq1 x.cs.length cc1] 66 (0, 0)) ∧ wx.heap[b8]? = some (.cells #[.string x.n, .slice pq2 x.ps.length pc2, .slice cq2 x.cs.length cc2] 66 (0, 0)) ∧ Below wr.heap.size wr wx)
          case first =>
            skip
            refine wp_region_held_drew (S := (fun w' => RowKit.Hid (Below wr.heap.size wr w') ∧ w'.cell? ⟨w.heap.size, 1, none⟩ = some (.slice (some ⟨b1, o1, none⟩) l1.length k1) ∧ w'.cell? ⟨w.heap.size + 1, 1, none⟩ = some (.slice (some ⟨b2, o2, none⟩) l1.length j1) ∧ w'.cell? ⟨b1, o1 + k * 3, none⟩ = some (.string x.n) ∧ w'.cell? ⟨b1, o1 + k * 3 + 1, none⟩ = some (.slice pq1 x.ps.length pc1) ∧ w'.cell? ⟨b1, o1 + k * 3 + 2, none⟩ = some (.slice cq1 x.cs.length cc1) ∧ w'.cell? ⟨b2, o2 + k * 3, none⟩ = some (.string x.n) ∧ w'.cell? ⟨b2, o2 + k * 3 + 1, none⟩ = some (.slice pq2 x.ps.length pc2) ∧ w'.cell? ⟨b2, o2 + k * 3 + 2, none⟩ = some (.slice cq2 x.cs.length cc2))) (by kernel_rfl) (by exact ⟨Lib.hid (below_drewN (Below.refl _ _) 1), xa, xb, x10, x11, x12, x20, x21, x22⟩) (fun hHeld => ?_)
            refine wpAnyH_take (i := 0) (oi := ⟨some 81, _, _, _, _, _⟩) (v := ?_) rfl (by kernel_rfl) (by kernel_rfl) (by kernel_rfl) (fun _ _ _ h => h) (Or.inl ⟨by rfl, ?_⟩) (by assumption) ?_
            rotate_left
            focus (intro w hSw; (try dsimp only at hSw); go_simp; first | done | with_reducible rfl)
            try simp only [Act.put, List.setIfInBounds_toArray, List.set_cons_zero, List.set_cons_succ]
            refine wpAnyH_take (i := 1) (oi := ⟨some 82, _, _, _, _, _⟩) (v := ?_) rfl (by kernel_rfl) (by kernel_rfl) (by kernel_rfl) (fun _ _ _ h => h) (Or.inl ⟨by rfl, ?_⟩) (by assumption) ?_
            rotate_left
            focus (intro w hSw; (try dsimp only at hSw); go_simp; first | done | with_reducible rfl)
            try simp only [Act.put, List.setIfInBounds_toArray, List.set_cons_zero, List.set_cons_succ]
            refine wpAnyH_take (i := 2) (oi := ⟨some 83, _, _, _, _, _⟩) (v := ?_) rfl (by kernel_rfl) (by kernel_rfl) (by kernel_rfl) (fun _ _ _ h => h) (Or.inl ⟨by rfl, ?_⟩) (by assumption) ?_
            rotate_left
            focus (intro w hSw; (try dsimp only at hSw); go_simp; first | done | with_reducible rfl)
            try simp only [Act.put, List.setIfInBounds_toArray, List.set_cons_zero, List.set_cons_succ]
            refine wpAnyH_take (i := 3) (oi := ⟨some 84, _, _, _, _, _⟩) (v := ?_) rfl (by kernel_rfl) (by kernel_rfl) (by kernel_rfl) (fun _ _ _ h => h) (Or.inl ⟨by rfl, ?_⟩) (by assumption) ?_
            rotate_left
            focus (intro w hSw; (try dsimp only at hSw); go_simp; first | done | with_reducible rfl)
            try simp only [Act.put, List.setIfInBounds_toArray, List.set_cons_zero, List.set_cons_succ]
            refine wpAnyH_take (i := 4) (oi := ⟨some 85, _, _, _, _, _⟩) (v := ?_) rfl (by kernel_rfl) (by kernel_rfl) (by kernel_rfl) (fun _ _ _ h => h) (Or.inl ⟨by rfl, ?_⟩) (by assumption) ?_
            rotate_left
            focus (intro w hSw; (try dsimp only at hSw); go_simp; first | done | with_reducible rfl)
            try simp only [Act.put, List.setIfInBounds_toArray, List.set_cons_zero, List.set_cons_succ]
            refine wpAnyH_take (i := 5) (oi := ⟨some 86, _, _, _, _, _⟩) (v := ?_) rfl (by kernel_rfl) (by kernel_rfl) (by kernel_rfl) (fun _ _ _ h => h) (Or.inl ⟨by rfl, ?_⟩) (by assumption) ?_
            rotate_left
            focus (intro w hSw; (try dsimp only at hSw); go_simp; first | done | with_reducible rfl)
            try simp only [Act.put, List.setIfInBounds_toArray, List.set_cons_zero, List.set_cons_succ]
            refine wpAnyH_take (i := 6) (oi := ⟨some 87, _, _, _, _, _⟩) (v := ?_) rfl (by kernel_rfl) (by kernel_rfl) (by kernel_rfl) (fun _ _ _ h => h) (Or.inl ⟨by rfl, ?_⟩) (by assumption) ?_
            rotate_left
            focus (intro w hSw; (try dsimp only at hSw); go_simp; first | done | with_reducible rfl)
            try simp only [Act.put, List.setIfInBounds_toArray, List.set_cons_zero, List.set_cons_succ]
            refine wpAnyH_take (i := 7) (oi := ⟨some 88, _, _, _, _, _⟩) (v := ?_) rfl (by kernel_rfl) (by kernel_rfl) (by kernel_rfl) (fun _ _ _ h => h) (Or.inl ⟨by rfl, ?_⟩) (by assumption) ?_
            rotate_left
            focus (intro w hSw; (try dsimp only at hSw); go_simp; first | done | with_reducible rfl)
            try simp only [Act.put, List.setIfInBounds_toArray, List.set_cons_zero, List.set_cons_succ]
            refine wpAnyH_take (i := 8) (oi := ⟨some 89, _, _, _, _, _⟩) (v := ?_) rfl (by kernel_rfl) (by kernel_rfl) (by kernel_rfl) (fun _ _ _ h => h) (Or.inl ⟨by rfl, ?_⟩) (by assumption) ?_
            rotate_left
            focus (intro w hSw; (try dsimp only at hSw); go_simp; first | done | with_reducible rfl)
            try simp only [Act.put, List.setIfInBounds_toArray, List.set_cons_zero, List.set_cons_succ]
            refine wpAnyH_take (i := 9) (oi := ⟨some 90, _, _, _, _, _⟩) (v := ?_) rfl (by kernel_rfl) (by kernel_rfl) (by kernel_rfl) (fun _ _ _ h => h) (Or.inl ⟨by rfl, ?_⟩) (by assumption) ?_
            rotate_left
            focus (intro w hSw; (try dsimp only at hSw); go_simp; first | done | with_reducible rfl)
            try simp only [Act.put, List.setIfInBounds_toArray, List.set_cons_zero, List.set_cons_succ]
            refine wpAnyH_ready (rs := [10, 11]) (by kernel_rfl) (by simp) ?_
            refine AllReadyH.cons (o := ⟨some 7, _, _, _, _, _⟩) rfl (fun K hK => ?_) (AllReadyH.cons (o := ⟨some 8, _, _, _, _, _⟩) rfl (fun K hK => ?_) AllReadyH.nil)
            · go_simp
              refine hK.out _ _ (by have hB' : Below wr.heap.size wr ((wr.alloc (.cells #[.string ⟨#[]⟩, .slice none 0 0, .slice none 0 0] 66)).drew) := below_drewN (below_alloc wr (.cells #[.string ⟨#[]⟩, .slice none 0 0, .slice none 0 0] 66)) 1; exact ⟨Lib.hid hB', keep_cell hB' xa, keep_cell hB' xb, keep_cell hB' x10, keep_cell hB' x11, keep_cell hB' x12, keep_cell hB' x20, keep_cell hB' x21, keep_cell hB' x22⟩) (fun hNew => ?_)
              clear hK K
              clear hHeld; have hHeld := hNew; clear hNew
              try simp only [Act.put, List.setIfInBounds_toArray, List.set_cons_zero, List.set_cons_succ]
              refine wpAnyH_ready (rs := [11]) (by kernel_rfl) (by simp) ?_
              refine AllReadyH.cons (o := ⟨some 8, _, _, _, _, _⟩) rfl (fun K hK => ?_) AllReadyH.nil
              go_simp
              refine hK.out _ _ (by have hB' : Below wr.heap.size wr (((wr.alloc (.cells #[.string ⟨#[]⟩, .slice none 0 0, .slice none 0 0] 66)).alloc (.cells #[.string ⟨#[]⟩, .slice none 0 0, .slice none 0 0] 66)).drew) := below_drewN (below2 wr (.cells #[.string ⟨#[]⟩, .slice none 0 0, .slice none 0 0] 66) (.cells #[.string ⟨#[]⟩, .slice none 0 0, .slice none 0 0] 66)) 1; exact ⟨Lib.hid hB', keep_cell hB' xa, keep_cell hB' xb, keep_cell hB' x10, keep_cell hB' x11, keep_cell hB' x12, keep_cell hB' x20, keep_cell hB' x21, keep_cell hB' x22⟩) (fun hNew => ?_)
              clear hK K
              clear hHeld; have hHeld := hNew; clear hNew
              try simp only [Act.put, List.setIfInBounds_toArray, List.set_cons_zero, List.set_cons_succ]
              refine wpAnyH_ready (rs := [12]) (by kernel_rfl) (by simp) ?_
              refine AllReadyH.cons (o := ⟨none, _, _, _, _, _⟩) rfl (fun K hK => ?_) AllReadyH.nil
              have HB2 : RowKit.Hid (Below wr.heap.size wr (((wr.alloc (.cells #[.string ⟨#[]⟩, .slice none 0 0, .slice none 0 0] 66)).alloc (.cells #[.string ⟨#[]⟩, .slice none 0 0, .slice none 0 0] 66)).drew)) := Lib.hid (below_drewN (below2 wr (.cells #[.string ⟨#[]⟩, .slice none 0 0, .slice none 0 0] 66) (.cells #[.string ⟨#[]⟩, .slice none 0 0, .slice none 0 0] 66)) 1)
              obtain ⟨hz0, hz1, _, _⟩ := boxes2 wr (.cells #[.string ⟨#[]⟩, .slice none 0 0, .slice none 0 0] 66) (.cells #[.string ⟨#[]⟩, .slice none 0 0, .slice none 0 0] 66)
              have hZ9 : (((wr.alloc (.cells #[.string ⟨#[]⟩, .slice none 0 0, .slice none 0 0] 66)).alloc (.cells #[.string ⟨#[]⟩, .slice none 0 0, .slice none 0 0] 66)).drew).heap[(wr.heap.size + 1)]? = some (.cells #[.string ⟨#[]⟩, .slice none 0 0, .slice none 0 0] 66 (0, 0)) := hz1
              have hZ8 : (((wr.alloc (.cells #[.string ⟨#[]⟩, .slice none 0 0, .slice none 0 0] 66)).alloc (.cells #[.string ⟨#[]⟩, .slice none 0 0, .slice none 0 0] 66)).drew).heap[wr.heap.size]? = some (.cells #[.string ⟨#[]⟩, .slice none 0 0, .slice none 0 0] 66 (0, 0)) := hz0
              clear hz0 hz1
              generalize ((wr.alloc (.cells #[.string ⟨#[]⟩, .slice none 0 0, .slice none 0 0] 66)).alloc (.cells #[.string ⟨#[]⟩, .slice none 0 0, .slice none 0 0] 66)).drew = D2 at *
              have HZ9 := Lib.hid hZ9
              have HZ8 := Lib.hid hZ8
              have e0 := hb_at hZ8 0 rfl
              have g0 := hb_free hZ8 0
              have e1 := hb_at hZ8 1 rfl
              have g1 := hb_free hZ8 1
              have e2 := hb_at hZ8 2 rfl
              have g2 := hb_free hZ8 2
              clear hZ8 hZ9
              go_simp
              refine hK.out _ _ (by have hB' : Below wr.heap.size wr ((((D2.setCell ⟨wr.heap.size, 0, none⟩ (.string x.n)).setCell ⟨wr.heap.size, 1, none⟩ (.slice pq1 x.ps.length pc1)).setCell ⟨wr.heap.size, 2, none⟩ (.slice cq1 x.cs.length cc1))) := HB2.out.trans ((set3_box (by omega) HZ8.out _ _ _).2.2.mono (Nat.le_refl _)); exact ⟨Lib.hid hB', keep_cell hB' xa, keep_cell hB' xb, keep_cell hB' x10, keep_cell hB' x11, keep_cell hB' x12, keep_cell hB' x20, keep_cell hB' x21, keep_cell hB' x22⟩) (fun hNew => ?_)
              clear hK K
              clear hHeld; have hHeld := hNew; clear hNew
              try simp only [Act.put, List.setIfInBounds_toArray, List.set_cons_zero, List.set_cons_succ]
              refine wpAnyH_ready (rs := [13]) (by kernel_rfl) (by simp) ?_
              refine AllReadyH.cons (o := ⟨none, _, _, _, _, _⟩) rfl (fun K hK => ?_) AllReadyH.nil
              clear e0 g0 e1 g1 e2 g2
              obtain ⟨y1, y2, y3⟩ := set3_box (base := wr.heap.size) (by omega) HZ8.out (.string x.n) (.slice pq1 x.ps.length pc1) (.slice cq1 x.cs.length cc1)
              have hU9 := (y2 (wr.heap.size + 1) (by omega)).trans HZ9.out
              have HU8 := Lib.hid y1
              have HU9 := Lib.hid hU9
              have HB3 := Lib.hid (HB2.out.trans y3)
              clear y1 y2 y3
              generalize (((D2.setCell ⟨wr.heap.size, 0, none⟩ (.string x.n)).setCell ⟨wr.heap.size, 1, none⟩ (.slice pq1 x.ps.length pc1)).setCell ⟨wr.heap.size, 2, none⟩ (.slice cq1 x.cs.length cc1)) = D3 at *
              have e0 := hb_at hU9 0 rfl
              have g0 := hb_free hU9 0
              have e1 := hb_at hU9 1 rfl
              have g1 := hb_free hU9 1
              have e2 := hb_at hU9 2 rfl
              have g2 := hb_free hU9 2
              clear hU9
              go_simp
              refine hK.out _ _ (by have hB' : Below wr.heap.size wr ((((D3.setCell ⟨(wr.heap.size + 1), 0, none⟩ (.string x.n)).setCell ⟨(wr.heap.size + 1), 1, none⟩ (.slice pq2 x.ps.length pc2)).setCell ⟨(wr.heap.size + 1), 2, none⟩ (.slice cq2 x.cs.length cc2))) := HB3.out.trans (set3_box (by omega) HU9.out _ _ _).2.2; exact ⟨Lib.hid hB', keep_cell hB' xa, keep_cell hB' xb, keep_cell hB' x10, keep_cell hB' x11, keep_cell hB' x12, keep_cell hB' x20, keep_cell hB' x21, keep_cell hB' x22⟩) (fun hNew => ?_)
              clear hK K
              clear hHeld; have hHeld := hNew; clear hNew
              try simp only [Act.put, List.setIfInBounds_toArray, List.set_cons_zero, List.set_cons_succ]
              refine wpAnyH_done (by kernel_rfl) ?_ _
              go_wp2_with fail
              go_meet
              obtain ⟨y1, y2, y3⟩ := set3_box (base := wr.heap.size) (by omega) HU9.out (.string x.n) (.slice pq2 x.ps.length pc2) (.slice cq2 x.cs.length cc2)
              exact ⟨_, _, rfl, rfl, (y2 wr.heap.size (by omega)).trans HU8.out, y1, HB3.out.trans y3⟩
            · go_simp
              refine hK.out _ _ (by have hB' : Below wr.heap.size wr ((wr.alloc (.cells #[.string ⟨#[]⟩, .slice none 0 0, .slice none 0 0] 66)).drew) := below_drewN (below_alloc wr (.cells #[.string ⟨#[]⟩, .slice none 0 0, .slice none 0 0] 66)) 1; exact ⟨Lib.hid hB', keep_cell hB' xa, keep_cell hB' xb, keep_cell hB' x10, keep_cell hB' x11, keep_cell hB' x12, keep_cell hB' x20, keep_cell hB' x21, keep_cell hB' x22⟩) (fun hNew => ?_)
              clear hK K
              clear hHeld; have hHeld := hNew; clear hNew
              try simp only [Act.put, List.setIfInBounds_toArray, List.set_cons_zero, List.set_cons_succ]
              refine wpAnyH_ready (rs := [10]) (by kernel_rfl) (by simp) ?_
              refine AllReadyH.cons (o := ⟨some 7, _, _, _, _, _⟩) rfl (fun K hK => ?_) AllReadyH.nil
              go_simp
              refine hK.out _ _ (by have hB' : Below wr.heap.size wr (((wr.alloc (.cells #[.string ⟨#[]⟩, .slice none 0 0, .slice none 0 0] 66)).alloc (.cells #[.string ⟨#[]⟩, .slice none 0 0, .slice none 0 0] 66)).drew) := below_drewN (below2 wr (.cells #[.string ⟨#[]⟩, .slice none 0 0, .slice none 0 0] 66) (.cells #[.string ⟨#[]⟩, .slice none 0 0, .slice none 0 0] 66)) 1; exact ⟨Lib.hid hB', keep_cell hB' xa, keep_cell hB' xb, keep_cell hB' x10, keep_cell hB' x11, keep_cell hB' x12, keep_cell hB' x20, keep_cell hB' x21, keep_cell hB' x22⟩) (fun hNew => ?_)
              clear hK K
              clear hHeld; have hHeld := hNew; clear hNew
              try simp only [Act.put, List.setIfInBounds_toArray, List.set_cons_zero, List.set_cons_succ]
              refine wpAnyH_ready (rs := [12]) (by kernel_rfl) (by simp) ?_
              refine AllReadyH.cons (o := ⟨none, _, _, _, _, _⟩) rfl (fun K hK => ?_) AllReadyH.nil
              have HB2 : RowKit.Hid (Below wr.heap.size wr (((wr.alloc (.cells #[.string ⟨#[]⟩, .slice none 0 0, .slice none 0 0] 66)).alloc (.cells #[.string ⟨#[]⟩, .slice none 0 0, .slice none 0 0] 66)).drew)) := Lib.hid (below_drewN (below2 wr (.cells #[.string ⟨#[]⟩, .slice none 0 0, .slice none 0 0] 66) (.cells #[.string ⟨#[]⟩, .slice none 0 0, .slice none 0 0] 66)) 1)
              obtain ⟨hz0, hz1, _, _⟩ := boxes2 wr (.cells #[.string ⟨#[]⟩, .slice none 0 0, .slice none 0 0] 66) (.cells #[.string ⟨#[]⟩, .slice none 0 0, .slice none 0 0] 66)
              have hZ9 : (((wr.alloc (.cells #[.string ⟨#[]⟩, .slice none 0 0, .slice none 0 0] 66)).alloc (.cells #[.string ⟨#[]⟩, .slice none 0 0, .slice none 0 0] 66)).drew).heap[wr.heap.size]? = some (.cells #[.string ⟨#[]⟩, .slice none 0 0, .slice none 0 0] 66 (0, 0)) := hz0
              have hZ8 : (((wr.alloc (.cells #[.string ⟨#[]⟩, .slice none 0 0, .slice none 0 0] 66)).alloc (.cells #[.string ⟨#[]⟩, .slice none 0 0, .slice none 0 0] 66)).drew).heap[(wr.heap.size + 1)]? = some (.cells #[.string ⟨#[]⟩, .slice none 0 0, .slice none 0 0] 66 (0, 0)) := hz1
              clear hz0 hz1
              generalize ((wr.alloc (.cells #[.string ⟨#[]⟩, .slice none 0 0, .slice none 0 0] 66)).alloc (.cells #[.string ⟨#[]⟩, .slice none 0 0, .slice none 0 0] 66)).drew = D2 at *
              have HZ9 := Lib.hid hZ9
              have HZ8 := Lib.hid hZ8
              have e0 := hb_at hZ8 0 rfl
              have g0 := hb_free hZ8 0
              have e1 := hb_at hZ8 1 rfl
              have g1 := hb_free hZ8 1
              have e2 := hb_at hZ8 2 rfl
              have g2 := hb_free hZ8 2
              clear hZ8 hZ9
              go_simp
              refine hK.out _ _ (by have hB' : Below wr.heap.size wr ((((D2.setCell ⟨(wr.heap.size + 1), 0, none⟩ (.string x.n)).setCell ⟨(wr.heap.size + 1), 1, none⟩ (.slice pq1 x.ps.length pc1)).setCell ⟨(wr.heap.size + 1), 2, none⟩ (.slice cq1 x.cs.length cc1))) := HB2.out.trans ((set3_box (by omega) HZ8.out _ _ _).2.2.mono (Nat.le_refl _)); exact ⟨Lib.hid hB', keep_cell hB' xa, keep_cell hB' xb, keep_cell hB' x10, keep_cell hB' x11, keep_cell hB' x12, keep_cell hB' x20, keep_cell hB' x21, keep_cell hB' x22⟩) (fun hNew => ?_)
              clear hK K
              clear hHeld; have hHeld := hNew; clear hNew
              try simp only [Act.put, List.setIfInBounds_toArray, List.set_cons_zero, List.set_cons_succ]
              refine wpAnyH_ready (rs := [13]) (by kernel_rfl) (by simp) ?_
              refine AllReadyH.cons (o := ⟨none, _, _, _, _, _⟩) rfl (fun K hK => ?_) AllReadyH.nil
              clear e0 g0 e1 g1 e2 g2
              obtain ⟨y1, y2, y3⟩ := set3_box (base := wr.heap.size) (by omega) HZ8.out (.string x.n) (.slice pq1 x.ps.length pc1) (.slice cq1 x.cs.length cc1)
              have hU9 := (y2 wr.heap.size (by omega)).trans HZ9.out
              have HU8 := Lib.hid y1
              have HU9 := Lib.hid hU9
              have HB3 := Lib.hid (HB2.out.trans y3)
              clear y1 y2 y3
              generalize (((D2.setCell ⟨(wr.heap.size + 1), 0, none⟩ (.string x.n)).setCell ⟨(wr.heap.size + 1), 1, none⟩ (.slice pq1 x.ps.length pc1)).setCell ⟨(wr.heap.size + 1), 2, none⟩ (.slice cq1 x.cs.length cc1)) = D3 at *
              have e0 := hb_at hU9 0 rfl
              have g0 := hb_free hU9 0
              have e1 := hb_at hU9 1 rfl
              have g1 := hb_free hU9 1
              have e2 := hb_at hU9 2 rfl
              have g2 := hb_free hU9 2
              clear hU9
              go_simp
              refine hK.out _ _ (by have hB' : Below wr.heap.size wr ((((D3.setCell ⟨wr.heap.size, 0, none⟩ (.string x.n)).setCell ⟨wr.heap.size, 1, none⟩ (.slice pq2 x.ps.length pc2)).setCell ⟨wr.heap.size, 2, none⟩ (.slice cq2 x.cs.length cc2))) := HB3.out.trans (set3_box (by omega) HU9.out _ _ _).2.2; exact ⟨Lib.hid hB', keep_cell hB' xa, keep_cell hB' xb, keep_cell hB' x10, keep_cell hB' x11, keep_cell hB' x12, keep_cell hB' x20, keep_cell hB' x21, keep_cell hB' x22⟩) (fun hNew => ?_)
              clear hK K
              clear hHeld; have hHeld := hNew; clear hNew
              try simp only [Act.put, List.setIfInBounds_toArray, List.set_cons_zero, List.set_cons_succ]
              refine wpAnyH_done (by kernel_rfl) ?_ _
              go_wp2_with fail
              go_meet
              obtain ⟨y1, y2, y3⟩ := set3_box (base := wr.heap.size) (by omega) HU9.out (.string x.n) (.slice pq2 x.ps.length pc2) (.slice cq2 x.cs.length cc2)
              exact ⟨_, _, rfl, rfl, (y2 (wr.heap.size + 1) (by omega)).trans HU8.out, y1, HB3.out.trans y3⟩
          case rest =>
            obtain ⟨b7, b8, rfl, rfl, hc7, hc8, hbx⟩ := hcut
            have HBX := Lib.hid hbx
            have HPS1 := Lib.hid (PS1.out.below hbx)
            have HPS2 := Lib.hid (PS2.out.below hbx)
            have HCS1 := Lib.hid (CS1.out.below hbx)
            have HCS2 := Lib.hid (CS2.out.below hbx)
            have K7 := Lib.hid hc7
            have K8 := Lib.hid hc8
            have f70 := hb_at hc7 0 rfl
            have f71 := hb_at hc7 1 rfl
            have f72 := hb_at hc7 2 rfl
            have f80 := hb_at hc8 0 rfl
            have f81 := hb_at hc8 1 rfl
            have f82 := hb_at hc8 2 rfl
            clear hc7 hc8 hbx PS1 PS2 CS1 CS2 x10 x11 x12 x20 x21 x22
            go_wp2_with (go_at_call 19; (with_reducible refine (texts_same _ _ _ _ _ _ HPS1.out HPS2.out hpl).mono ?_); rintro e w6 ⟨rfl, hd⟩; have HD6 := Lib.hid hd.below; clear hd; have h72 := hb_at (hb_below K7.out HD6.out (hb_lt K7.out)) 2 rfl; have h82 := hb_at (hb_below K8.out HD6.out (hb_lt K8.out)) 2 rfl)
            have HW6 := Lib.hid (HBX.out.trans (HD6.out.mono HBX.out.size))
            have G7 := Lib.hid (hb_below K7.out HD6.out (hb_lt K7.out))
            have G8 := Lib.hid (hb_below K8.out HD6.out (hb_lt K8.out))
            have GC1 := Lib.hid (HCS1.out.below HD6.out)
            have GC2 := Lib.hid (HCS2.out.below HD6.out)
            clear h72 h82 f70 f71 f72 f80 f81 f82 HPS1 HPS2 HCS1 HCS2 K7 K8 xa xb
            generalize hwy : wr = wo at *
            clear hwy
            go_loopw [9] (fun i wi => ∃ i' : Nat, i' ≤ x.cs.length ∧ i = .int .i64 i' ∧ Below w6.heap.size w6 wi) (fun i _ => x.cs.length - (intOf i).toNat)
            case atStart => exact ⟨0, Nat.zero_le _, rfl, Below.refl _ _⟩
            case round =>
              obtain ⟨i, hi, rfl, hBi⟩ := hrel
              have HBi := Lib.hid hBi
              have z1 := hb_at (hb_below G7.out hBi (hb_lt G7.out)) 2 rfl
              by_cases hit : i < x.cs.length
              · have z2 := hb_at (hb_below G8.out hBi (hb_lt G8.out)) 2 rfl
                obtain ⟨_, _, E1, hp⟩ := GC1.out.below hBi
                obtain ⟨_, _, E2, hq⟩ := GC2.out.below hBi
                cases E1
                cases E2
                obtain ⟨d1, s1, ds1, e1, _, ha1, hv1⟩ := hp i x.cs[i] (List.getElem?_eq_getElem hit)
                obtain ⟨d2, s2, ds2, e2, _, ha2, hv2⟩ := hq i x.cs[i] (List.getElem?_eq_getElem hit)
                subst e1 e2
                clear hp hq
                generalize x.cs[i] = y at *
                obtain ⟨yv1, rfl, _, hy1, hyl⟩ := hv1
                obtain ⟨yv2, rfl, _, hy2, _⟩ := hv2
                obtain ⟨yq1, yc1, rfl⟩ : ∃ q c, yv1 = .slice q y.2.length c := let ⟨q, c, h, _⟩ := hy1; ⟨q, c, h⟩
                obtain ⟨yq2, yc2, rfl⟩ : ∃ q c, yv2 = .slice q y.2.length c := let ⟨q, c, h, _⟩ := hy2; ⟨q, c, h⟩
                have y10 := ha1 0 _ rfl
                change wr.cell? ⟨d1, s1 + i * 2, none⟩ = _ at y10
                have y11 := ha1 1 _ rfl
                change wr.cell? ⟨d1, s1 + i * 2 + 1, none⟩ = _ at y11
                have y20 := ha2 0 _ rfl
                change wr.cell? ⟨d2, s2 + i * 2, none⟩ = _ at y20
                have y21 := ha2 1 _ rfl
                change wr.cell? ⟨d2, s2 + i * 2 + 1, none⟩ = _ at y21
                have HT : RowKit.Hid (∀ W, Below wr.heap.size wr W → Calls Tryz.prog 20 #[.slice yq1 y.2.length yc1, .slice yq2 y.2.length yc2] W fun e w' => e = .returned (.bool true) ∧ Below W.heap.size W w') :=
                  Lib.hid fun W hW => terms_same _ _ _ _ _ _ (hy1.below hW) (hy2.below hW) hyl
                have hii : (i : Int) < (x.cs.length : Int) := by omega
                clear ha1 ha2 hy1 hy2 hBi
                go_wp2
                refine wp_region_held_drew (S := (fun w' => RowKit.Hid (Below wr.heap.size wr w') ∧ w'.cell? ⟨b7, 2, none⟩ = some (.slice (some ⟨d1, s1, none⟩) x.cs.length cc1) ∧ w'.cell? ⟨b8, 2, none⟩ = some (.slice (some ⟨d2, s2, none⟩) x.cs.length cc2) ∧ w'.cell? ⟨d1, s1 + i * 2, none⟩ = some (.string y.1) ∧ w'.cell? ⟨d1, s1 + i * 2 + 1, none⟩ = some (.slice yq1 y.2.length yc1) ∧ w'.cell? ⟨d2, s2 + i * 2, none⟩ = some (.string y.1) ∧ w'.cell? ⟨d2, s2 + i * 2 + 1, none⟩ = some (.slice yq2 y.2.length yc2))) (by kernel_rfl) (by exact ⟨Lib.hid (below_drewN (Below.refl _ _) 1), z1, z2, y10, y11, y20, y21⟩) (fun hHeld => ?_)
                refine wpAnyH_take (i := 0) (oi := ⟨some 120, _, _, _, _, _⟩) (v := ?_) rfl (by kernel_rfl) (by kernel_rfl) (by kernel_rfl) (fun _ _ _ h => h) (Or.inl ⟨by rfl, ?_⟩) (by assumption) ?_
                rotate_left
                focus (intro w hSw; (try dsimp only at hSw); go_simp; first | done | with_reducible rfl)
                try simp only [Act.put, List.setIfInBounds_toArray, List.set_cons_zero, List.set_cons_succ]
                refine wpAnyH_take (i := 1) (oi := ⟨some 121, _, _, _, _, _⟩) (v := ?_) rfl (by kernel_rfl) (by kernel_rfl) (by kernel_rfl) (fun _ _ _ h => h) (Or.inl ⟨by rfl, ?_⟩) (by assumption) ?_
                rotate_left
                focus (intro w hSw; (try dsimp only at hSw); go_simp; first | done | with_reducible rfl)
                try simp only [Act.put, List.setIfInBounds_toArray, List.set_cons_zero, List.set_cons_succ]
                refine wpAnyH_take (i := 2) (oi := ⟨some 122, _, _, _, _, _⟩) (v := ?_) rfl (by kernel_rfl) (by kernel_rfl) (by kernel_rfl) (fun _ _ _ h => h) (Or.inl ⟨by rfl, ?_⟩) (by assumption) ?_
                rotate_left
                focus (intro w hSw; (try dsimp only at hSw); go_simp; first | done | with_reducible rfl)
                try simp only [Act.put, List.setIfInBounds_toArray, List.set_cons_zero, List.set_cons_succ]
                refine wpAnyH_take (i := 3) (oi := ⟨some 123, _, _, _, _, _⟩) (v := ?_) rfl (by kernel_rfl) (by kernel_rfl) (by kernel_rfl) (fun _ _ _ h => h) (Or.inl ⟨by rfl, ?_⟩) (by assumption) ?_
                rotate_left
                focus (intro w hSw; (try dsimp only at hSw); go_simp; first | done | with_reducible rfl)
                try simp only [Act.put, List.setIfInBounds_toArray, List.set_cons_zero, List.set_cons_succ]
                refine wpAnyH_take (i := 4) (oi := ⟨some 124, _, _, _, _, _⟩) (v := ?_) rfl (by kernel_rfl) (by kernel_rfl) (by kernel_rfl) (fun _ _ _ h => h) (Or.inl ⟨by rfl, ?_⟩) (by assumption) ?_
                rotate_left
                focus (intro w hSw; (try dsimp only at hSw); go_simp; first | done | with_reducible rfl)
                try simp only [Act.put, List.setIfInBounds_toArray, List.set_cons_zero, List.set_cons_succ]
                refine wpAnyH_take (i := 5) (oi := ⟨some 125, _, _, _, _, _⟩) (v := ?_) rfl (by kernel_rfl) (by kernel_rfl) (by kernel_rfl) (fun _ _ _ h => h) (Or.inl ⟨by rfl, ?_⟩) (by assumption) ?_
                rotate_left
                focus (intro w hSw; (try dsimp only at hSw); go_simp; first | done | with_reducible rfl)
                try simp only [Act.put, List.setIfInBounds_toArray, List.set_cons_zero, List.set_cons_succ]
                refine wpAnyH_take (i := 6) (oi := ⟨some 126, _, _, _, _, _⟩) (v := ?_) rfl (by kernel_rfl) (by kernel_rfl) (by kernel_rfl) (fun _ _ _ h => h) (Or.inl ⟨by rfl, ?_⟩) (by assumption) ?_
                rotate_left
                focus (intro w hSw; (try dsimp only at hSw); go_simp; first | done | with_reducible rfl)
                try simp only [Act.put, List.setIfInBounds_toArray, List.set_cons_zero, List.set_cons_succ]
                refine wpAnyH_take (i := 7) (oi := ⟨some 127, _, _, _, _, _⟩) (v := ?_) rfl (by kernel_rfl) (by kernel_rfl) (by kernel_rfl) (fun _ _ _ h => h) (Or.inl ⟨by rfl, ?_⟩) (by assumption) ?_
                rotate_left
                focus (intro w hSw; (try dsimp only at hSw); go_simp; first | done | with_reducible rfl)
                try simp only [Act.put, List.setIfInBounds_toArray, List.set_cons_zero, List.set_cons_succ]
                refine wpAnyH_take (i := 8) (oi := ⟨some 128, _, _, _, _, _⟩) (v := ?_) rfl (by kernel_rfl) (by kernel_rfl) (by kernel_rfl) (fun _ _ _ h => h) (Or.inl ⟨by rfl, ?_⟩) (by assumption) ?_
                rotate_left
                focus (intro w hSw; (try dsimp only at hSw); go_simp; first | done | with_reducible rfl)
                try simp only [Act.put, List.setIfInBounds_toArray, List.set_cons_zero, List.set_cons_succ]
                refine wpAnyH_take (i := 9) (oi := ⟨some 129, _, _, _, _, _⟩) (v := ?_) rfl (by kernel_rfl) (by kernel_rfl) (by kernel_rfl) (fun _ _ _ h => h) (Or.inl ⟨by rfl, ?_⟩) (by assumption) ?_
                rotate_left
                focus (intro w hSw; (try dsimp only at hSw); go_simp; first | done | with_reducible rfl)
                try simp only [Act.put, List.setIfInBounds_toArray, List.set_cons_zero, List.set_cons_succ]
                refine wpAnyH_take (i := 10) (oi := ⟨some 130, _, _, _, _, _⟩) (v := ?_) rfl (by kernel_rfl) (by kernel_rfl) (by kernel_rfl) (fun _ _ _ h => h) (Or.inl ⟨by rfl, ?_⟩) (by assumption) ?_
                rotate_left
                focus (intro w hSw; (try dsimp only at hSw); go_simp; first | done | with_reducible rfl)
                try simp only [Act.put, List.setIfInBounds_toArray, List.set_cons_zero, List.set_cons_succ]
                refine wpAnyH_take (i := 11) (oi := ⟨some 131, _, _, _, _, _⟩) (v := ?_) rfl (by kernel_rfl) (by kernel_rfl) (by kernel_rfl) (fun _ _ _ h => h) (Or.inl ⟨by rfl, ?_⟩) (by assumption) ?_
                rotate_left
                focus (intro w hSw; (try dsimp only at hSw); go_simp; first | done | with_reducible rfl)
                try simp only [Act.put, List.setIfInBounds_toArray, List.set_cons_zero, List.set_cons_succ]
                refine wpAnyH_take (i := 12) (oi := ⟨some 132, _, _, _, _, _⟩) (v := ?_) rfl (by kernel_rfl) (by kernel_rfl) (by kernel_rfl) (fun _ _ _ h => h) (Or.inl ⟨by rfl, ?_⟩) (by assumption) ?_
                rotate_left
                focus (intro w hSw; (try dsimp only at hSw); go_simp; first | done | with_reducible rfl)
                try simp only [Act.put, List.setIfInBounds_toArray, List.set_cons_zero, List.set_cons_succ]
                refine wpAnyH_take (i := 13) (oi := ⟨some 133, _, _, _, _, _⟩) (v := ?_) rfl (by kernel_rfl) (by kernel_rfl) (by kernel_rfl) (fun _ _ _ h => h) (Or.inl ⟨by rfl, ?_⟩) (by assumption) ?_
                rotate_left
                focus (intro w hSw; (try dsimp only at hSw); go_simp; first | done | with_reducible rfl)
                try simp only [Act.put, List.setIfInBounds_toArray, List.set_cons_zero, List.set_cons_succ]
                refine wpAnyH_take (i := 14) (oi := ⟨some 134, _, _, _, _, _⟩) (v := ?_) rfl (by kernel_rfl) (by kernel_rfl) (by kernel_rfl) (fun _ _ _ h => h) (Or.inl ⟨by rfl, ?_⟩) (by assumption) ?_
                rotate_left
                focus (intro w hSw; (try dsimp only at hSw); go_simp; first | done | with_reducible rfl)
                try simp only [Act.put, List.setIfInBounds_toArray, List.set_cons_zero, List.set_cons_succ]
                refine wpAnyH_take (i := 15) (oi := ⟨some 135, _, _, _, _, _⟩) (v := ?_) rfl (by kernel_rfl) (by kernel_rfl) (by kernel_rfl) (fun _ _ _ h => h) (Or.inl ⟨by rfl, ?_⟩) (by assumption) ?_
                rotate_left
                focus (intro w hSw; (try dsimp only at hSw); go_simp; first | done | with_reducible rfl)
                try simp only [Act.put, List.setIfInBounds_toArray, List.set_cons_zero, List.set_cons_succ]
                refine wpAnyH_take (i := 16) (oi := ⟨some 136, _, _, _, _, _⟩) (v := ?_) rfl (by kernel_rfl) (by kernel_rfl) (by kernel_rfl) (fun _ _ _ h => h) (Or.inl ⟨by rfl, ?_⟩) (by assumption) ?_
                rotate_left
                focus (intro w hSw; (try dsimp only at hSw); go_simp; first | done | with_reducible rfl)
                try simp only [Act.put, List.setIfInBounds_toArray, List.set_cons_zero, List.set_cons_succ]
                refine wpAnyH_take (i := 17) (oi := ⟨some 137, _, _, _, _, _⟩) (v := ?_) rfl (by kernel_rfl) (by kernel_rfl) (by kernel_rfl) (fun _ _ _ h => h) (Or.inl ⟨by rfl, ?_⟩) (by assumption) ?_
                rotate_left
                focus (intro w hSw; (try dsimp only at hSw); go_simp; first | done | with_reducible rfl)
                try simp only [Act.put, List.setIfInBounds_toArray, List.set_cons_zero, List.set_cons_succ]
                refine wpAnyH_take (i := 18) (oi := ⟨some 138, _, _, _, _, _⟩) (v := ?_) rfl (by kernel_rfl) (by kernel_rfl) (by kernel_rfl) (fun _ _ _ h => h) (Or.inl ⟨by rfl, ?_⟩) (by assumption) ?_
                rotate_left
                focus (intro w hSw; (try dsimp only at hSw); go_simp; first | done | with_reducible rfl)
                try simp only [Act.put, List.setIfInBounds_toArray, List.set_cons_zero, List.set_cons_succ]
                refine wpAnyH_take (i := 19) (oi := ⟨some 139, _, _, _, _, _⟩) (v := ?_) rfl (by kernel_rfl) (by kernel_rfl) (by kernel_rfl) (fun _ _ _ h => h) (Or.inl ⟨by rfl, ?_⟩) (by assumption) ?_
                rotate_left
                focus (intro w hSw; (try dsimp only at hSw); go_simp; first | done | with_reducible rfl)
                try simp only [Act.put, List.setIfInBounds_toArray, List.set_cons_zero, List.set_cons_succ]
                refine wpAnyH_take (i := 20) (oi := ⟨some 140, _, _, _, _, _⟩) (v := ?_) rfl (by kernel_rfl) (by kernel_rfl) (by kernel_rfl) (fun _ _ _ h => h) (Or.inl ⟨by rfl, ?_⟩) (by assumption) ?_
                rotate_left
                focus (intro w hSw; (try dsimp only at hSw); go_simp; first | done | with_reducible rfl)
                try simp only [Act.put, List.setIfInBounds_toArray, List.set_cons_zero, List.set_cons_succ]
                refine wpAnyH_take (i := 21) (oi := ⟨some 141, _, _, _, _, _⟩) (v := ?_) rfl (by kernel_rfl) (by kernel_rfl) (by kernel_rfl) (fun _ _ _ h => h) (Or.inl ⟨by rfl, ?_⟩) (by assumption) ?_
                rotate_left
                focus (intro w hSw; (try dsimp only at hSw); go_simp; first | done | with_reducible rfl)
                try simp only [Act.put, List.setIfInBounds_toArray, List.set_cons_zero, List.set_cons_succ]
                refine wpAnyH_take (i := 22) (oi := ⟨some 142, _, _, _, _, _⟩) (v := ?_) rfl (by kernel_rfl) (by kernel_rfl) (by kernel_rfl) (fun _ _ _ h => h) (Or.inl ⟨by rfl, ?_⟩) (by assumption) ?_
                rotate_left
                focus (intro w hSw; (try dsimp only at hSw); go_simp; first | done | with_reducible rfl)
                try simp only [Act.put, List.setIfInBounds_toArray, List.set_cons_zero, List.set_cons_succ]
                refine wpAnyH_take (i := 23) (oi := ⟨some 143, _, _, _, _, _⟩) (v := ?_) rfl (by kernel_rfl) (by kernel_rfl) (by kernel_rfl) (fun _ _ _ h => h) (Or.inl ⟨by rfl, ?_⟩) (by assumption) ?_
                rotate_left
                focus (intro w hSw; (try dsimp only at hSw); go_simp; first | done | with_reducible rfl)
                try simp only [Act.put, List.setIfInBounds_toArray, List.set_cons_zero, List.set_cons_succ]
                refine wpAnyH_take (i := 24) (oi := ⟨some 144, _, _, _, _, _⟩) (v := ?_) rfl (by kernel_rfl) (by kernel_rfl) (by kernel_rfl) (fun _ _ _ h => h) (Or.inl ⟨by rfl, ?_⟩) (by assumption) ?_
                rotate_left
                focus (intro w hSw; (try dsimp only at hSw); go_simp; first | done | with_reducible rfl)
                try simp only [Act.put, List.setIfInBounds_toArray, List.set_cons_zero, List.set_cons_succ]
                refine wpAnyH_take (i := 25) (oi := ⟨some 145, _, _, _, _, _⟩) (v := ?_) rfl (by kernel_rfl) (by kernel_rfl) (by kernel_rfl) (fun _ _ _ h => h) (Or.inl ⟨by rfl, ?_⟩) (by assumption) ?_
                rotate_left
                focus (intro w hSw; (try dsimp only at hSw); go_simp; first | done | with_reducible rfl)
                try simp only [Act.put, List.setIfInBounds_toArray, List.set_cons_zero, List.set_cons_succ]
                refine wpAnyH_ready (rs := [26]) (by kernel_rfl) (by simp) ?_
                refine AllReadyH.cons (o := ⟨some 146, _, _, _, _, _⟩) rfl (fun K hK => ?_) AllReadyH.nil
                go_simp
                (with_reducible refine (HT.out _ hHeld.1.out).mono ?_); rintro e w3 ⟨rfl, hb⟩
                go_wp2_with fail
                refine hK.out _ _ (by exact ⟨Lib.hid (hHeld.1.out.trans (hb.mono hHeld.1.out.size)), keep_cell hb hHeld.2.1, keep_cell hb hHeld.2.2.1, keep_cell hb hHeld.2.2.2.1, keep_cell hb hHeld.2.2.2.2.1, keep_cell hb hHeld.2.2.2.2.2.1, keep_cell hb hHeld.2.2.2.2.2.2⟩) (fun hNew => ?_)
                clear hK K
                clear hHeld hb; have hHeld := hNew; clear hNew
                try simp only [Act.put, List.setIfInBounds_toArray, List.set_cons_zero, List.set_cons_succ]
                refine wpAnyH_take (i := 27) (oi := ⟨some 147, _, _, _, _, _⟩) (v := ?_) rfl (by kernel_rfl) (by kernel_rfl) (by kernel_rfl) (fun _ _ _ h => h) (Or.inl ⟨by rfl, ?_⟩) (by assumption) ?_
                rotate_left
                focus (intro w hSw; (try dsimp only at hSw); go_simp; first | done | with_reducible rfl)
                try simp only [Act.put, List.setIfInBounds_toArray, List.set_cons_zero, List.set_cons_succ]
                refine wpAnyH_take (i := 28) (oi := ⟨some 148, _, _, _, _, _⟩) (v := ?_) rfl (by kernel_rfl) (by kernel_rfl) (by kernel_rfl) (fun _ _ _ h => h) (Or.inl ⟨by rfl, ?_⟩) (by assumption) ?_
                rotate_left
                focus (intro w hSw; (try dsimp only at hSw); go_simp; first | done | with_reducible rfl)
                try simp only [Act.put, List.setIfInBounds_toArray, List.set_cons_zero, List.set_cons_succ]
                refine wpAnyH_done (by kernel_rfl) ?_ _
                have HQ := Lib.hid (HBi.out.trans (hHeld.1.out.mono HBi.out.size))
                clear hHeld
                go_wp2
                go_roundw
                case rel => exact ⟨i + 1, by omega, by go_num, HQ.out⟩
                case measure => simp [intOf]; omega
              · obtain rfl : i = x.cs.length := by omega
                go_wp2
                have HF := Lib.hid (HB1.out.trans ((HW6.out.trans (HBi.out.mono HW6.out.size)).mono HB1.out.size))
                go_roundw
                case rel => exact ⟨k + 1, by omega, by go_num, HF.out⟩
                case measure => simp [intOf]; omega
        · obtain rfl : k = l1.length := by omega
          generalize hwx : wr = w1x at *
          clear hwx
          go_wp2
          go_loopw [10] (fun i wr => ∃ k : Nat, k ≤ l2.length ∧ i = .int .i64 k ∧ Below W2.heap.size W2 wr) (fun i _ => l2.length - (intOf i).toNat)
          case atStart => exact ⟨0, Nat.zero_le _, rfl, HB1.out⟩
          case round =>
            obtain ⟨k, hk, rfl, hB⟩ := hrel
            have HB2 := Lib.hid hB
            have hzr := hB.size
            have xa : wr.cell? ⟨w.heap.size, 2, none⟩ = some (.slice q2 l2.length k2) := hb_at (hb_below C0.out hB (by omega)) 2 rfl
            by_cases hlt : k < l2.length
            · have xb : wr.cell? ⟨w.heap.size + 1, 2, none⟩ = some (.slice r2 l2.length j2) := hb_at (hb_below C1.out hB (by omega)) 2 rfl
              obtain ⟨_, _, E1, hp⟩ := P2.out.below hB
              obtain ⟨_, _, E2, hq⟩ := Q2.out.below hB
              cases E1
              cases E2
              obtain ⟨b1, o1, cs1, e1, _, ha1, hv1⟩ := hp k l2[k] (List.getElem?_eq_getElem hlt)
              obtain ⟨b2, o2, cs2, e2, _, ha2, hv2⟩ := hq k l2[k] (List.getElem?_eq_getElem hlt)
              subst e1 e2
              clear hp hq
              generalize l2[k] = x at *
              have hki : (k : Int) < (l2.length : Int) := by omega
              as_aux_lemma =>
                obtain ⟨pv1, tk1, tp1, tn1, tN1, ts1, td1, rfl, _, hpv1, hpl, ht1⟩ := hv1
                obtain ⟨pv2, tk2, tp2, tn2, tN2, ts2, td2, rfl, _, hpv2, _, ht2⟩ := hv2
                obtain ⟨pq1, pq1c, rfl⟩ : ∃ q c, pv1 = .slice q x.ps.length c := let ⟨q, c, h, _⟩ := hpv1; ⟨q, c, h⟩
                obtain ⟨pq2, pq2c, rfl⟩ : ∃ q c, pv2 = .slice q x.ps.length c := let ⟨q, c, h, _⟩ := hpv2; ⟨q, c, h⟩
                have x10 := ha1 0 _ rfl
                change wr.cell? ⟨b1, o1 + k * 7, none⟩ = _ at x10
                have x11 := ha1 1 _ rfl
                change wr.cell? ⟨b1, o1 + k * 7 + 1, none⟩ = _ at x11
                have x12 := ha1 2 _ rfl
                change wr.cell? ⟨b1, o1 + k * 7 + 2, none⟩ = _ at x12
                have x13 := ha1 3 _ rfl
                change wr.cell? ⟨b1, o1 + k * 7 + 3, none⟩ = _ at x13
                have x14 := ha1 4 _ rfl
                change wr.cell? ⟨b1, o1 + k * 7 + 4, none⟩ = _ at x14
                have x15 := ha1 5 _ rfl
                change wr.cell? ⟨b1, o1 + k * 7 + 5, none⟩ = _ at x15
                have x16 := ha1 6 _ rfl
                change wr.cell? ⟨b1, o1 + k * 7 + 6, none⟩ = _ at x16
                have x20 := ha2 0 _ rfl
                change wr.cell? ⟨b2, o2 + k * 7, none⟩ = _ at x20
                have x21 := ha2 1 _ rfl
                change wr.cell? ⟨b2, o2 + k * 7 + 1, none⟩ = _ at x21
                have x22 := ha2 2 _ rfl
                change wr.cell? ⟨b2, o2 + k * 7 + 2, none⟩ = _ at x22
                have x23 := ha2 3 _ rfl
                change wr.cell? ⟨b2, o2 + k * 7 + 3, none⟩ = _ at x23
                have x24 := ha2 4 _ rfl
                change wr.cell? ⟨b2, o2 + k * 7 + 4, none⟩ = _ at x24
                have x25 := ha2 5 _ rfl
                change wr.cell? ⟨b2, o2 + k * 7 + 5, none⟩ = _ at x25
                have x26 := ha2 6 _ rfl
                change wr.cell? ⟨b2, o2 + k * 7 + 6, none⟩ = _ at x26
                clear ha1 ha2
                have HT : RowKit.Hid (∀ W, Below wr.heap.size wr W → Calls Tryz.prog 19 #[.slice pq1 x.ps.length pq1c, .slice pq2 x.ps.length pq2c] W fun e w' => e = .returned (.bool true) ∧ Below W.heap.size W w') :=
                  Lib.hid fun W hW => (texts_same _ _ _ _ _ _ (hpv1.below hW) (hpv2.below hW) hpl).mono fun e w' h => ⟨h.1, h.2.below⟩
                have HU : RowKit.Hid (∀ W, Below wr.heap.size wr W → Calls Tryz.prog 14 #[tv tk1 tp1 tn1 tN1 ts1, tv tk2 tp2 tn2 tN2 ts2] W fun e w' => e = .returned (.bool true) ∧ Below W.heap.size W w') :=
                  Lib.hid fun W hW => term_same (ht1.below hW) (ht2.below hW)
                clear hpv1 hpv2 ht1 ht2
                clear hB
                go_wp2
                refine wp_region_held_drew (S := (fun w' => RowKit.Hid (Below wr.heap.size wr w') ∧ w'.cell? ⟨w.heap.size, 2, none⟩ = some (.slice (some ⟨b1, o1, none⟩) l2.length k2) ∧ w'.cell? ⟨w.heap.size + 1, 2, none⟩ = some (.slice (some ⟨b2, o2, none⟩) l2.length j2) ∧ w'.cell? ⟨b1, o1 + k * 7, none⟩ = some (.string x.n) ∧ w'.cell? ⟨b1, o1 + k * 7 + 1, none⟩ = some (.slice pq1 x.ps.length pq1c) ∧ w'.cell? ⟨b1, o1 + k * 7 + 2, none⟩ = some (.int .i64 tk1) ∧ w'.cell? ⟨b1, o1 + k * 7 + 3, none⟩ = some (.string tp1) ∧ w'.cell? ⟨b1, o1 + k * 7 + 4, none⟩ = some (.string tn1) ∧ w'.cell? ⟨b1, o1 + k * 7 + 5, none⟩ = some (.int .i64 tN1) ∧ w'.cell? ⟨b1, o1 + k * 7 + 6, none⟩ = some (ts1) ∧ w'.cell? ⟨b2, o2 + k * 7, none⟩ = some (.string x.n) ∧ w'.cell? ⟨b2, o2 + k * 7 + 1, none⟩ = some (.slice pq2 x.ps.length pq2c) ∧ w'.cell? ⟨b2, o2 + k * 7 + 2, none⟩ = some (.int .i64 tk2) ∧ w'.cell? ⟨b2, o2 + k * 7 + 3, none⟩ = some (.string tp2) ∧ w'.cell? ⟨b2, o2 + k * 7 + 4, none⟩ = some (.string tn2) ∧ w'.cell? ⟨b2, o2 + k * 7 + 5, none⟩ = some (.int .i64 tN2) ∧ w'.cell? ⟨b2, o2 + k * 7 + 6, none⟩ = some (ts2))) (by kernel_rfl) (by exact ⟨Lib.hid (below_drewN (Below.refl _ _) 1), xa, xb, x10, x11, x12, x13, x14, x15, x16, x20, x21, x22, x23, x24, x25, x26⟩) (fun hHeld => ?_)
                refine wpAnyH_take (i := 0) (oi := ⟨some 156, _, _, _, _, _⟩) (v := ?_) rfl (by kernel_rfl) (by kernel_rfl) (by kernel_rfl) (fun _ _ _ h => h) (Or.inl ⟨by rfl, ?_⟩) (by assumption) ?_
                rotate_left
                focus (intro w hSw; (try dsimp only at hSw); go_simp; first | done | with_reducible rfl)
                try simp only [Act.put, List.setIfInBounds_toArray, List.set_cons_zero, List.set_cons_succ]
                refine wpAnyH_take (i := 1) (oi := ⟨some 157, _, _, _, _, _⟩) (v := ?_) rfl (by kernel_rfl) (by kernel_rfl) (by kernel_rfl) (fun _ _ _ h => h) (Or.inl ⟨by rfl, ?_⟩) (by assumption) ?_
                rotate_left
                focus (intro w hSw; (try dsimp only at hSw); go_simp; first | done | with_reducible rfl)
                try simp only [Act.put, List.setIfInBounds_toArray, List.set_cons_zero, List.set_cons_succ]
                refine wpAnyH_take (i := 2) (oi := ⟨some 158, _, _, _, _, _⟩) (v := ?_) rfl (by kernel_rfl) (by kernel_rfl) (by kernel_rfl) (fun _ _ _ h => h) (Or.inl ⟨by rfl, ?_⟩) (by assumption) ?_
                rotate_left
                focus (intro w hSw; (try dsimp only at hSw); go_simp; first | done | with_reducible rfl)
                try simp only [Act.put, List.setIfInBounds_toArray, List.set_cons_zero, List.set_cons_succ]
                refine wpAnyH_take (i := 3) (oi := ⟨some 159, _, _, _, _, _⟩) (v := ?_) rfl (by kernel_rfl) (by kernel_rfl) (by kernel_rfl) (fun _ _ _ h => h) (Or.inl ⟨by rfl, ?_⟩) (by assumption) ?_
                rotate_left
                focus (intro w hSw; (try dsimp only at hSw); go_simp; first | done | with_reducible rfl)
                try simp only [Act.put, List.setIfInBounds_toArray, List.set_cons_zero, List.set_cons_succ]
                refine wpAnyH_take (i := 4) (oi := ⟨some 160, _, _, _, _, _⟩) (v := ?_) rfl (by kernel_rfl) (by kernel_rfl) (by kernel_rfl) (fun _ _ _ h => h) (Or.inl ⟨by rfl, ?_⟩) (by assumption) ?_
                rotate_left
                focus (intro w hSw; (try dsimp only at hSw); go_simp; first | done | with_reducible rfl)
                try simp only [Act.put, List.setIfInBounds_toArray, List.set_cons_zero, List.set_cons_succ]
                refine wpAnyH_take (i := 5) (oi := ⟨some 161, _, _, _, _, _⟩) (v := ?_) rfl (by kernel_rfl) (by kernel_rfl) (by kernel_rfl) (fun _ _ _ h => h) (Or.inl ⟨by rfl, ?_⟩) (by assumption) ?_
                rotate_left
                focus (intro w hSw; (try dsimp only at hSw); go_simp; first | done | with_reducible rfl)
                try simp only [Act.put, List.setIfInBounds_toArray, List.set_cons_zero, List.set_cons_succ]
                refine wpAnyH_take (i := 6) (oi := ⟨some 162, _, _, _, _, _⟩) (v := ?_) rfl (by kernel_rfl) (by kernel_rfl) (by kernel_rfl) (fun _ _ _ h => h) (Or.inl ⟨by rfl, ?_⟩) (by assumption) ?_
                rotate_left
                focus (intro w hSw; (try dsimp only at hSw); go_simp; first | done | with_reducible rfl)
                try simp only [Act.put, List.setIfInBounds_toArray, List.set_cons_zero, List.set_cons_succ]
                refine wpAnyH_take (i := 7) (oi := ⟨some 163, _, _, _, _, _⟩) (v := ?_) rfl (by kernel_rfl) (by kernel_rfl) (by kernel_rfl) (fun _ _ _ h => h) (Or.inl ⟨by rfl, ?_⟩) (by assumption) ?_
                rotate_left
                focus (intro w hSw; (try dsimp only at hSw); go_simp; first | done | with_reducible rfl)
                try simp only [Act.put, List.setIfInBounds_toArray, List.set_cons_zero, List.set_cons_succ]
                refine wpAnyH_take (i := 8) (oi := ⟨some 164, _, _, _, _, _⟩) (v := ?_) rfl (by kernel_rfl) (by kernel_rfl) (by kernel_rfl) (fun _ _ _ h => h) (Or.inl ⟨by rfl, ?_⟩) (by assumption) ?_
                rotate_left
                focus (intro w hSw; (try dsimp only at hSw); go_simp; first | done | with_reducible rfl)
                try simp only [Act.put, List.setIfInBounds_toArray, List.set_cons_zero, List.set_cons_succ]
                refine wpAnyH_take (i := 9) (oi := ⟨some 165, _, _, _, _, _⟩) (v := ?_) rfl (by kernel_rfl) (by kernel_rfl) (by kernel_rfl) (fun _ _ _ h => h) (Or.inl ⟨by rfl, ?_⟩) (by assumption) ?_
                rotate_left
                focus (intro w hSw; (try dsimp only at hSw); go_simp; first | done | with_reducible rfl)
                try simp only [Act.put, List.setIfInBounds_toArray, List.set_cons_zero, List.set_cons_succ]
                refine wpAnyH_take (i := 10) (oi := ⟨some 166, _, _, _, _, _⟩) (v := ?_) rfl (by kernel_rfl) (by kernel_rfl) (by kernel_rfl) (fun _ _ _ h => h) (Or.inl ⟨by rfl, ?_⟩) (by assumption) ?_
                rotate_left
                focus (intro w hSw; (try dsimp only at hSw); go_simp; first | done | with_reducible rfl)
                try simp only [Act.put, List.setIfInBounds_toArray, List.set_cons_zero, List.set_cons_succ]
                refine wpAnyH_take (i := 11) (oi := ⟨some 167, _, _, _, _, _⟩) (v := ?_) rfl (by kernel_rfl) (by kernel_rfl) (by kernel_rfl) (fun _ _ _ h => h) (Or.inl ⟨by rfl, ?_⟩) (by assumption) ?_
                rotate_left
                focus (intro w hSw; (try dsimp only at hSw); go_simp; first | done | with_reducible rfl)
                try simp only [Act.put, List.setIfInBounds_toArray, List.set_cons_zero, List.set_cons_succ]
                refine wpAnyH_take (i := 12) (oi := ⟨some 168, _, _, _, _, _⟩) (v := ?_) rfl (by kernel_rfl) (by kernel_rfl) (by kernel_rfl) (fun _ _ _ h => h) (Or.inl ⟨by rfl, ?_⟩) (by assumption) ?_
                rotate_left
                focus (intro w hSw; (try dsimp only at hSw); go_simp; first | done | with_reducible rfl)
                try simp only [Act.put, List.setIfInBounds_toArray, List.set_cons_zero, List.set_cons_succ]
                refine wpAnyH_take (i := 13) (oi := ⟨some 169, _, _, _, _, _⟩) (v := ?_) rfl (by kernel_rfl) (by kernel_rfl) (by kernel_rfl) (fun _ _ _ h => h) (Or.inl ⟨by rfl, ?_⟩) (by assumption) ?_
                rotate_left
                focus (intro w hSw; (try dsimp only at hSw); go_simp; first | done | with_reducible rfl)
                try simp only [Act.put, List.setIfInBounds_toArray, List.set_cons_zero, List.set_cons_succ]
                refine wpAnyH_take (i := 14) (oi := ⟨some 170, _, _, _, _, _⟩) (v := ?_) rfl (by kernel_rfl) (by kernel_rfl) (by kernel_rfl) (fun _ _ _ h => h) (Or.inl ⟨by rfl, ?_⟩) (by assumption) ?_
                rotate_left
                focus (intro w hSw; (try dsimp only at hSw); go_simp; first | done | with_reducible rfl)
                try simp only [Act.put, List.setIfInBounds_toArray, List.set_cons_zero, List.set_cons_succ]
                refine wpAnyH_take (i := 15) (oi := ⟨some 171, _, _, _, _, _⟩) (v := ?_) rfl (by kernel_rfl) (by kernel_rfl) (by kernel_rfl) (fun _ _ _ h => h) (Or.inl ⟨by rfl, ?_⟩) (by assumption) ?_
                rotate_left
                focus (intro w hSw; (try dsimp only at hSw); go_simp; first | done | with_reducible rfl)
                try simp only [Act.put, List.setIfInBounds_toArray, List.set_cons_zero, List.set_cons_succ]
                refine wpAnyH_take (i := 16) (oi := ⟨some 172, _, _, _, _, _⟩) (v := ?_) rfl (by kernel_rfl) (by kernel_rfl) (by kernel_rfl) (fun _ _ _ h => h) (Or.inl ⟨by rfl, ?_⟩) (by assumption) ?_
                rotate_left
                focus (intro w hSw; (try dsimp only at hSw); go_simp; first | done | with_reducible rfl)
                try simp only [Act.put, List.setIfInBounds_toArray, List.set_cons_zero, List.set_cons_succ]
                refine wpAnyH_take (i := 17) (oi := ⟨some 173, _, _, _, _, _⟩) (v := ?_) rfl (by kernel_rfl) (by kernel_rfl) (by kernel_rfl) (fun _ _ _ h => h) (Or.inl ⟨by rfl, ?_⟩) (by assumption) ?_
                rotate_left
                focus (intro w hSw; (try dsimp only at hSw); go_simp; first | done | with_reducible rfl)
                try simp only [Act.put, List.setIfInBounds_toArray, List.set_cons_zero, List.set_cons_succ]
                refine wpAnyH_take (i := 18) (oi := ⟨some 174, _, _, _, _, _⟩) (v := ?_) rfl (by kernel_rfl) (by kernel_rfl) (by kernel_rfl) (fun _ _ _ h => h) (Or.inl ⟨by rfl, ?_⟩) (by assumption) ?_
                rotate_left
                focus (intro w hSw; (try dsimp only at hSw); go_simp; first | done | with_reducible rfl)
                try simp only [Act.put, List.setIfInBounds_toArray, List.set_cons_zero, List.set_cons_succ]
                refine wpAnyH_take (i := 19) (oi := ⟨some 175, _, _, _, _, _⟩) (v := ?_) rfl (by kernel_rfl) (by kernel_rfl) (by kernel_rfl) (fun _ _ _ h => h) (Or.inl ⟨by rfl, ?_⟩) (by assumption) ?_
                rotate_left
                focus (intro w hSw; (try dsimp only at hSw); go_simp; first | done | with_reducible rfl)
                try simp only [Act.put, List.setIfInBounds_toArray, List.set_cons_zero, List.set_cons_succ]
                refine wpAnyH_take (i := 20) (oi := ⟨some 176, _, _, _, _, _⟩) (v := ?_) rfl (by kernel_rfl) (by kernel_rfl) (by kernel_rfl) (fun _ _ _ h => h) (Or.inl ⟨by rfl, ?_⟩) (by assumption) ?_
                rotate_left
                focus (intro w hSw; (try dsimp only at hSw); go_simp; first | done | with_reducible rfl)
                try simp only [Act.put, List.setIfInBounds_toArray, List.set_cons_zero, List.set_cons_succ]
                refine wpAnyH_take (i := 21) (oi := ⟨some 177, _, _, _, _, _⟩) (v := ?_) rfl (by kernel_rfl) (by kernel_rfl) (by kernel_rfl) (fun _ _ _ h => h) (Or.inl ⟨by rfl, ?_⟩) (by assumption) ?_
                rotate_left
                focus (intro w hSw; (try dsimp only at hSw); go_simp; first | done | with_reducible rfl)
                try simp only [Act.put, List.setIfInBounds_toArray, List.set_cons_zero, List.set_cons_succ]
                refine wpAnyH_take (i := 22) (oi := ⟨some 178, _, _, _, _, _⟩) (v := ?_) rfl (by kernel_rfl) (by kernel_rfl) (by kernel_rfl) (fun _ _ _ h => h) (Or.inl ⟨by rfl, ?_⟩) (by assumption) ?_
                rotate_left
                focus (intro w hSw; (try dsimp only at hSw); go_simp; first | done | with_reducible rfl)
                try simp only [Act.put, List.setIfInBounds_toArray, List.set_cons_zero, List.set_cons_succ]
                refine wpAnyH_take (i := 23) (oi := ⟨some 179, _, _, _, _, _⟩) (v := ?_) rfl (by kernel_rfl) (by kernel_rfl) (by kernel_rfl) (fun _ _ _ h => h) (Or.inl ⟨by rfl, ?_⟩) (by assumption) ?_
                rotate_left
                focus (intro w hSw; (try dsimp only at hSw); go_simp; first | done | with_reducible rfl)
                try simp only [Act.put, List.setIfInBounds_toArray, List.set_cons_zero, List.set_cons_succ]
                refine wpAnyH_take (i := 24) (oi := ⟨some 180, _, _, _, _, _⟩) (v := ?_) rfl (by kernel_rfl) (by kernel_rfl) (by kernel_rfl) (fun _ _ _ h => h) (Or.inl ⟨by rfl, ?_⟩) (by assumption) ?_
                rotate_left
                focus (intro w hSw; (try dsimp only at hSw); go_simp; first | done | with_reducible rfl)
                try simp only [Act.put, List.setIfInBounds_toArray, List.set_cons_zero, List.set_cons_succ]
                refine wpAnyH_take (i := 25) (oi := ⟨some 181, _, _, _, _, _⟩) (v := ?_) rfl (by kernel_rfl) (by kernel_rfl) (by kernel_rfl) (fun _ _ _ h => h) (Or.inl ⟨by rfl, ?_⟩) (by assumption) ?_
                rotate_left
                focus (intro w hSw; (try dsimp only at hSw); go_simp; first | done | with_reducible rfl)
                try simp only [Act.put, List.setIfInBounds_toArray, List.set_cons_zero, List.set_cons_succ]
                refine wpAnyH_ready (rs := [26]) (by kernel_rfl) (by simp) ?_
                refine AllReadyH.cons (o := ⟨some 182, _, _, _, _, _⟩) rfl (fun K hK => ?_) AllReadyH.nil
                go_simp
                (with_reducible refine (HT.out _ hHeld.1.out).mono ?_); rintro e w3 ⟨rfl, hb⟩
                go_wp2_with fail
                refine hK.out _ _ (by exact ⟨Lib.hid (hHeld.1.out.trans (hb.mono hHeld.1.out.size)), keep_cell hb hHeld.2.1, keep_cell hb hHeld.2.2.1, keep_cell hb hHeld.2.2.2.1, keep_cell hb hHeld.2.2.2.2.1, keep_cell hb hHeld.2.2.2.2.2.1, keep_cell hb hHeld.2.2.2.2.2.2.1, keep_cell hb hHeld.2.2.2.2.2.2.2.1, keep_cell hb hHeld.2.2.2.2.2.2.2.2.1, keep_cell hb hHeld.2.2.2.2.2.2.2.2.2.1, keep_cell hb hHeld.2.2.2.2.2.2.2.2.2.2.1, keep_cell hb hHeld.2.2.2.2.2.2.2.2.2.2.2.1, keep_cell hb hHeld.2.2.2.2.2.2.2.2.2.2.2.2.1, keep_cell hb hHeld.2.2.2.2.2.2.2.2.2.2.2.2.2.1, keep_cell hb hHeld.2.2.2.2.2.2.2.2.2.2.2.2.2.2.1, keep_cell hb hHeld.2.2.2.2.2.2.2.2.2.2.2.2.2.2.2.1, keep_cell hb hHeld.2.2.2.2.2.2.2.2.2.2.2.2.2.2.2.2⟩) (fun hNew => ?_)
                clear hK K
                clear hHeld hb; have hHeld := hNew; clear hNew
                try simp only [Act.put, List.setIfInBounds_toArray, List.set_cons_zero, List.set_cons_succ]
                refine wpAnyH_take (i := 27) (oi := ⟨some 183, _, _, _, _, _⟩) (v := ?_) rfl (by kernel_rfl) (by kernel_rfl) (by kernel_rfl) (fun _ _ _ h => h) (Or.inl ⟨by rfl, ?_⟩) (by assumption) ?_
                rotate_left
                focus (intro w hSw; (try dsimp only at hSw); go_simp; first | done | with_reducible rfl)
                try simp only [Act.put, List.setIfInBounds_toArray, List.set_cons_zero, List.set_cons_succ]
                refine wpAnyH_take (i := 28) (oi := ⟨some 184, _, _, _, _, _⟩) (v := ?_) rfl (by kernel_rfl) (by kernel_rfl) (by kernel_rfl) (fun _ _ _ h => h) (Or.inl ⟨by rfl, ?_⟩) (by assumption) ?_
                rotate_left
                focus (intro w hSw; (try dsimp only at hSw); go_simp; first | done | with_reducible rfl)
                try simp only [Act.put, List.setIfInBounds_toArray, List.set_cons_zero, List.set_cons_succ]
                refine wpAnyH_take (i := 29) (oi := ⟨some 185, _, _, _, _, _⟩) (v := ?_) rfl (by kernel_rfl) (by kernel_rfl) (by kernel_rfl) (fun _ _ _ h => h) (Or.inl ⟨by rfl, ?_⟩) (by assumption) ?_
                rotate_left
                focus (intro w hSw; (try dsimp only at hSw); go_simp; first | done | with_reducible rfl)
                try simp only [Act.put, List.setIfInBounds_toArray, List.set_cons_zero, List.set_cons_succ]
                refine wpAnyH_take (i := 30) (oi := ⟨some 186, _, _, _, _, _⟩) (v := ?_) rfl (by kernel_rfl) (by kernel_rfl) (by kernel_rfl) (fun _ _ _ h => h) (Or.inl ⟨by rfl, ?_⟩) (by assumption) ?_
                rotate_left
                focus (intro w hSw; (try dsimp only at hSw); go_simp; first | done | with_reducible rfl)
                try simp only [Act.put, List.setIfInBounds_toArray, List.set_cons_zero, List.set_cons_succ]
                refine wpAnyH_take (i := 31) (oi := ⟨some 187, _, _, _, _, _⟩) (v := ?_) rfl (by kernel_rfl) (by kernel_rfl) (by kernel_rfl) (fun _ _ _ h => h) (Or.inl ⟨by rfl, ?_⟩) (by assumption) ?_
                rotate_left
                focus (intro w hSw; (try dsimp only at hSw); go_simp; first | done | with_reducible rfl)
                try simp only [Act.put, List.setIfInBounds_toArray, List.set_cons_zero, List.set_cons_succ]
                refine wpAnyH_take (i := 32) (oi := ⟨some 188, _, _, _, _, _⟩) (v := ?_) rfl (by kernel_rfl) (by kernel_rfl) (by kernel_rfl) (fun _ _ _ h => h) (Or.inl ⟨by rfl, ?_⟩) (by assumption) ?_
                rotate_left
                focus (intro w hSw; (try dsimp only at hSw); go_simp; first | done | with_reducible rfl)
                try simp only [Act.put, List.setIfInBounds_toArray, List.set_cons_zero, List.set_cons_succ]
                refine wpAnyH_take (i := 33) (oi := ⟨some 189, _, _, _, _, _⟩) (v := ?_) rfl (by kernel_rfl) (by kernel_rfl) (by kernel_rfl) (fun _ _ _ h => h) (Or.inl ⟨by rfl, ?_⟩) (by assumption) ?_
                rotate_left
                focus (intro w hSw; (try dsimp only at hSw); go_simp; first | done | with_reducible rfl)
                try simp only [Act.put, List.setIfInBounds_toArray, List.set_cons_zero, List.set_cons_succ]
                refine wpAnyH_take (i := 34) (oi := ⟨some 190, _, _, _, _, _⟩) (v := ?_) rfl (by kernel_rfl) (by kernel_rfl) (by kernel_rfl) (fun _ _ _ h => h) (Or.inl ⟨by rfl, ?_⟩) (by assumption) ?_
                rotate_left
                focus (intro w hSw; (try dsimp only at hSw); go_simp; first | done | with_reducible rfl)
                try simp only [Act.put, List.setIfInBounds_toArray, List.set_cons_zero, List.set_cons_succ]
                refine wpAnyH_take (i := 35) (oi := ⟨some 191, _, _, _, _, _⟩) (v := ?_) rfl (by kernel_rfl) (by kernel_rfl) (by kernel_rfl) (fun _ _ _ h => h) (Or.inl ⟨by rfl, ?_⟩) (by assumption) ?_
                rotate_left
                focus (intro w hSw; (try dsimp only at hSw); go_simp; first | done | with_reducible rfl)
                try simp only [Act.put, List.setIfInBounds_toArray, List.set_cons_zero, List.set_cons_succ]
                refine wpAnyH_take (i := 36) (oi := ⟨some 192, _, _, _, _, _⟩) (v := ?_) rfl (by kernel_rfl) (by kernel_rfl) (by kernel_rfl) (fun _ _ _ h => h) (Or.inl ⟨by rfl, ?_⟩) (by assumption) ?_
                rotate_left
                focus (intro w hSw; (try dsimp only at hSw); go_simp; first | done | with_reducible rfl)
                try simp only [Act.put, List.setIfInBounds_toArray, List.set_cons_zero, List.set_cons_succ]
                refine wpAnyH_take (i := 37) (oi := ⟨some 193, _, _, _, _, _⟩) (v := ?_) rfl (by kernel_rfl) (by kernel_rfl) (by kernel_rfl) (fun _ _ _ h => h) (Or.inl ⟨by rfl, ?_⟩) (by assumption) ?_
                rotate_left
                focus (intro w hSw; (try dsimp only at hSw); go_simp; first | done | with_reducible rfl)
                try simp only [Act.put, List.setIfInBounds_toArray, List.set_cons_zero, List.set_cons_succ]
                refine wpAnyH_take (i := 38) (oi := ⟨some 194, _, _, _, _, _⟩) (v := ?_) rfl (by kernel_rfl) (by kernel_rfl) (by kernel_rfl) (fun _ _ _ h => h) (Or.inl ⟨by rfl, ?_⟩) (by assumption) ?_
                rotate_left
                focus (intro w hSw; (try dsimp only at hSw); go_simp; first | done | with_reducible rfl)
                try simp only [Act.put, List.setIfInBounds_toArray, List.set_cons_zero, List.set_cons_succ]
                refine wpAnyH_take (i := 39) (oi := ⟨some 195, _, _, _, _, _⟩) (v := ?_) rfl (by kernel_rfl) (by kernel_rfl) (by kernel_rfl) (fun _ _ _ h => h) (Or.inl ⟨by rfl, ?_⟩) (by assumption) ?_
                rotate_left
                focus (intro w hSw; (try dsimp only at hSw); go_simp; first | done | with_reducible rfl)
                try simp only [Act.put, List.setIfInBounds_toArray, List.set_cons_zero, List.set_cons_succ]
                refine wpAnyH_take (i := 40) (oi := ⟨some 196, _, _, _, _, _⟩) (v := ?_) rfl (by kernel_rfl) (by kernel_rfl) (by kernel_rfl) (fun _ _ _ h => h) (Or.inl ⟨by rfl, ?_⟩) (by assumption) ?_
                rotate_left
                focus (intro w hSw; (try dsimp only at hSw); go_simp; first | done | with_reducible rfl)
                try simp only [Act.put, List.setIfInBounds_toArray, List.set_cons_zero, List.set_cons_succ]
                refine wpAnyH_take (i := 41) (oi := ⟨some 197, _, _, _, _, _⟩) (v := ?_) rfl (by kernel_rfl) (by kernel_rfl) (by kernel_rfl) (fun _ _ _ h => h) (Or.inl ⟨by rfl, ?_⟩) (by assumption) ?_
                rotate_left
                focus (intro w hSw; (try dsimp only at hSw); go_simp; first | done | with_reducible rfl)
                try simp only [Act.put, List.setIfInBounds_toArray, List.set_cons_zero, List.set_cons_succ]
                refine wpAnyH_ready (rs := [42]) (by kernel_rfl) (by simp) ?_
                refine AllReadyH.cons (o := ⟨some 198, _, _, _, _, _⟩) rfl (fun K hK => ?_) AllReadyH.nil
                go_simp
                (with_reducible refine (HU.out _ hHeld.1.out).mono ?_); rintro e w3 ⟨rfl, hb⟩
                go_wp2_with fail
                refine hK.out _ _ (by exact ⟨Lib.hid (hHeld.1.out.trans (hb.mono hHeld.1.out.size)), keep_cell hb hHeld.2.1, keep_cell hb hHeld.2.2.1, keep_cell hb hHeld.2.2.2.1, keep_cell hb hHeld.2.2.2.2.1, keep_cell hb hHeld.2.2.2.2.2.1, keep_cell hb hHeld.2.2.2.2.2.2.1, keep_cell hb hHeld.2.2.2.2.2.2.2.1, keep_cell hb hHeld.2.2.2.2.2.2.2.2.1, keep_cell hb hHeld.2.2.2.2.2.2.2.2.2.1, keep_cell hb hHeld.2.2.2.2.2.2.2.2.2.2.1, keep_cell hb hHeld.2.2.2.2.2.2.2.2.2.2.2.1, keep_cell hb hHeld.2.2.2.2.2.2.2.2.2.2.2.2.1, keep_cell hb hHeld.2.2.2.2.2.2.2.2.2.2.2.2.2.1, keep_cell hb hHeld.2.2.2.2.2.2.2.2.2.2.2.2.2.2.1, keep_cell hb hHeld.2.2.2.2.2.2.2.2.2.2.2.2.2.2.2.1, keep_cell hb hHeld.2.2.2.2.2.2.2.2.2.2.2.2.2.2.2.2⟩) (fun hNew => ?_)
                clear hK K
                clear hHeld hb; have hHeld := hNew; clear hNew
                try simp only [Act.put, List.setIfInBounds_toArray, List.set_cons_zero, List.set_cons_succ]
                refine wpAnyH_take (i := 43) (oi := ⟨some 199, _, _, _, _, _⟩) (v := ?_) rfl (by kernel_rfl) (by kernel_rfl) (by kernel_rfl) (fun _ _ _ h => h) (Or.inl ⟨by rfl, ?_⟩) (by assumption) ?_
                rotate_left
                focus (intro w hSw; (try dsimp only at hSw); go_simp; first | done | with_reducible rfl)
                try simp only [Act.put, List.setIfInBounds_toArray, List.set_cons_zero, List.set_cons_succ]
                refine wpAnyH_take (i := 44) (oi := ⟨some 200, _, _, _, _, _⟩) (v := ?_) rfl (by kernel_rfl) (by kernel_rfl) (by kernel_rfl) (fun _ _ _ h => h) (Or.inl ⟨by rfl, ?_⟩) (by assumption) ?_
                rotate_left
                focus (intro w hSw; (try dsimp only at hSw); go_simp; first | done | with_reducible rfl)
                try simp only [Act.put, List.setIfInBounds_toArray, List.set_cons_zero, List.set_cons_succ]
                refine wpAnyH_done (by kernel_rfl) ?_ _
                have HQ := Lib.hid (HB2.out.trans (hHeld.1.out.mono HB2.out.size))
                clear hHeld
                go_wp2
                go_roundw
                case rel => exact ⟨k + 1, by omega, by go_num, HQ.out⟩
                case measure => simp [intOf]; omega
            · obtain rfl : k = l2.length := by omega
              generalize hwx : wr = w2x at *
              clear hwx
              go_wp2
              go_loopw [11] (fun i wr => ∃ k : Nat, k ≤ l3.length ∧ i = .int .i64 k ∧ Below W2.heap.size W2 wr) (fun i _ => l3.length - (intOf i).toNat)
              case atStart => exact ⟨0, Nat.zero_le _, rfl, HB2.out⟩
              case round =>
                obtain ⟨k, hk, rfl, hB⟩ := hrel
                have HB3 := Lib.hid hB
                have hzr := hB.size
                have xa : wr.cell? ⟨w.heap.size, 3, none⟩ = some (.slice q3 l3.length k3) := hb_at (hb_below C0.out hB (by omega)) 3 rfl
                by_cases hlt : k < l3.length
                · have xb : wr.cell? ⟨w.heap.size + 1, 3, none⟩ = some (.slice r3 l3.length j3) := hb_at (hb_below C1.out hB (by omega)) 3 rfl
                  obtain ⟨_, _, E1, hp⟩ := P3.out.below hB
                  obtain ⟨_, _, E2, hq⟩ := Q3.out.below hB
                  cases E1
                  cases E2
                  obtain ⟨b1, o1, cs1, e1, _, ha1, hv1⟩ := hp k l3[k] (List.getElem?_eq_getElem hlt)
                  obtain ⟨b2, o2, cs2, e2, _, ha2, hv2⟩ := hq k l3[k] (List.getElem?_eq_getElem hlt)
                  subst e1 e2
                  clear hp hq
                  generalize l3[k] = x at *
                  have hki : (k : Int) < (l3.length : Int) := by omega
                  as_aux_lemma =>
                    obtain ⟨pv1, tk1, tp1, tn1, tN1, ts1, td1, rfl, _, hpv1, hpl, ht1⟩ := hv1
                    obtain ⟨pv2, tk2, tp2, tn2, tN2, ts2, td2, rfl, _, hpv2, _, ht2⟩ := hv2
                    obtain ⟨pq1, pq1c, rfl⟩ : ∃ q c, pv1 = .slice q x.ann.length c := let ⟨q, c, h, _⟩ := hpv1; ⟨q, c, h⟩
                    obtain ⟨pq2, pq2c, rfl⟩ : ∃ q c, pv2 = .slice q x.ann.length c := let ⟨q, c, h, _⟩ := hpv2; ⟨q, c, h⟩
                    have x10 := ha1 0 _ rfl
                    change wr.cell? ⟨b1, o1 + k * 7, none⟩ = _ at x10
                    have x11 := ha1 1 _ rfl
                    change wr.cell? ⟨b1, o1 + k * 7 + 1, none⟩ = _ at x11
                    have x12 := ha1 2 _ rfl
                    change wr.cell? ⟨b1, o1 + k * 7 + 2, none⟩ = _ at x12
                    have x13 := ha1 3 _ rfl
                    change wr.cell? ⟨b1, o1 + k * 7 + 3, none⟩ = _ at x13
                    have x14 := ha1 4 _ rfl
                    change wr.cell? ⟨b1, o1 + k * 7 + 4, none⟩ = _ at x14
                    have x15 := ha1 5 _ rfl
                    change wr.cell? ⟨b1, o1 + k * 7 + 5, none⟩ = _ at x15
                    have x16 := ha1 6 _ rfl
                    change wr.cell? ⟨b1, o1 + k * 7 + 6, none⟩ = _ at x16
                    have x20 := ha2 0 _ rfl
                    change wr.cell? ⟨b2, o2 + k * 7, none⟩ = _ at x20
                    have x21 := ha2 1 _ rfl
                    change wr.cell? ⟨b2, o2 + k * 7 + 1, none⟩ = _ at x21
                    have x22 := ha2 2 _ rfl
                    change wr.cell? ⟨b2, o2 + k * 7 + 2, none⟩ = _ at x22
                    have x23 := ha2 3 _ rfl
                    change wr.cell? ⟨b2, o2 + k * 7 + 3, none⟩ = _ at x23
                    have x24 := ha2 4 _ rfl
                    change wr.cell? ⟨b2, o2 + k * 7 + 4, none⟩ = _ at x24
                    have x25 := ha2 5 _ rfl
                    change wr.cell? ⟨b2, o2 + k * 7 + 5, none⟩ = _ at x25
                    have x26 := ha2 6 _ rfl
                    change wr.cell? ⟨b2, o2 + k * 7 + 6, none⟩ = _ at x26
                    clear ha1 ha2
                    have HT : RowKit.Hid (∀ W, Below wr.heap.size wr W → Calls Tryz.prog 20 #[.slice pq1 x.ann.length pq1c, .slice pq2 x.ann.length pq2c] W fun e w' => e = .returned (.bool true) ∧ Below W.heap.size W w') :=
                      Lib.hid fun W hW => terms_same _ _ _ _ _ _ (hpv1.below hW) (hpv2.below hW) hpl
                    have HU : RowKit.Hid (∀ W, Below wr.heap.size wr W → Calls Tryz.prog 14 #[tv tk1 tp1 tn1 tN1 ts1, tv tk2 tp2 tn2 tN2 ts2] W fun e w' => e = .returned (.bool true) ∧ Below W.heap.size W w') :=
                      Lib.hid fun W hW => term_same (ht1.below hW) (ht2.below hW)
                    clear hpv1 hpv2 ht1 ht2
                    clear hB
                    go_wp2
                    refine wp_region_held_drew (S := (fun w' => RowKit.Hid (Below wr.heap.size wr w') ∧ w'.cell? ⟨w.heap.size, 3, none⟩ = some (.slice (some ⟨b1, o1, none⟩) l3.length k3) ∧ w'.cell? ⟨w.heap.size + 1, 3, none⟩ = some (.slice (some ⟨b2, o2, none⟩) l3.length j3) ∧ w'.cell? ⟨b1, o1 + k * 7, none⟩ = some (.string x.n) ∧ w'.cell? ⟨b1, o1 + k * 7 + 1, none⟩ = some (.slice pq1 x.ann.length pq1c) ∧ w'.cell? ⟨b1, o1 + k * 7 + 2, none⟩ = some (.int .i64 tk1) ∧ w'.cell? ⟨b1, o1 + k * 7 + 3, none⟩ = some (.string tp1) ∧ w'.cell? ⟨b1, o1 + k * 7 + 4, none⟩ = some (.string tn1) ∧ w'.cell? ⟨b1, o1 + k * 7 + 5, none⟩ = some (.int .i64 tN1) ∧ w'.cell? ⟨b1, o1 + k * 7 + 6, none⟩ = some (ts1) ∧ w'.cell? ⟨b2, o2 + k * 7, none⟩ = some (.string x.n) ∧ w'.cell? ⟨b2, o2 + k * 7 + 1, none⟩ = some (.slice pq2 x.ann.length pq2c) ∧ w'.cell? ⟨b2, o2 + k * 7 + 2, none⟩ = some (.int .i64 tk2) ∧ w'.cell? ⟨b2, o2 + k * 7 + 3, none⟩ = some (.string tp2) ∧ w'.cell? ⟨b2, o2 + k * 7 + 4, none⟩ = some (.string tn2) ∧ w'.cell? ⟨b2, o2 + k * 7 + 5, none⟩ = some (.int .i64 tN2) ∧ w'.cell? ⟨b2, o2 + k * 7 + 6, none⟩ = some (ts2))) (by kernel_rfl) (by exact ⟨Lib.hid (below_drewN (Below.refl _ _) 1), xa, xb, x10, x11, x12, x13, x14, x15, x16, x20, x21, x22, x23, x24, x25, x26⟩) (fun hHeld => ?_)
                    refine wpAnyH_take (i := 0) (oi := ⟨some 208, _, _, _, _, _⟩) (v := ?_) rfl (by kernel_rfl) (by kernel_rfl) (by kernel_rfl) (fun _ _ _ h => h) (Or.inl ⟨by rfl, ?_⟩) (by assumption) ?_
                    rotate_left
                    focus (intro w hSw; (try dsimp only at hSw); go_simp; first | done | with_reducible rfl)
                    try simp only [Act.put, List.setIfInBounds_toArray, List.set_cons_zero, List.set_cons_succ]
                    refine wpAnyH_take (i := 1) (oi := ⟨some 209, _, _, _, _, _⟩) (v := ?_) rfl (by kernel_rfl) (by kernel_rfl) (by kernel_rfl) (fun _ _ _ h => h) (Or.inl ⟨by rfl, ?_⟩) (by assumption) ?_
                    rotate_left
                    focus (intro w hSw; (try dsimp only at hSw); go_simp; first | done | with_reducible rfl)
                    try simp only [Act.put, List.setIfInBounds_toArray, List.set_cons_zero, List.set_cons_succ]
                    refine wpAnyH_take (i := 2) (oi := ⟨some 210, _, _, _, _, _⟩) (v := ?_) rfl (by kernel_rfl) (by kernel_rfl) (by kernel_rfl) (fun _ _ _ h => h) (Or.inl ⟨by rfl, ?_⟩) (by assumption) ?_
                    rotate_left
                    focus (intro w hSw; (try dsimp only at hSw); go_simp; first | done | with_reducible rfl)
                    try simp only [Act.put, List.setIfInBounds_toArray, List.set_cons_zero, List.set_cons_succ]
                    refine wpAnyH_take (i := 3) (oi := ⟨some 211, _, _, _, _, _⟩) (v := ?_) rfl (by kernel_rfl) (by kernel_rfl) (by kernel_rfl) (fun _ _ _ h => h) (Or.inl ⟨by rfl, ?_⟩) (by assumption) ?_
                    rotate_left
                    focus (intro w hSw; (try dsimp only at hSw); go_simp; first | done | with_reducible rfl)
                    try simp only [Act.put, List.setIfInBounds_toArray, List.set_cons_zero, List.set_cons_succ]
                    refine wpAnyH_take (i := 4) (oi := ⟨some 212, _, _, _, _, _⟩) (v := ?_) rfl (by kernel_rfl) (by kernel_rfl) (by kernel_rfl) (fun _ _ _ h => h) (Or.inl ⟨by rfl, ?_⟩) (by assumption) ?_
                    rotate_left
                    focus (intro w hSw; (try dsimp only at hSw); go_simp; first | done | with_reducible rfl)
                    try simp only [Act.put, List.setIfInBounds_toArray, List.set_cons_zero, List.set_cons_succ]
                    refine wpAnyH_take (i := 5) (oi := ⟨some 213, _, _, _, _, _⟩) (v := ?_) rfl (by kernel_rfl) (by kernel_rfl) (by kernel_rfl) (fun _ _ _ h => h) (Or.inl ⟨by rfl, ?_⟩) (by assumption) ?_
                    rotate_left
                    focus (intro w hSw; (try dsimp only at hSw); go_simp; first | done | with_reducible rfl)
                    try simp only [Act.put, List.setIfInBounds_toArray, List.set_cons_zero, List.set_cons_succ]
                    refine wpAnyH_take (i := 6) (oi := ⟨some 214, _, _, _, _, _⟩) (v := ?_) rfl (by kernel_rfl) (by kernel_rfl) (by kernel_rfl) (fun _ _ _ h => h) (Or.inl ⟨by rfl, ?_⟩) (by assumption) ?_
                    rotate_left
                    focus (intro w hSw; (try dsimp only at hSw); go_simp; first | done | with_reducible rfl)
                    try simp only [Act.put, List.setIfInBounds_toArray, List.set_cons_zero, List.set_cons_succ]
                    refine wpAnyH_take (i := 7) (oi := ⟨some 215, _, _, _, _, _⟩) (v := ?_) rfl (by kernel_rfl) (by kernel_rfl) (by kernel_rfl) (fun _ _ _ h => h) (Or.inl ⟨by rfl, ?_⟩) (by assumption) ?_
                    rotate_left
                    focus (intro w hSw; (try dsimp only at hSw); go_simp; first | done | with_reducible rfl)
                    try simp only [Act.put, List.setIfInBounds_toArray, List.set_cons_zero, List.set_cons_succ]
                    refine wpAnyH_take (i := 8) (oi := ⟨some 216, _, _, _, _, _⟩) (v := ?_) rfl (by kernel_rfl) (by kernel_rfl) (by kernel_rfl) (fun _ _ _ h => h) (Or.inl ⟨by rfl, ?_⟩) (by assumption) ?_
                    rotate_left
                    focus (intro w hSw; (try dsimp only at hSw); go_simp; first | done | with_reducible rfl)
                    try simp only [Act.put, List.setIfInBounds_toArray, List.set_cons_zero, List.set_cons_succ]
                    refine wpAnyH_take (i := 9) (oi := ⟨some 217, _, _, _, _, _⟩) (v := ?_) rfl (by kernel_rfl) (by kernel_rfl) (by kernel_rfl) (fun _ _ _ h => h) (Or.inl ⟨by rfl, ?_⟩) (by assumption) ?_
                    rotate_left
                    focus (intro w hSw; (try dsimp only at hSw); go_simp; first | done | with_reducible rfl)
                    try simp only [Act.put, List.setIfInBounds_toArray, List.set_cons_zero, List.set_cons_succ]
                    refine wpAnyH_take (i := 10) (oi := ⟨some 218, _, _, _, _, _⟩) (v := ?_) rfl (by kernel_rfl) (by kernel_rfl) (by kernel_rfl) (fun _ _ _ h => h) (Or.inl ⟨by rfl, ?_⟩) (by assumption) ?_
                    rotate_left
                    focus (intro w hSw; (try dsimp only at hSw); go_simp; first | done | with_reducible rfl)
                    try simp only [Act.put, List.setIfInBounds_toArray, List.set_cons_zero, List.set_cons_succ]
                    refine wpAnyH_take (i := 11) (oi := ⟨some 219, _, _, _, _, _⟩) (v := ?_) rfl (by kernel_rfl) (by kernel_rfl) (by kernel_rfl) (fun _ _ _ h => h) (Or.inl ⟨by rfl, ?_⟩) (by assumption) ?_
                    rotate_left
                    focus (intro w hSw; (try dsimp only at hSw); go_simp; first | done | with_reducible rfl)
                    try simp only [Act.put, List.setIfInBounds_toArray, List.set_cons_zero, List.set_cons_succ]
                    refine wpAnyH_take (i := 12) (oi := ⟨some 220, _, _, _, _, _⟩) (v := ?_) rfl (by kernel_rfl) (by kernel_rfl) (by kernel_rfl) (fun _ _ _ h => h) (Or.inl ⟨by rfl, ?_⟩) (by assumption) ?_
                    rotate_left
                    focus (intro w hSw; (try dsimp only at hSw); go_simp; first | done | with_reducible rfl)
                    try simp only [Act.put, List.setIfInBounds_toArray, List.set_cons_zero, List.set_cons_succ]
                    refine wpAnyH_take (i := 13) (oi := ⟨some 221, _, _, _, _, _⟩) (v := ?_) rfl (by kernel_rfl) (by kernel_rfl) (by kernel_rfl) (fun _ _ _ h => h) (Or.inl ⟨by rfl, ?_⟩) (by assumption) ?_
                    rotate_left
                    focus (intro w hSw; (try dsimp only at hSw); go_simp; first | done | with_reducible rfl)
                    try simp only [Act.put, List.setIfInBounds_toArray, List.set_cons_zero, List.set_cons_succ]
                    refine wpAnyH_take (i := 14) (oi := ⟨some 222, _, _, _, _, _⟩) (v := ?_) rfl (by kernel_rfl) (by kernel_rfl) (by kernel_rfl) (fun _ _ _ h => h) (Or.inl ⟨by rfl, ?_⟩) (by assumption) ?_
                    rotate_left
                    focus (intro w hSw; (try dsimp only at hSw); go_simp; first | done | with_reducible rfl)
                    try simp only [Act.put, List.setIfInBounds_toArray, List.set_cons_zero, List.set_cons_succ]
                    refine wpAnyH_take (i := 15) (oi := ⟨some 223, _, _, _, _, _⟩) (v := ?_) rfl (by kernel_rfl) (by kernel_rfl) (by kernel_rfl) (fun _ _ _ h => h) (Or.inl ⟨by rfl, ?_⟩) (by assumption) ?_
                    rotate_left
                    focus (intro w hSw; (try dsimp only at hSw); go_simp; first | done | with_reducible rfl)
                    try simp only [Act.put, List.setIfInBounds_toArray, List.set_cons_zero, List.set_cons_succ]
                    refine wpAnyH_take (i := 16) (oi := ⟨some 224, _, _, _, _, _⟩) (v := ?_) rfl (by kernel_rfl) (by kernel_rfl) (by kernel_rfl) (fun _ _ _ h => h) (Or.inl ⟨by rfl, ?_⟩) (by assumption) ?_
                    rotate_left
                    focus (intro w hSw; (try dsimp only at hSw); go_simp; first | done | with_reducible rfl)
                    try simp only [Act.put, List.setIfInBounds_toArray, List.set_cons_zero, List.set_cons_succ]
                    refine wpAnyH_take (i := 17) (oi := ⟨some 225, _, _, _, _, _⟩) (v := ?_) rfl (by kernel_rfl) (by kernel_rfl) (by kernel_rfl) (fun _ _ _ h => h) (Or.inl ⟨by rfl, ?_⟩) (by assumption) ?_
                    rotate_left
                    focus (intro w hSw; (try dsimp only at hSw); go_simp; first | done | with_reducible rfl)
                    try simp only [Act.put, List.setIfInBounds_toArray, List.set_cons_zero, List.set_cons_succ]
                    refine wpAnyH_take (i := 18) (oi := ⟨some 226, _, _, _, _, _⟩) (v := ?_) rfl (by kernel_rfl) (by kernel_rfl) (by kernel_rfl) (fun _ _ _ h => h) (Or.inl ⟨by rfl, ?_⟩) (by assumption) ?_
                    rotate_left
                    focus (intro w hSw; (try dsimp only at hSw); go_simp; first | done | with_reducible rfl)
                    try simp only [Act.put, List.setIfInBounds_toArray, List.set_cons_zero, List.set_cons_succ]
                    refine wpAnyH_take (i := 19) (oi := ⟨some 227, _, _, _, _, _⟩) (v := ?_) rfl (by kernel_rfl) (by kernel_rfl) (by kernel_rfl) (fun _ _ _ h => h) (Or.inl ⟨by rfl, ?_⟩) (by assumption) ?_
                    rotate_left
                    focus (intro w hSw; (try dsimp only at hSw); go_simp; first | done | with_reducible rfl)
                    try simp only [Act.put, List.setIfInBounds_toArray, List.set_cons_zero, List.set_cons_succ]
                    refine wpAnyH_take (i := 20) (oi := ⟨some 228, _, _, _, _, _⟩) (v := ?_) rfl (by kernel_rfl) (by kernel_rfl) (by kernel_rfl) (fun _ _ _ h => h) (Or.inl ⟨by rfl, ?_⟩) (by assumption) ?_
                    rotate_left
                    focus (intro w hSw; (try dsimp only at hSw); go_simp; first | done | with_reducible rfl)
                    try simp only [Act.put, List.setIfInBounds_toArray, List.set_cons_zero, List.set_cons_succ]
                    refine wpAnyH_take (i := 21) (oi := ⟨some 229, _, _, _, _, _⟩) (v := ?_) rfl (by kernel_rfl) (by kernel_rfl) (by kernel_rfl) (fun _ _ _ h => h) (Or.inl ⟨by rfl, ?_⟩) (by assumption) ?_
                    rotate_left
                    focus (intro w hSw; (try dsimp only at hSw); go_simp; first | done | with_reducible rfl)
                    try simp only [Act.put, List.setIfInBounds_toArray, List.set_cons_zero, List.set_cons_succ]
                    refine wpAnyH_take (i := 22) (oi := ⟨some 230, _, _, _, _, _⟩) (v := ?_) rfl (by kernel_rfl) (by kernel_rfl) (by kernel_rfl) (fun _ _ _ h => h) (Or.inl ⟨by rfl, ?_⟩) (by assumption) ?_
                    rotate_left
                    focus (intro w hSw; (try dsimp only at hSw); go_simp; first | done | with_reducible rfl)
                    try simp only [Act.put, List.setIfInBounds_toArray, List.set_cons_zero, List.set_cons_succ]
                    refine wpAnyH_take (i := 23) (oi := ⟨some 231, _, _, _, _, _⟩) (v := ?_) rfl (by kernel_rfl) (by kernel_rfl) (by kernel_rfl) (fun _ _ _ h => h) (Or.inl ⟨by rfl, ?_⟩) (by assumption) ?_
                    rotate_left
                    focus (intro w hSw; (try dsimp only at hSw); go_simp; first | done | with_reducible rfl)
                    try simp only [Act.put, List.setIfInBounds_toArray, List.set_cons_zero, List.set_cons_succ]
                    refine wpAnyH_take (i := 24) (oi := ⟨some 232, _, _, _, _, _⟩) (v := ?_) rfl (by kernel_rfl) (by kernel_rfl) (by kernel_rfl) (fun _ _ _ h => h) (Or.inl ⟨by rfl, ?_⟩) (by assumption) ?_
                    rotate_left
                    focus (intro w hSw; (try dsimp only at hSw); go_simp; first | done | with_reducible rfl)
                    try simp only [Act.put, List.setIfInBounds_toArray, List.set_cons_zero, List.set_cons_succ]
                    refine wpAnyH_take (i := 25) (oi := ⟨some 233, _, _, _, _, _⟩) (v := ?_) rfl (by kernel_rfl) (by kernel_rfl) (by kernel_rfl) (fun _ _ _ h => h) (Or.inl ⟨by rfl, ?_⟩) (by assumption) ?_
                    rotate_left
                    focus (intro w hSw; (try dsimp only at hSw); go_simp; first | done | with_reducible rfl)
                    try simp only [Act.put, List.setIfInBounds_toArray, List.set_cons_zero, List.set_cons_succ]
                    refine wpAnyH_ready (rs := [26]) (by kernel_rfl) (by simp) ?_
                    refine AllReadyH.cons (o := ⟨some 234, _, _, _, _, _⟩) rfl (fun K hK => ?_) AllReadyH.nil
                    go_simp
                    (with_reducible refine (HT.out _ hHeld.1.out).mono ?_); rintro e w3 ⟨rfl, hb⟩
                    go_wp2_with fail
                    refine hK.out _ _ (by exact ⟨Lib.hid (hHeld.1.out.trans (hb.mono hHeld.1.out.size)), keep_cell hb hHeld.2.1, keep_cell hb hHeld.2.2.1, keep_cell hb hHeld.2.2.2.1, keep_cell hb hHeld.2.2.2.2.1, keep_cell hb hHeld.2.2.2.2.2.1, keep_cell hb hHeld.2.2.2.2.2.2.1, keep_cell hb hHeld.2.2.2.2.2.2.2.1, keep_cell hb hHeld.2.2.2.2.2.2.2.2.1, keep_cell hb hHeld.2.2.2.2.2.2.2.2.2.1, keep_cell hb hHeld.2.2.2.2.2.2.2.2.2.2.1, keep_cell hb hHeld.2.2.2.2.2.2.2.2.2.2.2.1, keep_cell hb hHeld.2.2.2.2.2.2.2.2.2.2.2.2.1, keep_cell hb hHeld.2.2.2.2.2.2.2.2.2.2.2.2.2.1, keep_cell hb hHeld.2.2.2.2.2.2.2.2.2.2.2.2.2.2.1, keep_cell hb hHeld.2.2.2.2.2.2.2.2.2.2.2.2.2.2.2.1, keep_cell hb hHeld.2.2.2.2.2.2.2.2.2.2.2.2.2.2.2.2⟩) (fun hNew => ?_)
                    clear hK K
                    clear hHeld hb; have hHeld := hNew; clear hNew
                    try simp only [Act.put, List.setIfInBounds_toArray, List.set_cons_zero, List.set_cons_succ]
                    refine wpAnyH_take (i := 27) (oi := ⟨some 235, _, _, _, _, _⟩) (v := ?_) rfl (by kernel_rfl) (by kernel_rfl) (by kernel_rfl) (fun _ _ _ h => h) (Or.inl ⟨by rfl, ?_⟩) (by assumption) ?_
                    rotate_left
                    focus (intro w hSw; (try dsimp only at hSw); go_simp; first | done | with_reducible rfl)
                    try simp only [Act.put, List.setIfInBounds_toArray, List.set_cons_zero, List.set_cons_succ]
                    refine wpAnyH_take (i := 28) (oi := ⟨some 236, _, _, _, _, _⟩) (v := ?_) rfl (by kernel_rfl) (by kernel_rfl) (by kernel_rfl) (fun _ _ _ h => h) (Or.inl ⟨by rfl, ?_⟩) (by assumption) ?_
                    rotate_left
                    focus (intro w hSw; (try dsimp only at hSw); go_simp; first | done | with_reducible rfl)
                    try simp only [Act.put, List.setIfInBounds_toArray, List.set_cons_zero, List.set_cons_succ]
                    refine wpAnyH_take (i := 29) (oi := ⟨some 237, _, _, _, _, _⟩) (v := ?_) rfl (by kernel_rfl) (by kernel_rfl) (by kernel_rfl) (fun _ _ _ h => h) (Or.inl ⟨by rfl, ?_⟩) (by assumption) ?_
                    rotate_left
                    focus (intro w hSw; (try dsimp only at hSw); go_simp; first | done | with_reducible rfl)
                    try simp only [Act.put, List.setIfInBounds_toArray, List.set_cons_zero, List.set_cons_succ]
                    refine wpAnyH_take (i := 30) (oi := ⟨some 238, _, _, _, _, _⟩) (v := ?_) rfl (by kernel_rfl) (by kernel_rfl) (by kernel_rfl) (fun _ _ _ h => h) (Or.inl ⟨by rfl, ?_⟩) (by assumption) ?_
                    rotate_left
                    focus (intro w hSw; (try dsimp only at hSw); go_simp; first | done | with_reducible rfl)
                    try simp only [Act.put, List.setIfInBounds_toArray, List.set_cons_zero, List.set_cons_succ]
                    refine wpAnyH_take (i := 31) (oi := ⟨some 239, _, _, _, _, _⟩) (v := ?_) rfl (by kernel_rfl) (by kernel_rfl) (by kernel_rfl) (fun _ _ _ h => h) (Or.inl ⟨by rfl, ?_⟩) (by assumption) ?_
                    rotate_left
                    focus (intro w hSw; (try dsimp only at hSw); go_simp; first | done | with_reducible rfl)
                    try simp only [Act.put, List.setIfInBounds_toArray, List.set_cons_zero, List.set_cons_succ]
                    refine wpAnyH_take (i := 32) (oi := ⟨some 240, _, _, _, _, _⟩) (v := ?_) rfl (by kernel_rfl) (by kernel_rfl) (by kernel_rfl) (fun _ _ _ h => h) (Or.inl ⟨by rfl, ?_⟩) (by assumption) ?_
                    rotate_left
                    focus (intro w hSw; (try dsimp only at hSw); go_simp; first | done | with_reducible rfl)
                    try simp only [Act.put, List.setIfInBounds_toArray, List.set_cons_zero, List.set_cons_succ]
                    refine wpAnyH_take (i := 33) (oi := ⟨some 241, _, _, _, _, _⟩) (v := ?_) rfl (by kernel_rfl) (by kernel_rfl) (by kernel_rfl) (fun _ _ _ h => h) (Or.inl ⟨by rfl, ?_⟩) (by assumption) ?_
                    rotate_left
                    focus (intro w hSw; (try dsimp only at hSw); go_simp; first | done | with_reducible rfl)
                    try simp only [Act.put, List.setIfInBounds_toArray, List.set_cons_zero, List.set_cons_succ]
                    refine wpAnyH_take (i := 34) (oi := ⟨some 242, _, _, _, _, _⟩) (v := ?_) rfl (by kernel_rfl) (by kernel_rfl) (by kernel_rfl) (fun _ _ _ h => h) (Or.inl ⟨by rfl, ?_⟩) (by assumption) ?_
                    rotate_left
                    focus (intro w hSw; (try dsimp only at hSw); go_simp; first | done | with_reducible rfl)
                    try simp only [Act.put, List.setIfInBounds_toArray, List.set_cons_zero, List.set_cons_succ]
                    refine wpAnyH_take (i := 35) (oi := ⟨some 243, _, _, _, _, _⟩) (v := ?_) rfl (by kernel_rfl) (by kernel_rfl) (by kernel_rfl) (fun _ _ _ h => h) (Or.inl ⟨by rfl, ?_⟩) (by assumption) ?_
                    rotate_left
                    focus (intro w hSw; (try dsimp only at hSw); go_simp; first | done | with_reducible rfl)
                    try simp only [Act.put, List.setIfInBounds_toArray, List.set_cons_zero, List.set_cons_succ]
                    refine wpAnyH_take (i := 36) (oi := ⟨some 244, _, _, _, _, _⟩) (v := ?_) rfl (by kernel_rfl) (by kernel_rfl) (by kernel_rfl) (fun _ _ _ h => h) (Or.inl ⟨by rfl, ?_⟩) (by assumption) ?_
                    rotate_left
                    focus (intro w hSw; (try dsimp only at hSw); go_simp; first | done | with_reducible rfl)
                    try simp only [Act.put, List.setIfInBounds_toArray, List.set_cons_zero, List.set_cons_succ]
                    refine wpAnyH_take (i := 37) (oi := ⟨some 245, _, _, _, _, _⟩) (v := ?_) rfl (by kernel_rfl) (by kernel_rfl) (by kernel_rfl) (fun _ _ _ h => h) (Or.inl ⟨by rfl, ?_⟩) (by assumption) ?_
                    rotate_left
                    focus (intro w hSw; (try dsimp only at hSw); go_simp; first | done | with_reducible rfl)
                    try simp only [Act.put, List.setIfInBounds_toArray, List.set_cons_zero, List.set_cons_succ]
                    refine wpAnyH_take (i := 38) (oi := ⟨some 246, _, _, _, _, _⟩) (v := ?_) rfl (by kernel_rfl) (by kernel_rfl) (by kernel_rfl) (fun _ _ _ h => h) (Or.inl ⟨by rfl, ?_⟩) (by assumption) ?_
                    rotate_left
                    focus (intro w hSw; (try dsimp only at hSw); go_simp; first | done | with_reducible rfl)
                    try simp only [Act.put, List.setIfInBounds_toArray, List.set_cons_zero, List.set_cons_succ]
                    refine wpAnyH_take (i := 39) (oi := ⟨some 247, _, _, _, _, _⟩) (v := ?_) rfl (by kernel_rfl) (by kernel_rfl) (by kernel_rfl) (fun _ _ _ h => h) (Or.inl ⟨by rfl, ?_⟩) (by assumption) ?_
                    rotate_left
                    focus (intro w hSw; (try dsimp only at hSw); go_simp; first | done | with_reducible rfl)
                    try simp only [Act.put, List.setIfInBounds_toArray, List.set_cons_zero, List.set_cons_succ]
                    refine wpAnyH_take (i := 40) (oi := ⟨some 248, _, _, _, _, _⟩) (v := ?_) rfl (by kernel_rfl) (by kernel_rfl) (by kernel_rfl) (fun _ _ _ h => h) (Or.inl ⟨by rfl, ?_⟩) (by assumption) ?_
                    rotate_left
                    focus (intro w hSw; (try dsimp only at hSw); go_simp; first | done | with_reducible rfl)
                    try simp only [Act.put, List.setIfInBounds_toArray, List.set_cons_zero, List.set_cons_succ]
                    refine wpAnyH_take (i := 41) (oi := ⟨some 249, _, _, _, _, _⟩) (v := ?_) rfl (by kernel_rfl) (by kernel_rfl) (by kernel_rfl) (fun _ _ _ h => h) (Or.inl ⟨by rfl, ?_⟩) (by assumption) ?_
                    rotate_left
                    focus (intro w hSw; (try dsimp only at hSw); go_simp; first | done | with_reducible rfl)
                    try simp only [Act.put, List.setIfInBounds_toArray, List.set_cons_zero, List.set_cons_succ]
                    refine wpAnyH_ready (rs := [42]) (by kernel_rfl) (by simp) ?_
                    refine AllReadyH.cons (o := ⟨some 250, _, _, _, _, _⟩) rfl (fun K hK => ?_) AllReadyH.nil
                    go_simp
                    (with_reducible refine (HU.out _ hHeld.1.out).mono ?_); rintro e w3 ⟨rfl, hb⟩
                    go_wp2_with fail
                    refine hK.out _ _ (by exact ⟨Lib.hid (hHeld.1.out.trans (hb.mono hHeld.1.out.size)), keep_cell hb hHeld.2.1, keep_cell hb hHeld.2.2.1, keep_cell hb hHeld.2.2.2.1, keep_cell hb hHeld.2.2.2.2.1, keep_cell hb hHeld.2.2.2.2.2.1, keep_cell hb hHeld.2.2.2.2.2.2.1, keep_cell hb hHeld.2.2.2.2.2.2.2.1, keep_cell hb hHeld.2.2.2.2.2.2.2.2.1, keep_cell hb hHeld.2.2.2.2.2.2.2.2.2.1, keep_cell hb hHeld.2.2.2.2.2.2.2.2.2.2.1, keep_cell hb hHeld.2.2.2.2.2.2.2.2.2.2.2.1, keep_cell hb hHeld.2.2.2.2.2.2.2.2.2.2.2.2.1, keep_cell hb hHeld.2.2.2.2.2.2.2.2.2.2.2.2.2.1, keep_cell hb hHeld.2.2.2.2.2.2.2.2.2.2.2.2.2.2.1, keep_cell hb hHeld.2.2.2.2.2.2.2.2.2.2.2.2.2.2.2.1, keep_cell hb hHeld.2.2.2.2.2.2.2.2.2.2.2.2.2.2.2.2⟩) (fun hNew => ?_)
                    clear hK K
                    clear hHeld hb; have hHeld := hNew; clear hNew
                    try simp only [Act.put, List.setIfInBounds_toArray, List.set_cons_zero, List.set_cons_succ]
                    refine wpAnyH_take (i := 43) (oi := ⟨some 251, _, _, _, _, _⟩) (v := ?_) rfl (by kernel_rfl) (by kernel_rfl) (by kernel_rfl) (fun _ _ _ h => h) (Or.inl ⟨by rfl, ?_⟩) (by assumption) ?_
                    rotate_left
                    focus (intro w hSw; (try dsimp only at hSw); go_simp; first | done | with_reducible rfl)
                    try simp only [Act.put, List.setIfInBounds_toArray, List.set_cons_zero, List.set_cons_succ]
                    refine wpAnyH_take (i := 44) (oi := ⟨some 252, _, _, _, _, _⟩) (v := ?_) rfl (by kernel_rfl) (by kernel_rfl) (by kernel_rfl) (fun _ _ _ h => h) (Or.inl ⟨by rfl, ?_⟩) (by assumption) ?_
                    rotate_left
                    focus (intro w hSw; (try dsimp only at hSw); go_simp; first | done | with_reducible rfl)
                    try simp only [Act.put, List.setIfInBounds_toArray, List.set_cons_zero, List.set_cons_succ]
                    refine wpAnyH_done (by kernel_rfl) ?_ _
                    have HQ := Lib.hid (HB3.out.trans (hHeld.1.out.mono HB3.out.size))
                    clear hHeld
                    go_wp2
                    go_roundw
                    case rel => exact ⟨k + 1, by omega, by go_num, HQ.out⟩
                    case measure => simp [intOf]; omega
                · obtain rfl : k = l3.length := by omega
                  generalize hwx : wr = w3x at *
                  clear hwx
                  go_wp2
                  go_loopw [12] (fun i wr => ∃ k : Nat, k ≤ l4.length ∧ i = .int .i64 k ∧ Below W2.heap.size W2 wr) (fun i _ => l4.length - (intOf i).toNat)
                  case atStart => exact ⟨0, Nat.zero_le _, rfl, HB3.out⟩
                  case round =>
                    obtain ⟨k, hk, rfl, hB⟩ := hrel
                    have HB4 := Lib.hid hB
                    have hzr := hB.size
                    have xa : wr.cell? ⟨w.heap.size, 4, none⟩ = some (.slice q4 l4.length k4) := hb_at (hb_below C0.out hB (by omega)) 4 rfl
                    by_cases hlt : k < l4.length
                    · have xb : wr.cell? ⟨w.heap.size + 1, 4, none⟩ = some (.slice r4 l4.length j4) := hb_at (hb_below C1.out hB (by omega)) 4 rfl
                      obtain ⟨_, _, E1, hp⟩ := P4.out.below hB
                      obtain ⟨_, _, E2, hq⟩ := Q4.out.below hB
                      cases E1
                      cases E2
                      obtain ⟨b1, o1, cs1, e1, _, ha1, hv1⟩ := hp k l4[k] (List.getElem?_eq_getElem hlt)
                      obtain ⟨b2, o2, cs2, e2, _, ha2, hv2⟩ := hq k l4[k] (List.getElem?_eq_getElem hlt)
                      subst e1 e2
                      clear hp hq
                      generalize l4[k] = x at *
                      have hki : (k : Int) < (l4.length : Int) := by omega
                      obtain ⟨pv1, rfl, _, hpv1, hpl⟩ := hv1
                      obtain ⟨pv2, rfl, _, hpv2, _⟩ := hv2
                      obtain ⟨pq1, pq1c, rfl⟩ : ∃ q c, pv1 = .slice q x.ann.length c := let ⟨q, c, h, _⟩ := hpv1; ⟨q, c, h⟩
                      obtain ⟨pq2, pq2c, rfl⟩ : ∃ q c, pv2 = .slice q x.ann.length c := let ⟨q, c, h, _⟩ := hpv2; ⟨q, c, h⟩
                      have x10 := ha1 0 _ rfl
                      change wr.cell? ⟨b1, o1 + k * 3, none⟩ = _ at x10
                      have x11 := ha1 1 _ rfl
                      change wr.cell? ⟨b1, o1 + k * 3 + 1, none⟩ = _ at x11
                      have x12 := ha1 2 _ rfl
                      change wr.cell? ⟨b1, o1 + k * 3 + 2, none⟩ = _ at x12
                      have x20 := ha2 0 _ rfl
                      change wr.cell? ⟨b2, o2 + k * 3, none⟩ = _ at x20
                      have x21 := ha2 1 _ rfl
                      change wr.cell? ⟨b2, o2 + k * 3 + 1, none⟩ = _ at x21
                      have x22 := ha2 2 _ rfl
                      change wr.cell? ⟨b2, o2 + k * 3 + 2, none⟩ = _ at x22
                      clear ha1 ha2
                      have HT : RowKit.Hid (∀ W, Below wr.heap.size wr W → Calls Tryz.prog 20 #[.slice pq1 x.ann.length pq1c, .slice pq2 x.ann.length pq2c] W fun e w' => e = .returned (.bool true) ∧ Below W.heap.size W w') :=
                        Lib.hid fun W hW => terms_same _ _ _ _ _ _ (hpv1.below hW) (hpv2.below hW) hpl
                      clear hpv1 hpv2
                      clear hB
                      go_wp2
                      refine wp_region_held_drew (S := (fun w' => RowKit.Hid (Below wr.heap.size wr w') ∧ w'.cell? ⟨w.heap.size, 4, none⟩ = some (.slice (some ⟨b1, o1, none⟩) l4.length k4) ∧ w'.cell? ⟨w.heap.size + 1, 4, none⟩ = some (.slice (some ⟨b2, o2, none⟩) l4.length j4) ∧ w'.cell? ⟨b1, o1 + k * 3, none⟩ = some (.bool x.ty) ∧ w'.cell? ⟨b1, o1 + k * 3 + 1, none⟩ = some (.string x.n) ∧ w'.cell? ⟨b1, o1 + k * 3 + 2, none⟩ = some (.slice pq1 x.ann.length pq1c) ∧ w'.cell? ⟨b2, o2 + k * 3, none⟩ = some (.bool x.ty) ∧ w'.cell? ⟨b2, o2 + k * 3 + 1, none⟩ = some (.string x.n) ∧ w'.cell? ⟨b2, o2 + k * 3 + 2, none⟩ = some (.slice pq2 x.ann.length pq2c))) (by kernel_rfl) (by exact ⟨Lib.hid (below_drewN (Below.refl _ _) 1), xa, xb, x10, x11, x12, x20, x21, x22⟩) (fun hHeld => ?_)
                      refine wpAnyH_take (i := 0) (oi := ⟨some 260, _, _, _, _, _⟩) (v := ?_) rfl (by kernel_rfl) (by kernel_rfl) (by kernel_rfl) (fun _ _ _ h => h) (Or.inl ⟨by rfl, ?_⟩) (by assumption) ?_
                      rotate_left
                      focus (intro w hSw; (try dsimp only at hSw); go_simp; first | done | with_reducible rfl)
                      try simp only [Act.put, List.setIfInBounds_toArray, List.set_cons_zero, List.set_cons_succ]
                      refine wpAnyH_take (i := 1) (oi := ⟨some 261, _, _, _, _, _⟩) (v := ?_) rfl (by kernel_rfl) (by kernel_rfl) (by kernel_rfl) (fun _ _ _ h => h) (Or.inl ⟨by rfl, ?_⟩) (by assumption) ?_
                      rotate_left
                      focus (intro w hSw; (try dsimp only at hSw); go_simp; first | done | with_reducible rfl)
                      try simp only [Act.put, List.setIfInBounds_toArray, List.set_cons_zero, List.set_cons_succ]
                      refine wpAnyH_take (i := 2) (oi := ⟨some 262, _, _, _, _, _⟩) (v := ?_) rfl (by kernel_rfl) (by kernel_rfl) (by kernel_rfl) (fun _ _ _ h => h) (Or.inl ⟨by rfl, ?_⟩) (by assumption) ?_
                      rotate_left
                      focus (intro w hSw; (try dsimp only at hSw); go_simp; first | done | with_reducible rfl)
                      try simp only [Act.put, List.setIfInBounds_toArray, List.set_cons_zero, List.set_cons_succ]
                      refine wpAnyH_take (i := 3) (oi := ⟨some 263, _, _, _, _, _⟩) (v := ?_) rfl (by kernel_rfl) (by kernel_rfl) (by kernel_rfl) (fun _ _ _ h => h) (Or.inl ⟨by rfl, ?_⟩) (by assumption) ?_
                      rotate_left
                      focus (intro w hSw; (try dsimp only at hSw); go_simp; first | done | with_reducible rfl)
                      try simp only [Act.put, List.setIfInBounds_toArray, List.set_cons_zero, List.set_cons_succ]
                      refine wpAnyH_take (i := 4) (oi := ⟨some 264, _, _, _, _, _⟩) (v := ?_) rfl (by kernel_rfl) (by kernel_rfl) (by kernel_rfl) (fun _ _ _ h => h) (Or.inl ⟨by rfl, ?_⟩) (by assumption) ?_
                      rotate_left
                      focus (intro w hSw; (try dsimp only at hSw); go_simp; first | done | with_reducible rfl)
                      try simp only [Act.put, List.setIfInBounds_toArray, List.set_cons_zero, List.set_cons_succ]
                      refine wpAnyH_take (i := 5) (oi := ⟨some 265, _, _, _, _, _⟩) (v := ?_) rfl (by kernel_rfl) (by kernel_rfl) (by kernel_rfl) (fun _ _ _ h => h) (Or.inl ⟨by rfl, ?_⟩) (by assumption) ?_
                      rotate_left
                      focus (intro w hSw; (try dsimp only at hSw); go_simp; first | done | with_reducible rfl)
                      try simp only [Act.put, List.setIfInBounds_toArray, List.set_cons_zero, List.set_cons_succ]
                      refine wpAnyH_take (i := 6) (oi := ⟨some 266, _, _, _, _, _⟩) (v := ?_) rfl (by kernel_rfl) (by kernel_rfl) (by kernel_rfl) (fun _ _ _ h => h) (Or.inl ⟨by rfl, ?_⟩) (by assumption) ?_
                      rotate_left
                      focus (intro w hSw; (try dsimp only at hSw); go_simp; first | done | with_reducible rfl)
                      try simp only [Act.put, List.setIfInBounds_toArray, List.set_cons_zero, List.set_cons_succ]
                      refine wpAnyH_take (i := 7) (oi := ⟨some 267, _, _, _, _, _⟩) (v := ?_) rfl (by kernel_rfl) (by kernel_rfl) (by kernel_rfl) (fun _ _ _ h => h) (Or.inl ⟨by rfl, ?_⟩) (by assumption) ?_
                      rotate_left
                      focus (intro w hSw; (try dsimp only at hSw); go_simp; first | done | with_reducible rfl)
                      try simp only [Act.put, List.setIfInBounds_toArray, List.set_cons_zero, List.set_cons_succ]
                      refine wpAnyH_take (i := 8) (oi := ⟨some 268, _, _, _, _, _⟩) (v := ?_) rfl (by kernel_rfl) (by kernel_rfl) (by kernel_rfl) (fun _ _ _ h => h) (Or.inl ⟨by rfl, ?_⟩) (by assumption) ?_
                      rotate_left
                      focus (intro w hSw; (try dsimp only at hSw); go_simp; first | done | with_reducible rfl)
                      try simp only [Act.put, List.setIfInBounds_toArray, List.set_cons_zero, List.set_cons_succ]
                      refine wpAnyH_take (i := 9) (oi := ⟨some 269, _, _, _, _, _⟩) (v := ?_) rfl (by kernel_rfl) (by kernel_rfl) (by kernel_rfl) (fun _ _ _ h => h) (Or.inl ⟨by rfl, ?_⟩) (by assumption) ?_
                      rotate_left
                      focus (intro w hSw; (try dsimp only at hSw); go_simp; first | done | with_reducible rfl)
                      try simp only [Act.put, List.setIfInBounds_toArray, List.set_cons_zero, List.set_cons_succ]
                      refine wpAnyH_take (i := 10) (oi := ⟨some 270, _, _, _, _, _⟩) (v := ?_) rfl (by kernel_rfl) (by kernel_rfl) (by kernel_rfl) (fun _ _ _ h => h) (Or.inl ⟨by rfl, ?_⟩) (by assumption) ?_
                      rotate_left
                      focus (intro w hSw; (try dsimp only at hSw); go_simp; first | done | with_reducible rfl)
                      try simp only [Act.put, List.setIfInBounds_toArray, List.set_cons_zero, List.set_cons_succ]
                      refine wpAnyH_take (i := 11) (oi := ⟨some 271, _, _, _, _, _⟩) (v := ?_) rfl (by kernel_rfl) (by kernel_rfl) (by kernel_rfl) (fun _ _ _ h => h) (Or.inl ⟨by rfl, ?_⟩) (by assumption) ?_
                      rotate_left
                      focus (intro w hSw; (try dsimp only at hSw); go_simp; first | done | with_reducible rfl)
                      try simp only [Act.put, List.setIfInBounds_toArray, List.set_cons_zero, List.set_cons_succ]
                      refine wpAnyH_take (i := 12) (oi := ⟨some 272, _, _, _, _, _⟩) (v := ?_) rfl (by kernel_rfl) (by kernel_rfl) (by kernel_rfl) (fun _ _ _ h => h) (Or.inl ⟨by rfl, ?_⟩) (by assumption) ?_
                      rotate_left
                      focus (intro w hSw; (try dsimp only at hSw); go_simp; first | done | with_reducible rfl)
                      try simp only [Act.put, List.setIfInBounds_toArray, List.set_cons_zero, List.set_cons_succ]
                      refine wpAnyH_take (i := 13) (oi := ⟨some 273, _, _, _, _, _⟩) (v := ?_) rfl (by kernel_rfl) (by kernel_rfl) (by kernel_rfl) (fun _ _ _ h => h) (Or.inl ⟨by rfl, ?_⟩) (by assumption) ?_
                      rotate_left
                      focus (intro w hSw; (try dsimp only at hSw); go_simp; first | done | with_reducible rfl)
                      try simp only [Act.put, List.setIfInBounds_toArray, List.set_cons_zero, List.set_cons_succ]
                      refine wpAnyH_take (i := 14) (oi := ⟨some 274, _, _, _, _, _⟩) (v := ?_) rfl (by kernel_rfl) (by kernel_rfl) (by kernel_rfl) (fun _ _ _ h => h) (Or.inl ⟨by rfl, ?_⟩) (by assumption) ?_
                      rotate_left
                      focus (intro w hSw; (try dsimp only at hSw); go_simp; first | done | with_reducible rfl)
                      try simp only [Act.put, List.setIfInBounds_toArray, List.set_cons_zero, List.set_cons_succ]
                      refine wpAnyH_take (i := 15) (oi := ⟨some 275, _, _, _, _, _⟩) (v := ?_) rfl (by kernel_rfl) (by kernel_rfl) (by kernel_rfl) (fun _ _ _ h => h) (Or.inl ⟨by rfl, ?_⟩) (by assumption) ?_
                      rotate_left
                      focus (intro w hSw; (try dsimp only at hSw); go_simp; first | done | with_reducible rfl)
                      try simp only [Act.put, List.setIfInBounds_toArray, List.set_cons_zero, List.set_cons_succ]
                      refine wpAnyH_take (i := 16) (oi := ⟨some 276, _, _, _, _, _⟩) (v := ?_) rfl (by kernel_rfl) (by kernel_rfl) (by kernel_rfl) (fun _ _ _ h => h) (Or.inl ⟨by rfl, ?_⟩) (by assumption) ?_
                      rotate_left
                      focus (intro w hSw; (try dsimp only at hSw); go_simp; first | done | with_reducible rfl)
                      try simp only [Act.put, List.setIfInBounds_toArray, List.set_cons_zero, List.set_cons_succ]
                      refine wpAnyH_take (i := 17) (oi := ⟨some 277, _, _, _, _, _⟩) (v := ?_) rfl (by kernel_rfl) (by kernel_rfl) (by kernel_rfl) (fun _ _ _ h => h) (Or.inl ⟨by rfl, ?_⟩) (by assumption) ?_
                      rotate_left
                      focus (intro w hSw; (try dsimp only at hSw); go_simp; first | done | with_reducible rfl)
                      try simp only [Act.put, List.setIfInBounds_toArray, List.set_cons_zero, List.set_cons_succ]
                      refine wpAnyH_take (i := 18) (oi := ⟨some 278, _, _, _, _, _⟩) (v := ?_) rfl (by kernel_rfl) (by kernel_rfl) (by kernel_rfl) (fun _ _ _ h => h) (Or.inl ⟨by rfl, ?_⟩) (by assumption) ?_
                      rotate_left
                      focus (intro w hSw; (try dsimp only at hSw); go_simp; first | done | with_reducible rfl)
                      try simp only [Act.put, List.setIfInBounds_toArray, List.set_cons_zero, List.set_cons_succ]
                      refine wpAnyH_take (i := 19) (oi := ⟨some 279, _, _, _, _, _⟩) (v := ?_) rfl (by kernel_rfl) (by kernel_rfl) (by kernel_rfl) (fun _ _ _ h => h) (Or.inl ⟨by rfl, ?_⟩) (by assumption) ?_
                      rotate_left
                      focus (intro w hSw; (try dsimp only at hSw); go_simp; first | done | with_reducible rfl)
                      try simp only [Act.put, List.setIfInBounds_toArray, List.set_cons_zero, List.set_cons_succ]
                      refine wpAnyH_take (i := 20) (oi := ⟨some 280, _, _, _, _, _⟩) (v := ?_) rfl (by kernel_rfl) (by kernel_rfl) (by kernel_rfl) (fun _ _ _ h => h) (Or.inl ⟨by rfl, ?_⟩) (by assumption) ?_
                      rotate_left
                      focus (intro w hSw; (try dsimp only at hSw); go_simp; first | done | with_reducible rfl)
                      try simp only [Act.put, List.setIfInBounds_toArray, List.set_cons_zero, List.set_cons_succ]
                      refine wpAnyH_take (i := 21) (oi := ⟨some 281, _, _, _, _, _⟩) (v := ?_) rfl (by kernel_rfl) (by kernel_rfl) (by kernel_rfl) (fun _ _ _ h => h) (Or.inl ⟨by rfl, ?_⟩) (by assumption) ?_
                      rotate_left
                      focus (intro w hSw; (try dsimp only at hSw); go_simp; first | done | with_reducible rfl)
                      try simp only [Act.put, List.setIfInBounds_toArray, List.set_cons_zero, List.set_cons_succ]
                      refine wpAnyH_take (i := 22) (oi := ⟨some 282, _, _, _, _, _⟩) (v := ?_) rfl (by kernel_rfl) (by kernel_rfl) (by kernel_rfl) (fun _ _ _ h => h) (Or.inl ⟨by rfl, ?_⟩) (by assumption) ?_
                      rotate_left
                      focus (intro w hSw; (try dsimp only at hSw); go_simp; first | done | with_reducible rfl)
                      try simp only [Act.put, List.setIfInBounds_toArray, List.set_cons_zero, List.set_cons_succ]
                      refine wpAnyH_take (i := 23) (oi := ⟨some 283, _, _, _, _, _⟩) (v := ?_) rfl (by kernel_rfl) (by kernel_rfl) (by kernel_rfl) (fun _ _ _ h => h) (Or.inl ⟨by rfl, ?_⟩) (by assumption) ?_
                      rotate_left
                      focus (intro w hSw; (try dsimp only at hSw); go_simp; first | done | with_reducible rfl)
                      try simp only [Act.put, List.setIfInBounds_toArray, List.set_cons_zero, List.set_cons_succ]
                      refine wpAnyH_take (i := 24) (oi := ⟨some 284, _, _, _, _, _⟩) (v := ?_) rfl (by kernel_rfl) (by kernel_rfl) (by kernel_rfl) (fun _ _ _ h => h) (Or.inl ⟨by rfl, ?_⟩) (by assumption) ?_
                      rotate_left
                      focus (intro w hSw; (try dsimp only at hSw); go_simp; first | done | with_reducible rfl)
                      try simp only [Act.put, List.setIfInBounds_toArray, List.set_cons_zero, List.set_cons_succ]
                      refine wpAnyH_take (i := 25) (oi := ⟨some 285, _, _, _, _, _⟩) (v := ?_) rfl (by kernel_rfl) (by kernel_rfl) (by kernel_rfl) (fun _ _ _ h => h) (Or.inl ⟨by rfl, ?_⟩) (by assumption) ?_
                      rotate_left
                      focus (intro w hSw; (try dsimp only at hSw); go_simp; first | done | with_reducible rfl)
                      try simp only [Act.put, List.setIfInBounds_toArray, List.set_cons_zero, List.set_cons_succ]
                      refine wpAnyH_take (i := 26) (oi := ⟨some 286, _, _, _, _, _⟩) (v := ?_) rfl (by kernel_rfl) (by kernel_rfl) (by kernel_rfl) (fun _ _ _ h => h) (Or.inl ⟨by rfl, ?_⟩) (by assumption) ?_
                      rotate_left
                      focus (intro w hSw; (try dsimp only at hSw); go_simp; first | done | with_reducible rfl)
                      try simp only [Act.put, List.setIfInBounds_toArray, List.set_cons_zero, List.set_cons_succ]
                      refine wpAnyH_take (i := 27) (oi := ⟨some 287, _, _, _, _, _⟩) (v := ?_) rfl (by kernel_rfl) (by kernel_rfl) (by kernel_rfl) (fun _ _ _ h => h) (Or.inl ⟨by rfl, ?_⟩) (by assumption) ?_
                      rotate_left
                      focus (intro w hSw; (try dsimp only at hSw); go_simp; first | done | with_reducible rfl)
                      try simp only [Act.put, List.setIfInBounds_toArray, List.set_cons_zero, List.set_cons_succ]
                      refine wpAnyH_take (i := 28) (oi := ⟨some 288, _, _, _, _, _⟩) (v := ?_) rfl (by kernel_rfl) (by kernel_rfl) (by kernel_rfl) (fun _ _ _ h => h) (Or.inl ⟨by rfl, ?_⟩) (by assumption) ?_
                      rotate_left
                      focus (intro w hSw; (try dsimp only at hSw); go_simp; first | done | with_reducible rfl)
                      try simp only [Act.put, List.setIfInBounds_toArray, List.set_cons_zero, List.set_cons_succ]
                      refine wpAnyH_take (i := 29) (oi := ⟨some 289, _, _, _, _, _⟩) (v := ?_) rfl (by kernel_rfl) (by kernel_rfl) (by kernel_rfl) (fun _ _ _ h => h) (Or.inl ⟨by rfl, ?_⟩) (by assumption) ?_
                      rotate_left
                      focus (intro w hSw; (try dsimp only at hSw); go_simp; first | done | with_reducible rfl)
                      try simp only [Act.put, List.setIfInBounds_toArray, List.set_cons_zero, List.set_cons_succ]
                      refine wpAnyH_take (i := 30) (oi := ⟨some 290, _, _, _, _, _⟩) (v := ?_) rfl (by kernel_rfl) (by kernel_rfl) (by kernel_rfl) (fun _ _ _ h => h) (Or.inl ⟨by rfl, ?_⟩) (by assumption) ?_
                      rotate_left
                      focus (intro w hSw; (try dsimp only at hSw); go_simp; first | done | with_reducible rfl)
                      try simp only [Act.put, List.setIfInBounds_toArray, List.set_cons_zero, List.set_cons_succ]
                      refine wpAnyH_take (i := 31) (oi := ⟨some 291, _, _, _, _, _⟩) (v := ?_) rfl (by kernel_rfl) (by kernel_rfl) (by kernel_rfl) (fun _ _ _ h => h) (Or.inl ⟨by rfl, ?_⟩) (by assumption) ?_
                      rotate_left
                      focus (intro w hSw; (try dsimp only at hSw); go_simp; first | done | with_reducible rfl)
                      try simp only [Act.put, List.setIfInBounds_toArray, List.set_cons_zero, List.set_cons_succ]
                      refine wpAnyH_take (i := 32) (oi := ⟨some 292, _, _, _, _, _⟩) (v := ?_) rfl (by kernel_rfl) (by kernel_rfl) (by kernel_rfl) (fun _ _ _ h => h) (Or.inl ⟨by rfl, ?_⟩) (by assumption) ?_
                      rotate_left
                      focus (intro w hSw; (try dsimp only at hSw); go_simp; first | done | with_reducible rfl)
                      try simp only [Act.put, List.setIfInBounds_toArray, List.set_cons_zero, List.set_cons_succ]
                      refine wpAnyH_take (i := 33) (oi := ⟨some 293, _, _, _, _, _⟩) (v := ?_) rfl (by kernel_rfl) (by kernel_rfl) (by kernel_rfl) (fun _ _ _ h => h) (Or.inl ⟨by rfl, ?_⟩) (by assumption) ?_
                      rotate_left
                      focus (intro w hSw; (try dsimp only at hSw); go_simp; first | done | with_reducible rfl)
                      try simp only [Act.put, List.setIfInBounds_toArray, List.set_cons_zero, List.set_cons_succ]
                      refine wpAnyH_take (i := 34) (oi := ⟨some 294, _, _, _, _, _⟩) (v := ?_) rfl (by kernel_rfl) (by kernel_rfl) (by kernel_rfl) (fun _ _ _ h => h) (Or.inl ⟨by rfl, ?_⟩) (by assumption) ?_
                      rotate_left
                      focus (intro w hSw; (try dsimp only at hSw); go_simp; first | done | with_reducible rfl)
                      try simp only [Act.put, List.setIfInBounds_toArray, List.set_cons_zero, List.set_cons_succ]
                      refine wpAnyH_take (i := 35) (oi := ⟨some 295, _, _, _, _, _⟩) (v := ?_) rfl (by kernel_rfl) (by kernel_rfl) (by kernel_rfl) (fun _ _ _ h => h) (Or.inl ⟨by rfl, ?_⟩) (by assumption) ?_
                      rotate_left
                      focus (intro w hSw; (try dsimp only at hSw); go_simp; first | done | with_reducible rfl)
                      try simp only [Act.put, List.setIfInBounds_toArray, List.set_cons_zero, List.set_cons_succ]
                      refine wpAnyH_take (i := 36) (oi := ⟨some 296, _, _, _, _, _⟩) (v := ?_) rfl (by kernel_rfl) (by kernel_rfl) (by kernel_rfl) (fun _ _ _ h => h) (Or.inl ⟨by rfl, ?_⟩) (by assumption) ?_
                      rotate_left
                      focus (intro w hSw; (try dsimp only at hSw); go_simp; first | done | with_reducible rfl)
                      try simp only [Act.put, List.setIfInBounds_toArray, List.set_cons_zero, List.set_cons_succ]
                      refine wpAnyH_take (i := 37) (oi := ⟨some 297, _, _, _, _, _⟩) (v := ?_) rfl (by kernel_rfl) (by kernel_rfl) (by kernel_rfl) (fun _ _ _ h => h) (Or.inl ⟨by rfl, ?_⟩) (by assumption) ?_
                      rotate_left
                      focus (intro w hSw; (try dsimp only at hSw); go_simp; first | done | with_reducible rfl)
                      try simp only [Act.put, List.setIfInBounds_toArray, List.set_cons_zero, List.set_cons_succ]
                      refine wpAnyH_take (i := 38) (oi := ⟨some 298, _, _, _, _, _⟩) (v := ?_) rfl (by kernel_rfl) (by kernel_rfl) (by kernel_rfl) (fun _ _ _ h => h) (Or.inl ⟨by rfl, ?_⟩) (by assumption) ?_
                      rotate_left
                      focus (intro w hSw; (try dsimp only at hSw); go_simp; first | done | with_reducible rfl)
                      try simp only [Act.put, List.setIfInBounds_toArray, List.set_cons_zero, List.set_cons_succ]
                      refine wpAnyH_take (i := 39) (oi := ⟨some 299, _, _, _, _, _⟩) (v := ?_) rfl (by kernel_rfl) (by kernel_rfl) (by kernel_rfl) (fun _ _ _ h => h) (Or.inl ⟨by rfl, ?_⟩) (by assumption) ?_
                      rotate_left
                      focus (intro w hSw; (try dsimp only at hSw); go_simp; first | done | with_reducible rfl)
                      try simp only [Act.put, List.setIfInBounds_toArray, List.set_cons_zero, List.set_cons_succ]
                      refine wpAnyH_take (i := 40) (oi := ⟨some 300, _, _, _, _, _⟩) (v := ?_) rfl (by kernel_rfl) (by kernel_rfl) (by kernel_rfl) (fun _ _ _ h => h) (Or.inl ⟨by rfl, ?_⟩) (by assumption) ?_
                      rotate_left
                      focus (intro w hSw; (try dsimp only at hSw); go_simp; first | done | with_reducible rfl)
                      try simp only [Act.put, List.setIfInBounds_toArray, List.set_cons_zero, List.set_cons_succ]
                      refine wpAnyH_ready (rs := [41]) (by kernel_rfl) (by simp) ?_
                      refine AllReadyH.cons (o := ⟨some 301, _, _, _, _, _⟩) rfl (fun K hK => ?_) AllReadyH.nil
                      go_simp
                      (with_reducible refine (HT.out _ hHeld.1.out).mono ?_); rintro e w3 ⟨rfl, hb⟩
                      go_wp2_with fail
                      refine hK.out _ _ (by exact ⟨Lib.hid (hHeld.1.out.trans (hb.mono hHeld.1.out.size)), keep_cell hb hHeld.2.1, keep_cell hb hHeld.2.2.1, keep_cell hb hHeld.2.2.2.1, keep_cell hb hHeld.2.2.2.2.1, keep_cell hb hHeld.2.2.2.2.2.1, keep_cell hb hHeld.2.2.2.2.2.2.1, keep_cell hb hHeld.2.2.2.2.2.2.2.1, keep_cell hb hHeld.2.2.2.2.2.2.2.2⟩) (fun hNew => ?_)
                      clear hK K
                      clear hHeld hb; have hHeld := hNew; clear hNew
                      try simp only [Act.put, List.setIfInBounds_toArray, List.set_cons_zero, List.set_cons_succ]
                      refine wpAnyH_take (i := 42) (oi := ⟨some 302, _, _, _, _, _⟩) (v := ?_) rfl (by kernel_rfl) (by kernel_rfl) (by kernel_rfl) (fun _ _ _ h => h) (Or.inl ⟨by rfl, ?_⟩) (by assumption) ?_
                      rotate_left
                      focus (intro w hSw; (try dsimp only at hSw); go_simp; first | done | with_reducible rfl)
                      try simp only [Act.put, List.setIfInBounds_toArray, List.set_cons_zero, List.set_cons_succ]
                      refine wpAnyH_take (i := 43) (oi := ⟨some 303, _, _, _, _, _⟩) (v := ?_) rfl (by kernel_rfl) (by kernel_rfl) (by kernel_rfl) (fun _ _ _ h => h) (Or.inl ⟨by rfl, ?_⟩) (by assumption) ?_
                      rotate_left
                      focus (intro w hSw; (try dsimp only at hSw); go_simp; first | done | with_reducible rfl)
                      try simp only [Act.put, List.setIfInBounds_toArray, List.set_cons_zero, List.set_cons_succ]
                      refine wpAnyH_done (by kernel_rfl) ?_ _
                      have HQ := Lib.hid (HB4.out.trans (hHeld.1.out.mono HB4.out.size))
                      clear hHeld
                      go_wp2
                      go_roundw
                      case rel => exact ⟨k + 1, by omega, by go_num, HQ.out⟩
                      case measure => simp [intOf]; omega
                    · obtain rfl : k = l4.length := by omega
                      generalize hwx : wr = w4x at *
                      clear hwx
                      go_wp2
                      go_ret
                      exact ⟨rfl, HBW.out.trans (HB4.out.mono HBW.out.size)⟩
end Go.Proofs.YtlbnaddgdgbckaaGreatDoor
