/- Texts in a row: T3 T4 T5. -/
import Derived.Test.YthcpmdgdbceeiaaGreatDoorZ1
import Derived.Deep.RegionHeld3
import Derived.Outline
import Derived.Deep.DeepCutAuto
/- Same, of the document. -/
namespace Go.Proofs.YthcpmdgdbceeiaaGreatDoor
open Go.RowKit
set_option maxRecDepth 100000 in
set_option maxHeartbeats 4000000 in
theorem refSame_any (d : Nat) : ∀ (va vb : Value) (ta tb : Tm) (w : World), IsT w d va ta → IsT w d vb tb → Calls Tryz.prog 18 #[va, vb] w (SameR ta tb w) := by
  induction d with
  | zero => intro va vb ta tb w h; cases h
  | succ d ih =>
    intro va vb ta tb w ha hb
    obtain ⟨d1, k1, p1, n1, N1, s1, l1, e1, rfl, rfl, hp1, hn1, hk1⟩ := ha.open
    obtain rfl : d = d1 := by omega
    obtain ⟨d2, k2, p2, n2, N2, s2, l2, e2, rfl, rfl, hp2, hn2, hk2⟩ := hb.open
    obtain rfl : d = d2 := by omega
    obtain ⟨q1, c1, hs1, hm1, hr1⟩ := hk1
    obtain ⟨q2, c2, hs2, hm2, hr2⟩ := hk2
    subst hs1 hs2
    have HR1 := Lib.hid hr1
    have HR2 := Lib.hid hr2
    clear ha hb e1 e2 hr1 hr2 hp1 hn1 hp2 hn2
    unfold maxLen at hm1 hm2
    by_cases hk : k1 = k2
    rotate_left
    · go_enter Tryz.func18, Tryz.ntmps18
      go_wp2
      go_ret
      exact ⟨ret_bool (same_no (by intro h; cases h; exact hk rfl)).symm, below2 w _ _⟩
    subst hk
    by_cases hp : p1 = p2
    rotate_left
    · have hp' : ¬ p1.toList = p2.toList := fun h => hp (toList_inj h)
      have HP := Lib.hid hp
      clear hp
      go_enter Tryz.func18, Tryz.ntmps18
      go_wp2
      go_ret
      exact ⟨ret_bool (same_no (by intro h; cases h; exact HP.out rfl)).symm, below2 w _ _⟩
    subst hp
    by_cases hn : n1 = n2
    rotate_left
    · have hn' : ¬ n1.toList = n2.toList := fun h => hn (toList_inj h)
      have HP := Lib.hid hn
      clear hn
      go_enter Tryz.func18, Tryz.ntmps18
      go_wp2
      go_ret
      exact ⟨ret_bool (same_no (by intro h; cases h; exact HP.out rfl)).symm, below2 w _ _⟩
    subst hn
    by_cases hN : N1 = N2
    rotate_left
    · go_enter Tryz.func18, Tryz.ntmps18
      go_wp2
      go_ret
      exact ⟨ret_bool (same_no (by intro h; cases h; exact hN rfl)).symm, below2 w _ _⟩
    subst hN
    by_cases hL : l1.length = l2.length
    rotate_left
    · have hl' : ((l1.length : Int) != (l2.length : Int)) = true := by simp; omega
      have HP := Lib.hid hL
      clear hL
      go_enter Tryz.func18, Tryz.ntmps18
      go_wp2
      go_ret
      exact ⟨ret_bool (same_no (by intro h; cases h; exact HP.out rfl)).symm, below2 w _ _⟩
    have hl' : ((l1.length : Int) != (l2.length : Int)) = false := by simp; omega
    have HL := Lib.hid hL
    have b1 := hb_alloc (hb_new w (.cells #[.int .i64 k1, .string p1, .string n1, .int .i64 N1, .slice q1 l1.length c1] 24)) (.cells #[.int .i64 k1, .string p1, .string n1, .int .i64 N1, .slice q2 l2.length c2] 24)
    have b2 := hb_new (w.alloc (.cells #[.int .i64 k1, .string p1, .string n1, .int .i64 N1, .slice q1 l1.length c1] 24)) (.cells #[.int .i64 k1, .string p1, .string n1, .int .i64 N1, .slice q2 l2.length c2] 24)
    rw [World.size_alloc] at b2
    have B1 := Lib.hid b1
    have B2 := Lib.hid b2
    clear b1 b2 hL
    have hL' : l1.length ≤ l2.length := by have := HL.out; omega
    go_enter Tryz.func18, Tryz.ntmps18
    go_wp2
    generalize hW2 : (w.alloc (.cells #[.int .i64 k1, .string p1, .string n1, .int .i64 N1, .slice q1 l1.length c1] 24)).alloc (.cells #[.int .i64 k1, .string p1, .string n1, .int .i64 N1, .slice q2 l2.length c2] 24) = W2 at *
    have hz2 : W2.heap.size = w.heap.size + 2 := by rw [← hW2]; exact size_two w _ _
    have hBW : Below w.heap.size w W2 := by rw [← hW2]; exact below2 w _ _
    have HBW := Lib.hid hBW
    have HZ2 := Lib.hid hz2
    have hz2' : w.heap.size + 2 ≤ W2.heap.size := by omega
    clear hW2 hz2 hBW
    go_loopw [5] (fun i wr => ∃ k : Nat, k ≤ l1.length ∧ i = .int .i64 k ∧ Agree k l1 l2 ∧ Below W2.heap.size W2 wr) (fun i _ => l1.length - (intOf i).toNat)
    case atStart => exact ⟨0, Nat.zero_le _, rfl, fun j x y hj => by omega, Below.refl _ _⟩
    case round =>
      obtain ⟨k, hk, rfl, hag, hB⟩ := hrel
      have HAG := Lib.hid hag
      have HB := Lib.hid hB
      have hzr := hB.size
      clear hag
      have m0 : wr.cell? ⟨w.heap.size, 4, none⟩ = some (.slice q1 l1.length c1) := (HB.out.cell (p := ⟨w.heap.size, 4, none⟩) (by simp; omega)).trans (hb_at B1.out 4 rfl)
      by_cases hlt : k < l1.length
      · have hlt2 : k < l2.length := by omega
        have hx1 := List.getElem?_eq_getElem hlt
        have hx2 := List.getElem?_eq_getElem hlt2
        generalize l1[k] = x at *
        generalize l2[k] = y at *
        obtain ⟨b1, o1, k1', p1', n1', N1', s1', hq1, ha1, ht1⟩ := HR1.out k x hx1
        obtain ⟨b2, o2, k2', p2', n2', N2', s2', hq2, ha2, ht2⟩ := HR2.out k y hx2
        subst hq1 hq2
        have HX1 := Lib.hid hx1
        have HX2 := Lib.hid hx2
        have hBR : Below w.heap.size w wr := HBW.out.trans (hB.mono (by omega))
        have HBR := Lib.hid hBR
        obtain ⟨x0, x1, x2, x3, x4⟩ := ha1.below hBR ha1.lt
        obtain ⟨y0, y1, y2, y3, y4⟩ := ha2.below hBR ha2.lt
        have m1 := m0
        clear m0
        have m2 : wr.cell? ⟨w.heap.size + 1, 4, none⟩ = some (.slice (some ⟨b2, o2, none⟩) l2.length c2) := (hB.cell (p := ⟨w.heap.size + 1, 4, none⟩) (by simp; omega)).trans (hb_at B2.out 4 rfl)
        have HC : RowKit.Hid (∀ W, Below wr.heap.size wr W → Calls Tryz.prog 18 #[tv k1' p1' n1' N1' s1', tv k2' p2' n2' N2' s2'] W (SameR x y W)) :=
          Lib.hid fun W hW => ih _ _ _ _ W ((ht1.below hBR).below hW) ((ht2.below hBR).below hW)
        have hki1 : (k : Int) < (l1.length : Int) := by omega
        have hki2 : (k : Int) < (l2.length : Int) := by omega
        clear hx1 hx2 ht1 ht2 ha1 ha2 hB hBR
        go_wp2
        refine wp_region_held_drew (S := (fun w' => RowKit.Hid (Below wr.heap.size wr w') ∧ w'.cell? ⟨w.heap.size, 4, none⟩ = some (.slice (some ⟨b1, o1, none⟩) l1.length c1) ∧ w'.cell? ⟨w.heap.size + 1, 4, none⟩ = some (.slice (some ⟨b2, o2, none⟩) l2.length c2) ∧ w'.cell? ⟨b1, o1 + k * 5, none⟩ = some (.int .i64 k1') ∧ w'.cell? ⟨b1, o1 + k * 5 + 1, none⟩ = some (.string p1') ∧ w'.cell? ⟨b1, o1 + k * 5 + 2, none⟩ = some (.string n1') ∧ w'.cell? ⟨b1, o1 + k * 5 + 3, none⟩ = some (.int .i64 N1') ∧ w'.cell? ⟨b1, o1 + k * 5 + 4, none⟩ = some (s1') ∧ w'.cell? ⟨b2, o2 + k * 5, none⟩ = some (.int .i64 k2') ∧ w'.cell? ⟨b2, o2 + k * 5 + 1, none⟩ = some (.string p2') ∧ w'.cell? ⟨b2, o2 + k * 5 + 2, none⟩ = some (.string n2') ∧ w'.cell? ⟨b2, o2 + k * 5 + 3, none⟩ = some (.int .i64 N2') ∧ w'.cell? ⟨b2, o2 + k * 5 + 4, none⟩ = some (s2'))) (by kernel_rfl) (by exact ⟨Lib.hid (below_drewN (Below.refl _ _) 1), m1, m2, x0, x1, x2, x3, x4, y0, y1, y2, y3, y4⟩) (fun hHeld => ?_)
        refine wpAnyH_take (i := 0) (oi := ⟨some 48, _, _, _, _, _⟩) (v := ?_) rfl (by kernel_rfl) (by kernel_rfl) (by kernel_rfl) (fun _ _ _ h => h) (Or.inl ⟨by rfl, ?_⟩) (by assumption) ?_
        rotate_left
        focus (intro w hSw; (try dsimp only at hSw); go_simp; first | done | with_reducible rfl)
        try simp only [Act.put, List.setIfInBounds_toArray, List.set_cons_zero, List.set_cons_succ]
        refine wpAnyH_take (i := 1) (oi := ⟨some 49, _, _, _, _, _⟩) (v := ?_) rfl (by kernel_rfl) (by kernel_rfl) (by kernel_rfl) (fun _ _ _ h => h) (Or.inl ⟨by rfl, ?_⟩) (by assumption) ?_
        rotate_left
        focus (intro w hSw; (try dsimp only at hSw); go_simp; first | done | with_reducible rfl)
        try simp only [Act.put, List.setIfInBounds_toArray, List.set_cons_zero, List.set_cons_succ]
        refine wpAnyH_take (i := 2) (oi := ⟨some 50, _, _, _, _, _⟩) (v := ?_) rfl (by kernel_rfl) (by kernel_rfl) (by kernel_rfl) (fun _ _ _ h => h) (Or.inl ⟨by rfl, ?_⟩) (by assumption) ?_
        rotate_left
        focus (intro w hSw; (try dsimp only at hSw); go_simp; first | done | with_reducible rfl)
        try simp only [Act.put, List.setIfInBounds_toArray, List.set_cons_zero, List.set_cons_succ]
        refine wpAnyH_take (i := 3) (oi := ⟨some 51, _, _, _, _, _⟩) (v := ?_) rfl (by kernel_rfl) (by kernel_rfl) (by kernel_rfl) (fun _ _ _ h => h) (Or.inl ⟨by rfl, ?_⟩) (by assumption) ?_
        rotate_left
        focus (intro w hSw; (try dsimp only at hSw); go_simp; first | done | with_reducible rfl)
        try simp only [Act.put, List.setIfInBounds_toArray, List.set_cons_zero, List.set_cons_succ]
        refine wpAnyH_take (i := 4) (oi := ⟨some 52, _, _, _, _, _⟩) (v := ?_) rfl (by kernel_rfl) (by kernel_rfl) (by kernel_rfl) (fun _ _ _ h => h) (Or.inl ⟨by rfl, ?_⟩) (by assumption) ?_
        rotate_left
        focus (intro w hSw; (try dsimp only at hSw); go_simp; first | done | with_reducible rfl)
        try simp only [Act.put, List.setIfInBounds_toArray, List.set_cons_zero, List.set_cons_succ]
        refine wpAnyH_take (i := 5) (oi := ⟨some 53, _, _, _, _, _⟩) (v := ?_) rfl (by kernel_rfl) (by kernel_rfl) (by kernel_rfl) (fun _ _ _ h => h) (Or.inl ⟨by rfl, ?_⟩) (by assumption) ?_
        rotate_left
        focus (intro w hSw; (try dsimp only at hSw); go_simp; first | done | with_reducible rfl)
        try simp only [Act.put, List.setIfInBounds_toArray, List.set_cons_zero, List.set_cons_succ]
        refine wpAnyH_take (i := 6) (oi := ⟨some 54, _, _, _, _, _⟩) (v := ?_) rfl (by kernel_rfl) (by kernel_rfl) (by kernel_rfl) (fun _ _ _ h => h) (Or.inl ⟨by rfl, ?_⟩) (by assumption) ?_
        rotate_left
        focus (intro w hSw; (try dsimp only at hSw); go_simp; first | done | with_reducible rfl)
        try simp only [Act.put, List.setIfInBounds_toArray, List.set_cons_zero, List.set_cons_succ]
        refine wpAnyH_take (i := 7) (oi := ⟨some 55, _, _, _, _, _⟩) (v := ?_) rfl (by kernel_rfl) (by kernel_rfl) (by kernel_rfl) (fun _ _ _ h => h) (Or.inl ⟨by rfl, ?_⟩) (by assumption) ?_
        rotate_left
        focus (intro w hSw; (try dsimp only at hSw); go_simp; first | done | with_reducible rfl)
        try simp only [Act.put, List.setIfInBounds_toArray, List.set_cons_zero, List.set_cons_succ]
        refine wpAnyH_take (i := 8) (oi := ⟨some 56, _, _, _, _, _⟩) (v := ?_) rfl (by kernel_rfl) (by kernel_rfl) (by kernel_rfl) (fun _ _ _ h => h) (Or.inl ⟨by rfl, ?_⟩) (by assumption) ?_
        rotate_left
        focus (intro w hSw; (try dsimp only at hSw); go_simp; first | done | with_reducible rfl)
        try simp only [Act.put, List.setIfInBounds_toArray, List.set_cons_zero, List.set_cons_succ]
        refine wpAnyH_take (i := 9) (oi := ⟨some 57, _, _, _, _, _⟩) (v := ?_) rfl (by kernel_rfl) (by kernel_rfl) (by kernel_rfl) (fun _ _ _ h => h) (Or.inl ⟨by rfl, ?_⟩) (by assumption) ?_
        rotate_left
        focus (intro w hSw; (try dsimp only at hSw); go_simp; first | done | with_reducible rfl)
        try simp only [Act.put, List.setIfInBounds_toArray, List.set_cons_zero, List.set_cons_succ]
        refine wpAnyH_ready (rs := [10]) (by kernel_rfl) (by simp) ?_
        refine AllReadyH.cons (o := ⟨some 58, _, _, _, _, _⟩) rfl (fun K hK => ?_) AllReadyH.nil
        go_simp
        ((with_reducible refine (HC.out _ hHeld.1.out).mono ?_); rintro e w3 ⟨rfl, hb⟩)
        go_wp2_with fail
        refine hK.out _ _ (by exact ⟨Lib.hid (hHeld.1.out.trans (hb.mono hHeld.1.out.size)), keep_cell hb hHeld.2.1, keep_cell hb hHeld.2.2.1, keep_cell hb hHeld.2.2.2.1, keep_cell hb hHeld.2.2.2.2.1, keep_cell hb hHeld.2.2.2.2.2.1, keep_cell hb hHeld.2.2.2.2.2.2.1, keep_cell hb hHeld.2.2.2.2.2.2.2.1, keep_cell hb hHeld.2.2.2.2.2.2.2.2.1, keep_cell hb hHeld.2.2.2.2.2.2.2.2.2.1, keep_cell hb hHeld.2.2.2.2.2.2.2.2.2.2.1, keep_cell hb hHeld.2.2.2.2.2.2.2.2.2.2.2.1, keep_cell hb hHeld.2.2.2.2.2.2.2.2.2.2.2.2⟩) (fun hNew => ?_)
        clear hK K
        clear hHeld hb; have hHeld := hNew; clear hNew
        try simp only [Act.put, List.setIfInBounds_toArray, List.set_cons_zero, List.set_cons_succ]
        refine wpAnyH_take (i := 11) (oi := ⟨some 59, _, _, _, _, _⟩) (v := ?_) rfl (by kernel_rfl) (by kernel_rfl) (by kernel_rfl) (fun _ _ _ h => h) (Or.inl ⟨by rfl, ?_⟩) (by assumption) ?_
        rotate_left
        focus (intro w hSw; (try dsimp only at hSw); go_simp; first | done | with_reducible rfl)
        try simp only [Act.put, List.setIfInBounds_toArray, List.set_cons_zero, List.set_cons_succ]
        refine wpAnyH_done (by kernel_rfl) ?_ _
        have HQ := Lib.hid (HB.out.trans (hHeld.1.out.mono hzr))
        clear hHeld
        generalize hg : same x y = r
        have HG := Lib.hid hg
        clear hg
        cases r
        · have HNO := Lib.hid (agree_not HX1.out HX2.out (fun e => by have h := HG.out; rw [e, same_self] at h; cases h))
          go_wp2
          go_ret
          exact ⟨ret_bool (same_no (by intro h; cases h; exact HNO.out rfl)).symm, HBW.out.trans (HQ.out.mono (by omega))⟩
        · have HAN := Lib.hid (agree_next HAG.out HX1.out HX2.out (same_iff.1 HG.out))
          go_wp2
          go_roundw
          case rel => exact ⟨k + 1, by omega, by go_num, HAN.out, HQ.out⟩
          case measure => simp [intOf]; omega
      · obtain rfl : k = l1.length := by omega
        go_wp2
        go_ret
        exact ⟨ret_bool (same_iff.2 (by rw [agree_all HL.out HAG.out])).symm, HBW.out.trans (HB.out.mono (by omega))⟩
end Go.Proofs.YthcpmdgdbceeiaaGreatDoor
/- Size, weight, Few. -/
namespace Go.Proofs.YthcpmdgdbceeiaaGreatDoor
open Go.RowKit
/-- How many terms there are, reckoned as Go does. -/
def sz : Nat → Tm → Int
  | 0, _ => 0
  | d + 1, .mk _ _ _ _ kids => kids.foldl (fun n t => wrap64 (n + sz d t)) 1
def szTo (d k : Nat) (kids : List Tm) : Int := (kids.take k).foldl (fun n t => wrap64 (n + sz d t)) 1
theorem szTo_next {d k : Nat} {kids : List Tm} (h : k < kids.length) : szTo d (k + 1) kids = wrap64 (szTo d k kids + sz d kids[k]) := by
  unfold szTo
  rw [List.take_succ_eq_append_getElem h, List.foldl_append]
  rfl
theorem szTo_all {d : Nat} {k : Int} {p n : ByteArray} {N : Int} {kids : List Tm} : szTo d kids.length kids = sz (d + 1) (.mk k p n N kids) := by
  unfold szTo
  rw [List.take_length]
  rfl
theorem IsT.spell {w : World} {d : Nat} {k : Int} {p n : ByteArray} {N : Int} {s : Value} {x : Tm} (h : IsT w d (tv k p n N s) x) : ∃ q l c, s = .slice q l c := by
  obtain ⟨d1, k1, p1, n1, N1, s1, l1, e1, rfl, e2, _, _, q, c, hs, _⟩ := h.open
  injection e2 with e2
  simp at e2
  obtain ⟨_, _, _, _, rfl⟩ := e2
  exact ⟨q, _, c, hs⟩
def SizeR (d : Nat) (t : Tm) (w : World) (e : Ending) (w' : World) : Prop := e = .returned (.int .i64 (sz d t)) ∧ Below w.heap.size w w'
set_option maxRecDepth 100000 in
set_option maxHeartbeats 2000000 in
theorem size_any (d : Nat) : ∀ (va : Value) (ta : Tm) (w : World), IsT w d va ta → Calls Tryz.prog 15 #[va] w (SizeR d ta w) := by
  induction d with
  | zero => intro va ta w h; cases h
  | succ d ih =>
    intro va ta w ha
    obtain ⟨d1, k1, p1, n1, N1, s1, l1, e1, rfl, rfl, hp1, hn1, hk1⟩ := ha.open
    obtain rfl : d = d1 := by omega
    obtain ⟨q1, c1, hs1, hm1, hr1⟩ := hk1
    subst hs1
    have HR1 := Lib.hid hr1
    clear ha e1 hr1 hp1 hn1
    unfold maxLen at hm1
    have HIH := Lib.hid ih
    clear ih
    go_enter Tryz.func15, Tryz.ntmps15
    go_wp2
    have hBW : Below w.heap.size w (w.alloc (.cells #[.int .i64 k1, .string p1, .string n1, .int .i64 N1, .slice q1 l1.length c1] 24)) := below_alloc w _
    generalize hW1 : w.alloc (.cells #[.int .i64 k1, .string p1, .string n1, .int .i64 N1, .slice q1 l1.length c1] 24) = W1 at *
    have HBW := Lib.hid hBW
    have hzw : w.heap.size ≤ W1.heap.size := hBW.size
    clear hW1 hBW
    go_loopw [3, 9] (fun n i wr => ∃ k : Nat, k ≤ l1.length ∧ i = .int .i64 k ∧ n = .int .i64 (szTo d k l1) ∧ Below W1.heap.size W1 wr) (fun _ i _ => l1.length - (intOf i).toNat)
    case atStart => exact ⟨0, Nat.zero_le _, rfl, rfl, Below.refl _ _⟩
    case round =>
      obtain ⟨k, hk, rfl, rfl, hB⟩ := hrel
      have hzr := hB.size
      have HB := Lib.hid hB
      by_cases hlt : k < l1.length
      · have hx1 := List.getElem?_eq_getElem hlt
        have HN := Lib.hid (szTo_next (d := d) hlt)
        generalize l1[k] = x at *
        obtain ⟨b1, o1, k1', p1', n1', N1', s1', hq1, ha1, ht1⟩ := HR1.out k x hx1
        subst hq1
        obtain ⟨q3, l3, c3, hs3⟩ := ht1.spell
        subst hs3
        have hBR : Below w.heap.size w wr := HBW.out.trans (hB.mono (by omega))
        obtain ⟨x0, x1, x2, x3, x4⟩ := ha1.below hBR ha1.lt
        have HC : RowKit.Hid (∀ W, Below wr.heap.size wr W → Calls Tryz.prog 15 #[tv k1' p1' n1' N1' (.slice q3 l3 c3)] W (SizeR d x W)) :=
          Lib.hid fun W hW => HIH.out _ _ W ((ht1.below hBR).below hW)
        clear hx1 ht1 ha1 hB hBR
        generalize szTo d k l1 = m at *
        go_wp2_with (go_at_call 15; ((with_reducible refine (HC.out _ (below_alloc wr _)).mono ?_); rintro e w3 ⟨rfl, hb⟩))
        have HQ := Lib.hid (HB.out.trans (((below_alloc wr _).trans (hb.mono (by simp))).mono hzr))
        go_roundw
        case rel => exact ⟨k + 1, by omega, by go_num, by rw [HN.out], HQ.out⟩
        case measure => simp [intOf]; omega
      · obtain rfl : k = l1.length := by omega
        go_wp2
        go_ret
        exact ⟨ret_int szTo_all, HBW.out.trans (HB.out.mono (by omega))⟩
def SomeI (w : World) (e : Ending) (w' : World) : Prop := ∃ n : Int, e = .returned (.int .i64 n) ∧ Below w.heap.size w w'
set_option maxRecDepth 100000 in
set_option maxHeartbeats 2000000 in
theorem weight_any (d : Nat) : ∀ (va : Value) (ta : Tm) (deep : Int) (w : World), IsT w d va ta → Calls Tryz.prog 26 #[va, .int .i64 deep] w (SomeI w) := by
  induction d with
  | zero => intro va ta deep w h; cases h
  | succ d ih =>
    intro va ta deep w ha
    obtain ⟨d1, k1, p1, n1, N1, s1, l1, e1, rfl, rfl, hp1, hn1, hk1⟩ := ha.open
    obtain rfl : d = d1 := by omega
    obtain ⟨q1, c1, hs1, hm1, hr1⟩ := hk1
    subst hs1
    have HR1 := Lib.hid hr1
    clear ha e1 hr1
    unfold maxLen at hm1 hp1 hn1
    have HIH := Lib.hid ih
    clear ih
    by_cases hd : 90 < deep
    · go_enter Tryz.func26, Tryz.ntmps26
      go_wp2
      go_ret
      exact ⟨_, rfl, below_alloc w _⟩
    by_cases hl : (300 : Int) < (l1.length : Int)
    · go_enter Tryz.func26, Tryz.ntmps26
      go_wp2
      go_ret
      exact ⟨_, rfl, below_alloc w _⟩
    have hd' : deep ≤ 90 := by omega
    have hl' : (l1.length : Int) ≤ 300 := by omega
    have hd2 : decide (90 < deep) = false := by simpa using hd'
    have hl2 : decide ((300 : Int) < (l1.length : Int)) = false := by simpa using hl'
    clear hd hl
    have hnew := Lib.hid (hb_new w (.cells #[.int .i64 k1, .string p1, .string n1, .int .i64 N1, .slice q1 l1.length c1] 24))
    go_enter Tryz.func26, Tryz.ntmps26
    go_upto_region 3 with (fail)
    generalize hW1 : w.alloc (.cells #[.int .i64 k1, .string p1, .string n1, .int .i64 N1, .slice q1 l1.length c1] 24) = W1 at *
    have hBW : Below w.heap.size w W1 := by rw [← hW1]; exact below_alloc w _
    have HBW := Lib.hid hBW
    have hzw : w.heap.size + 1 ≤ W1.heap.size := by rw [← hW1]; simp
    have m1 := hb_at hnew.out 1 rfl
    have m2 := hb_at hnew.out 2 rfl
    have m4 := hb_at hnew.out 4 rfl
    clear hW1 hBW
    go_cut [5] (fun v wx => (∃ m : Int, v = .int .i64 m) ∧ wx = W1)
    case first =>
      go_wp2_with fail
      all_goals
        go_meet
        exact ⟨⟨_, rfl⟩, rfl⟩
    case rest =>
      obtain ⟨⟨m0, rfl⟩, rfl⟩ := hcut
      go_wp2
      have M4 : RowKit.Hid (wc.cell? ⟨w.heap.size, 4, none⟩ = some (.slice q1 l1.length c1)) := Lib.hid m4
      clear m1 m2 m4
      go_loopw [5, 29] (fun n i wr => ∃ k : Nat, k ≤ l1.length ∧ i = .int .i64 k ∧ (∃ m : Int, n = .int .i64 m) ∧ Below wc.heap.size wc wr) (fun _ i _ => l1.length - (intOf i).toNat)
      case atStart => exact ⟨0, Nat.zero_le _, rfl, ⟨_, rfl⟩, Below.refl _ _⟩
      case round =>
        obtain ⟨k, hk, rfl, ⟨m, rfl⟩, hB⟩ := hrel
        have hzr := hB.size
        have HB := Lib.hid hB
        by_cases hlt : k < l1.length
        · have hx1 := List.getElem?_eq_getElem hlt
          generalize l1[k] = x at *
          obtain ⟨b1, o1, k1', p1', n1', N1', s1', hq1, ha1, ht1⟩ := HR1.out k x hx1
          subst hq1
          have hBR : Below w.heap.size w wr := HBW.out.trans (hB.mono (by omega))
          obtain ⟨x0, x1, x2, x3, x4⟩ := ha1.below hBR ha1.lt
          have m4 : wr.cell? ⟨w.heap.size, 4, none⟩ = some (.slice (some ⟨b1, o1, none⟩) l1.length c1) := (hB.cell (p := ⟨w.heap.size, 4, none⟩) (by simp; omega)).trans M4.out
          have HC : RowKit.Hid (∀ deep, Calls Tryz.prog 26 #[tv k1' p1' n1' N1' s1', .int .i64 deep] wr (SomeI wr)) :=
            Lib.hid fun deep => HIH.out _ _ deep wr (ht1.below hBR)
          clear hx1 ht1 ha1 hB hBR
          by_cases hm : m < 100000
          · go_wp2_with (go_at_call 26; ((with_reducible refine (HC.out _).mono ?_); rintro e w3 ⟨m3, rfl, hb⟩))
            have HQ := Lib.hid (HB.out.trans (hb.mono hzr))
            go_roundw
            case rel => exact ⟨k + 1, by omega, by go_num, ⟨_, rfl⟩, HQ.out⟩
            case measure => simp [intOf]; omega
          · go_wp2
            go_roundw
            case rel => exact ⟨k + 1, by omega, by go_num, ⟨_, rfl⟩, HB.out⟩
            case measure => simp [intOf]; omega
        · obtain rfl : k = l1.length := by omega
          go_wp2
          all_goals
            go_ret
            exact ⟨_, rfl, HBW.out.trans (HB.out.mono (by omega))⟩
def SomeB (w : World) (e : Ending) (w' : World) : Prop := ∃ r : Bool, e = .returned (.bool r) ∧ Below w.heap.size w w'
set_option maxRecDepth 100000 in
theorem few_any (d : Nat) (va : Value) (ta : Tm) (w : World) (h : IsT w d va ta) : Calls Tryz.prog 7 #[va] w (SomeB w) := by
  have HT := Lib.hid h
  obtain ⟨d1, k1, p1, n1, N1, s1, l1, e1, rfl, e2, _, _, _⟩ := h.open
  subst e2
  clear h e1
  have HC := Lib.hid (weight_any d _ _ 0 _ (HT.out.below (below_alloc w (.cells #[.int .i64 k1, .string p1, .string n1, .int .i64 N1, s1] 24))))
  go_enter Tryz.func7, Tryz.ntmps7
  go_wp2_with (go_at_call 26; ((with_reducible refine HC.out.mono ?_); rintro e w3 ⟨m3, rfl, hb⟩))
  go_ret
  exact ⟨_, rfl, (below_alloc w _).trans (hb.mono (by simp))⟩
end Go.Proofs.YthcpmdgdbceeiaaGreatDoor
/- Bytes of names; runs. -/
namespace Go.Proofs.YthcpmdgdbceeiaaGreatDoor
open Go.RowKit
def smallB (c : Int) : Bool := decide (97 ≤ c ∧ c ≤ 122)
def greatB (c : Int) : Bool := decide (65 ≤ c ∧ c ≤ 90)
def digitB (c : Int) : Bool := decide (48 ≤ c ∧ c ≤ 57)
def nameB (c : Int) : Bool := smallB c || greatB c || digitB c || c == 95 || c == 39
def varB (c : Int) : Bool := nameB c && c != 39
/-- A function of one byte that answers a Bool, and does nothing else. -/
def ByteF (K : Nat) (g : Int → Bool) : Prop := ∀ (c : Int) (w : World), Calls Tryz.prog K #[.int .u8 c] w fun e w' => e = .returned (.bool (g c)) ∧ w = w'
theorem small_any : ByteF 74 smallB := by
  intro c w
  by_cases h1 : 97 ≤ c
  · by_cases h2 : c ≤ 122
    · go_enter Tryz.func74, Tryz.ntmps74
      go_wp2
      go_ret
      exact ⟨ret_bool (by simp [smallB, h1, h2]), rfl⟩
    · go_enter Tryz.func74, Tryz.ntmps74
      go_wp2
      go_ret
      exact ⟨ret_bool (by simp [smallB, h1, h2]), rfl⟩
  · go_enter Tryz.func74, Tryz.ntmps74
    go_wp2
    go_ret
    exact ⟨ret_bool (decide_eq_false (by omega)).symm, rfl⟩
theorem great_any : ByteF 78 greatB := by
  intro c w
  by_cases h1 : 65 ≤ c
  · by_cases h2 : c ≤ 90
    · go_enter Tryz.func78, Tryz.ntmps78
      go_wp2
      go_ret
      exact ⟨ret_bool (by simp [greatB, h1, h2]), rfl⟩
    · go_enter Tryz.func78, Tryz.ntmps78
      go_wp2
      go_ret
      exact ⟨ret_bool (by simp [greatB, h1, h2]), rfl⟩
  · go_enter Tryz.func78, Tryz.ntmps78
    go_wp2
    go_ret
    exact ⟨ret_bool (decide_eq_false (by omega)).symm, rfl⟩
theorem digit_any : ByteF 81 digitB := by
  intro c w
  by_cases h1 : 48 ≤ c
  · by_cases h2 : c ≤ 57
    · go_enter Tryz.func81, Tryz.ntmps81
      go_wp2
      go_ret
      exact ⟨ret_bool (by simp [digitB, h1, h2]), rfl⟩
    · go_enter Tryz.func81, Tryz.ntmps81
      go_wp2
      go_ret
      exact ⟨ret_bool (by simp [digitB, h1, h2]), rfl⟩
  · go_enter Tryz.func81, Tryz.ntmps81
    go_wp2
    go_ret
    exact ⟨ret_bool (decide_eq_false (by omega)).symm, rfl⟩
theorem ByteF.lit {K : Nat} {g : Int → Bool} (h : ByteF K g) {c : Int} {r : Bool} (hr : g c = r) (w : World) : Calls Tryz.prog K #[.int .u8 c] w fun e w' => e = .returned (.bool r) ∧ w = w' := by rw [← hr]; exact h c w
set_option maxRecDepth 100000 in
set_option maxHeartbeats 1000000 in
theorem name_any : ByteF 76 nameB := by
  intro c w
  cases hs : smallB c
  · cases hg : greatB c
    · cases hd : digitB c
      · have HS := Lib.hid (small_any.lit hs)
        have HG := Lib.hid (great_any.lit hg)
        have HD := Lib.hid (digit_any.lit hd)
        have HN : RowKit.Hid (nameB c = (c == 95 || c == 39)) := Lib.hid (by simp [nameB, hs, hg, hd])
        clear hs hg hd
        by_cases h1 : c = 95
        · subst h1
          go_enter Tryz.func76, Tryz.ntmps76
          go_wp2_with (first
            | (go_at_call 74; ((with_reducible refine (HS.out _).mono ?_); rintro e w' ⟨rfl, rfl⟩))
            | (go_at_call 78; ((with_reducible refine (HG.out _).mono ?_); rintro e w' ⟨rfl, rfl⟩))
            | (go_at_call 81; ((with_reducible refine (HD.out _).mono ?_); rintro e w' ⟨rfl, rfl⟩)))
          go_ret
          exact ⟨ret_bool (by rw [HN.out]; rfl), rfl⟩
        · have h1' : (c == 95) = false := by simpa using h1
          have H1 := Lib.hid h1
          clear h1
          by_cases h2 : c = 39
          · subst h2
            go_enter Tryz.func76, Tryz.ntmps76
            go_wp2_with (first
              | (go_at_call 74; ((with_reducible refine (HS.out _).mono ?_); rintro e w' ⟨rfl, rfl⟩))
              | (go_at_call 78; ((with_reducible refine (HG.out _).mono ?_); rintro e w' ⟨rfl, rfl⟩))
              | (go_at_call 81; ((with_reducible refine (HD.out _).mono ?_); rintro e w' ⟨rfl, rfl⟩)))
            go_ret
            exact ⟨ret_bool (by rw [HN.out]; rfl), rfl⟩
          · have h2' : (c == 39) = false := by simpa using h2
            have H2 := Lib.hid h2
            clear h2
            go_enter Tryz.func76, Tryz.ntmps76
            go_wp2_with (first
              | (go_at_call 74; ((with_reducible refine (HS.out _).mono ?_); rintro e w' ⟨rfl, rfl⟩))
              | (go_at_call 78; ((with_reducible refine (HG.out _).mono ?_); rintro e w' ⟨rfl, rfl⟩))
              | (go_at_call 81; ((with_reducible refine (HD.out _).mono ?_); rintro e w' ⟨rfl, rfl⟩)))
            go_ret
            exact ⟨ret_bool (by rw [HN.out, h1', h2']; exact h2'), rfl⟩
      · have HS := Lib.hid (small_any.lit hs)
        have HG := Lib.hid (great_any.lit hg)
        have HD := Lib.hid (digit_any.lit hd)
        have HN : RowKit.Hid (nameB c = true) := Lib.hid (by simp [nameB, hd])
        clear hs hg hd
        go_enter Tryz.func76, Tryz.ntmps76
        go_wp2_with (first
          | (go_at_call 74; ((with_reducible refine (HS.out _).mono ?_); rintro e w' ⟨rfl, rfl⟩))
          | (go_at_call 78; ((with_reducible refine (HG.out _).mono ?_); rintro e w' ⟨rfl, rfl⟩))
          | (go_at_call 81; ((with_reducible refine (HD.out _).mono ?_); rintro e w' ⟨rfl, rfl⟩)))
        go_ret
        exact ⟨ret_bool (by rw [HN.out]), rfl⟩
    · have HS := Lib.hid (small_any.lit hs)
      have HG := Lib.hid (great_any.lit hg)
      have HN : RowKit.Hid (nameB c = true) := Lib.hid (by simp [nameB, hg])
      clear hs hg
      go_enter Tryz.func76, Tryz.ntmps76
      go_wp2_with (first
        | (go_at_call 74; ((with_reducible refine (HS.out _).mono ?_); rintro e w' ⟨rfl, rfl⟩))
        | (go_at_call 78; ((with_reducible refine (HG.out _).mono ?_); rintro e w' ⟨rfl, rfl⟩)))
      go_ret
      exact ⟨ret_bool (by rw [HN.out]), rfl⟩
  · have HS := Lib.hid (small_any.lit hs)
    have HN : RowKit.Hid (nameB c = true) := Lib.hid (by simp [nameB, hs])
    clear hs
    go_enter Tryz.func76, Tryz.ntmps76
    go_wp2_with (go_at_call 74; ((with_reducible refine (HS.out _).mono ?_); rintro e w' ⟨rfl, rfl⟩))
    go_ret
    exact ⟨ret_bool (by rw [HN.out]), rfl⟩
theorem var_any : ByteF 111 varB := by
  intro c w
  cases hn : nameB c
  · have HN := Lib.hid (name_any.lit hn)
    have HV : RowKit.Hid (varB c = false) := Lib.hid (by simp [varB, hn])
    clear hn
    go_enter Tryz.func111, Tryz.ntmps111
    go_wp2_with (go_at_call 76; ((with_reducible refine (HN.out _).mono ?_); rintro e w' ⟨rfl, rfl⟩))
    go_ret
    exact ⟨ret_bool (by rw [HV.out]), rfl⟩
  · have HN := Lib.hid (name_any.lit hn)
    have HV : RowKit.Hid (varB c = (c != 39)) := Lib.hid (by simp [varB, hn])
    clear hn
    by_cases h2 : c = 39
    · subst h2
      go_enter Tryz.func111, Tryz.ntmps111
      go_wp2_with (go_at_call 76; ((with_reducible refine (HN.out _).mono ?_); rintro e w' ⟨rfl, rfl⟩))
      go_ret
      exact ⟨ret_bool (by rw [HV.out]; rfl), rfl⟩
    · have h2' : (c == 39) = false := by simpa using h2
      have h3' : (c != 39) = true := by simpa using h2
      have H2 := Lib.hid h2
      clear h2
      go_enter Tryz.func111, Tryz.ntmps111
      go_wp2_with (go_at_call 76; ((with_reducible refine (HN.out _).mono ?_); rintro e w' ⟨rfl, rfl⟩))
      go_ret
      exact ⟨ret_bool (by rw [HV.out, h3']; exact h3'), rfl⟩
set_option maxRecDepth 100000 in
theorem count_name (s : ByteArray) (hs : s.size ≤ 1000) (h : ∀ i (hi : i < s.size), nameB (s[i].toNat : Int) = true) (w : World) :
    Calls Tryz.prog 75 #[.string s, .func (.func 76) #[] #[]] w fun e w' => e = .returned (.int .i64 s.size) ∧ w = w' := by
  have HG := Lib.hid h
  clear h
  go_enter Tryz.func75, Tryz.ntmps75
  go_wp2
  go_loop [5] (fun i => ∃ k : Nat, k ≤ s.size ∧ i = .int .i64 k) (fun i => s.size - (intOf i).toNat)
  case atStart => exact ⟨0, Nat.zero_le _, rfl⟩
  case round =>
    obtain ⟨k, hk, rfl⟩ := hrel
    by_cases hlt : k < s.size
    · have HC := Lib.hid (fun W => name_any.lit (HG.out k hlt) W)
      go_wp2_with (go_at_call 76; ((with_reducible refine (HC.out _).mono ?_); rintro e w' ⟨rfl, rfl⟩))
      go_round
      case rel => exact ⟨k + 1, by omega, by go_num⟩
      case measure => simp [intOf]; omega
    · obtain rfl : k = s.size := by omega
      go_wp2
      go_ret
      exact ⟨rfl, rfl⟩
set_option maxRecDepth 100000 in
theorem count_var (s : ByteArray) (hs : s.size ≤ 1000) (h : ∀ i (hi : i < s.size), varB (s[i].toNat : Int) = true) (w : World) :
    Calls Tryz.prog 75 #[.string s, .func (.func 111) #[] #[]] w fun e w' => e = .returned (.int .i64 s.size) ∧ w = w' := by
  have HG := Lib.hid h
  clear h
  go_enter Tryz.func75, Tryz.ntmps75
  go_wp2
  go_loop [5] (fun i => ∃ k : Nat, k ≤ s.size ∧ i = .int .i64 k) (fun i => s.size - (intOf i).toNat)
  case atStart => exact ⟨0, Nat.zero_le _, rfl⟩
  case round =>
    obtain ⟨k, hk, rfl⟩ := hrel
    by_cases hlt : k < s.size
    · have HC := Lib.hid (fun W => var_any.lit (HG.out k hlt) W)
      go_wp2_with (go_at_call 111; ((with_reducible refine (HC.out _).mono ?_); rintro e w' ⟨rfl, rfl⟩))
      go_round
      case rel => exact ⟨k + 1, by omega, by go_num⟩
      case measure => simp [intOf]; omega
    · obtain rfl : k = s.size := by omega
      go_wp2
      go_ret
      exact ⟨rfl, rfl⟩
end Go.Proofs.YthcpmdgdbceeiaaGreatDoor
