/- Texts in a row: T2 T3 T4. -/
import Derived.Test.YtncebhddcokkoaaDoorZU1
import Derived.Deep.RegionHeld3
import Derived.Outline
import Derived.Deep.DeepCutAuto
/- Same, of the program. -/
namespace Go.Proofs.YtncebhddcokkoaaDoor
open Go.RowKit
/-- What Same answers. -/
def SameR (ta tb : Tm) (w : World) (e : Ending) (w' : World) : Prop := e = .returned (.bool (same ta tb)) ∧ Below w.heap.size w w'
theorem toList_inj {a b : ByteArray} (h : a.toList = b.toList) : a = b := by
  rw [ByteArray.toList_eq, ByteArray.toList_eq] at h
  cases a; cases b
  simpa using h
theorem size_two (w : World) (o1 o2 : Obj) : ((w.alloc o1).alloc o2).heap.size = w.heap.size + 2 := by simp
/-- Two lists of terms that are one as far as k. -/
def Agree (k : Nat) (l1 l2 : List Tm) : Prop := ∀ (j : Nat) (x y : Tm), j < k → l1[j]? = some x → l2[j]? = some y → x = y
theorem agree_all {l1 l2 : List Tm} (hl : l1.length = l2.length) (h : Agree l1.length l1 l2) : l1 = l2 := by
  apply List.ext_getElem hl
  intro i h1 h2
  exact h i _ _ h1 (List.getElem?_eq_getElem h1) (List.getElem?_eq_getElem h2)
theorem agree_next {k : Nat} {l1 l2 : List Tm} {x y : Tm} (h : Agree k l1 l2) (h1 : l1[k]? = some x) (h2 : l2[k]? = some y) (e : x = y) : Agree (k + 1) l1 l2 := by
  intro j x' y' hj hx hy
  rcases Nat.lt_or_ge j k with hj2 | hj2
  · exact h j x' y' hj2 hx hy
  · obtain rfl : j = k := by omega
    rw [h1] at hx; rw [h2] at hy
    cases hx; cases hy
    exact e
theorem agree_not {k : Nat} {l1 l2 : List Tm} {x y : Tm} (h1 : l1[k]? = some x) (h2 : l2[k]? = some y) (e : x ≠ y) : l1 ≠ l2 := by
  rintro rfl
  rw [h1] at h2
  exact e (Option.some.inj h2)
end Go.Proofs.YtncebhddcokkoaaDoor
/- Same, of the document. -/
namespace Go.Proofs.YtncebhddcokkoaaDoor
open Go.RowKit
set_option maxRecDepth 100000 in
set_option maxHeartbeats 4000000 in
theorem refSame_any (d : Nat) : ∀ (va vb : Value) (ta tb : Tm) (w : World), IsT w d va ta → IsT w d vb tb → Calls Tryd.prog 17 #[va, vb] w (SameR ta tb w) := by
  induction d with
  | zero => intro va vb ta tb w h; cases h
  | succ d ih =>
    intro va vb ta tb w ha hb
    obtain ⟨d1, k1, p1, n1, N1, s1, l1, e1, rfl, rfl, hp1, hn1, hk1⟩ := ha.open
    obtain rfl : d = d1 := by omega
    obtain ⟨d2, k2, p2, n2, N2, s2, l2, e2, rfl, rfl, hp2, hn2, hk2⟩ := hb.open
    obtain rfl : d = d2 := by omega
    obtain ⟨q1, c1, hs1, hm1, hr1⟩ := hk1
    obtain ⟨q2, c2, hs2, hm2, hr2⟩ := hk2
    subst hs1 hs2
    have HR1 := Lib.hid hr1
    have HR2 := Lib.hid hr2
    clear ha hb e1 e2 hr1 hr2 hp1 hn1 hp2 hn2
    unfold maxLen at hm1 hm2
    by_cases hk : k1 = k2
    rotate_left
    · go_enter Tryd.func17, Tryd.ntmps17
      go_wp2
      go_ret
      exact ⟨ret_bool (same_no (by intro h; cases h; exact hk rfl)).symm, below2 w _ _⟩
    subst hk
    by_cases hp : p1 = p2
    rotate_left
    · have hp' : ¬ p1.toList = p2.toList := fun h => hp (toList_inj h)
      have HP := Lib.hid hp
      clear hp
      go_enter Tryd.func17, Tryd.ntmps17
      go_wp2
      go_ret
      exact ⟨ret_bool (same_no (by intro h; cases h; exact HP.out rfl)).symm, below2 w _ _⟩
    subst hp
    by_cases hn : n1 = n2
    rotate_left
    · have hn' : ¬ n1.toList = n2.toList := fun h => hn (toList_inj h)
      have HP := Lib.hid hn
      clear hn
      go_enter Tryd.func17, Tryd.ntmps17
      go_wp2
      go_ret
      exact ⟨ret_bool (same_no (by intro h; cases h; exact HP.out rfl)).symm, below2 w _ _⟩
    subst hn
    by_cases hN : N1 = N2
    rotate_left
    · go_enter Tryd.func17, Tryd.ntmps17
      go_wp2
      go_ret
      exact ⟨ret_bool (same_no (by intro h; cases h; exact hN rfl)).symm, below2 w _ _⟩
    subst hN
    by_cases hL : l1.length = l2.length
    rotate_left
    · have hl' : ((l1.length : Int) != (l2.length : Int)) = true := by simp; omega
      have HP := Lib.hid hL
      clear hL
      go_enter Tryd.func17, Tryd.ntmps17
      go_wp2
      go_ret
      exact ⟨ret_bool (same_no (by intro h; cases h; exact HP.out rfl)).symm, below2 w _ _⟩
    have hl' : ((l1.length : Int) != (l2.length : Int)) = false := by simp; omega
    have HL := Lib.hid hL
    have b1 := hb_alloc (hb_new w (.cells #[.int .i64 k1, .string p1, .string n1, .int .i64 N1, .slice q1 l1.length c1] 36)) (.cells #[.int .i64 k1, .string p1, .string n1, .int .i64 N1, .slice q2 l2.length c2] 36)
    have b2 := hb_new (w.alloc (.cells #[.int .i64 k1, .string p1, .string n1, .int .i64 N1, .slice q1 l1.length c1] 36)) (.cells #[.int .i64 k1, .string p1, .string n1, .int .i64 N1, .slice q2 l2.length c2] 36)
    rw [World.size_alloc] at b2
    have B1 := Lib.hid b1
    have B2 := Lib.hid b2
    clear b1 b2 hL
    have hL' : l1.length ≤ l2.length := by have := HL.out; omega
    go_enter Tryd.func17, Tryd.ntmps17
    go_wp2
    generalize hW2 : (w.alloc (.cells #[.int .i64 k1, .string p1, .string n1, .int .i64 N1, .slice q1 l1.length c1] 36)).alloc (.cells #[.int .i64 k1, .string p1, .string n1, .int .i64 N1, .slice q2 l2.length c2] 36) = W2 at *
    have hz2 : W2.heap.size = w.heap.size + 2 := by rw [← hW2]; exact size_two w _ _
    have hBW : Below w.heap.size w W2 := by rw [← hW2]; exact below2 w _ _
    have HBW := Lib.hid hBW
    have HZ2 := Lib.hid hz2
    have hz2' : w.heap.size + 2 ≤ W2.heap.size := by omega
    clear hW2 hz2 hBW
    go_loopw [5] (fun i wr => ∃ k : Nat, k ≤ l1.length ∧ i = .int .i64 k ∧ Agree k l1 l2 ∧ Below W2.heap.size W2 wr) (fun i _ => l1.length - (intOf i).toNat)
    case atStart => exact ⟨0, Nat.zero_le _, rfl, fun j x y hj => by omega, Below.refl _ _⟩
    case round =>
      obtain ⟨k, hk, rfl, hag, hB⟩ := hrel
      have HAG := Lib.hid hag
      have HB := Lib.hid hB
      have hzr := hB.size
      clear hag
      have m0 : wr.cell? ⟨w.heap.size, 4, none⟩ = some (.slice q1 l1.length c1) := (HB.out.cell (p := ⟨w.heap.size, 4, none⟩) (by simp; omega)).trans (hb_at B1.out 4 rfl)
      by_cases hlt : k < l1.length
      · have hlt2 : k < l2.length := by omega
        have hx1 := List.getElem?_eq_getElem hlt
        have hx2 := List.getElem?_eq_getElem hlt2
        generalize l1[k] = x at *
        generalize l2[k] = y at *
        obtain ⟨b1, o1, k1', p1', n1', N1', s1', hq1, ha1, ht1⟩ := HR1.out k x hx1
        obtain ⟨b2, o2, k2', p2', n2', N2', s2', hq2, ha2, ht2⟩ := HR2.out k y hx2
        subst hq1 hq2
        have HX1 := Lib.hid hx1
        have HX2 := Lib.hid hx2
        have hBR : Below w.heap.size w wr := HBW.out.trans (hB.mono (by omega))
        have HBR := Lib.hid hBR
        obtain ⟨x0, x1, x2, x3, x4⟩ := ha1.below hBR ha1.lt
        obtain ⟨y0, y1, y2, y3, y4⟩ := ha2.below hBR ha2.lt
        have m1 := m0
        clear m0
        have m2 : wr.cell? ⟨w.heap.size + 1, 4, none⟩ = some (.slice (some ⟨b2, o2, none⟩) l2.length c2) := (hB.cell (p := ⟨w.heap.size + 1, 4, none⟩) (by simp; omega)).trans (hb_at B2.out 4 rfl)
        have HC : RowKit.Hid (∀ W, Below wr.heap.size wr W → Calls Tryd.prog 17 #[tv k1' p1' n1' N1' s1', tv k2' p2' n2' N2' s2'] W (SameR x y W)) :=
          Lib.hid fun W hW => ih _ _ _ _ W ((ht1.below hBR).below hW) ((ht2.below hBR).below hW)
        have hki1 : (k : Int) < (l1.length : Int) := by omega
        have hki2 : (k : Int) < (l2.length : Int) := by omega
        clear hx1 hx2 ht1 ht2 ha1 ha2 hB hBR
        go_wp2
        refine wp_region_held_drew (S := (fun w' => RowKit.Hid (Below wr.heap.size wr w') ∧ w'.cell? ⟨w.heap.size, 4, none⟩ = some (.slice (some ⟨b1, o1, none⟩) l1.length c1) ∧ w'.cell? ⟨w.heap.size + 1, 4, none⟩ = some (.slice (some ⟨b2, o2, none⟩) l2.length c2) ∧ w'.cell? ⟨b1, o1 + k * 5, none⟩ = some (.int .i64 k1') ∧ w'.cell? ⟨b1, o1 + k * 5 + 1, none⟩ = some (.string p1') ∧ w'.cell? ⟨b1, o1 + k * 5 + 2, none⟩ = some (.string n1') ∧ w'.cell? ⟨b1, o1 + k * 5 + 3, none⟩ = some (.int .i64 N1') ∧ w'.cell? ⟨b1, o1 + k * 5 + 4, none⟩ = some (s1') ∧ w'.cell? ⟨b2, o2 + k * 5, none⟩ = some (.int .i64 k2') ∧ w'.cell? ⟨b2, o2 + k * 5 + 1, none⟩ = some (.string p2') ∧ w'.cell? ⟨b2, o2 + k * 5 + 2, none⟩ = some (.string n2') ∧ w'.cell? ⟨b2, o2 + k * 5 + 3, none⟩ = some (.int .i64 N2') ∧ w'.cell? ⟨b2, o2 + k * 5 + 4, none⟩ = some (s2'))) (by kernel_rfl) (by exact ⟨Lib.hid (below_drewN (Below.refl _ _) 1), m1, m2, x0, x1, x2, x3, x4, y0, y1, y2, y3, y4⟩) (fun hHeld => ?_)
        refine wpAnyH_take (i := 0) (oi := ⟨some 48, _, _, _, _, _⟩) (v := ?_) rfl (by kernel_rfl) (by kernel_rfl) (by kernel_rfl) (fun _ _ _ h => h) (Or.inl ⟨by rfl, ?_⟩) (by assumption) ?_
        rotate_left
        focus (intro w hSw; (try dsimp only at hSw); go_simp; first | done | with_reducible rfl)
        try simp only [Act.put, List.setIfInBounds_toArray, List.set_cons_zero, List.set_cons_succ]
        refine wpAnyH_take (i := 1) (oi := ⟨some 49, _, _, _, _, _⟩) (v := ?_) rfl (by kernel_rfl) (by kernel_rfl) (by kernel_rfl) (fun _ _ _ h => h) (Or.inl ⟨by rfl, ?_⟩) (by assumption) ?_
        rotate_left
        focus (intro w hSw; (try dsimp only at hSw); go_simp; first | done | with_reducible rfl)
        try simp only [Act.put, List.setIfInBounds_toArray, List.set_cons_zero, List.set_cons_succ]
        refine wpAnyH_take (i := 2) (oi := ⟨some 50, _, _, _, _, _⟩) (v := ?_) rfl (by kernel_rfl) (by kernel_rfl) (by kernel_rfl) (fun _ _ _ h => h) (Or.inl ⟨by rfl, ?_⟩) (by assumption) ?_
        rotate_left
        focus (intro w hSw; (try dsimp only at hSw); go_simp; first | done | with_reducible rfl)
        try simp only [Act.put, List.setIfInBounds_toArray, List.set_cons_zero, List.set_cons_succ]
        refine wpAnyH_take (i := 3) (oi := ⟨some 51, _, _, _, _, _⟩) (v := ?_) rfl (by kernel_rfl) (by kernel_rfl) (by kernel_rfl) (fun _ _ _ h => h) (Or.inl ⟨by rfl, ?_⟩) (by assumption) ?_
        rotate_left
        focus (intro w hSw; (try dsimp only at hSw); go_simp; first | done | with_reducible rfl)
        try simp only [Act.put, List.setIfInBounds_toArray, List.set_cons_zero, List.set_cons_succ]
        refine wpAnyH_take (i := 4) (oi := ⟨some 52, _, _, _, _, _⟩) (v := ?_) rfl (by kernel_rfl) (by kernel_rfl) (by kernel_rfl) (fun _ _ _ h => h) (Or.inl ⟨by rfl, ?_⟩) (by assumption) ?_
        rotate_left
        focus (intro w hSw; (try dsimp only at hSw); go_simp; first | done | with_reducible rfl)
        try simp only [Act.put, List.setIfInBounds_toArray, List.set_cons_zero, List.set_cons_succ]
        refine wpAnyH_take (i := 5) (oi := ⟨some 53, _, _, _, _, _⟩) (v := ?_) rfl (by kernel_rfl) (by kernel_rfl) (by kernel_rfl) (fun _ _ _ h => h) (Or.inl ⟨by rfl, ?_⟩) (by assumption) ?_
        rotate_left
        focus (intro w hSw; (try dsimp only at hSw); go_simp; first | done | with_reducible rfl)
        try simp only [Act.put, List.setIfInBounds_toArray, List.set_cons_zero, List.set_cons_succ]
        refine wpAnyH_take (i := 6) (oi := ⟨some 54, _, _, _, _, _⟩) (v := ?_) rfl (by kernel_rfl) (by kernel_rfl) (by kernel_rfl) (fun _ _ _ h => h) (Or.inl ⟨by rfl, ?_⟩) (by assumption) ?_
        rotate_left
        focus (intro w hSw; (try dsimp only at hSw); go_simp; first | done | with_reducible rfl)
        try simp only [Act.put, List.setIfInBounds_toArray, List.set_cons_zero, List.set_cons_succ]
        refine wpAnyH_take (i := 7) (oi := ⟨some 55, _, _, _, _, _⟩) (v := ?_) rfl (by kernel_rfl) (by kernel_rfl) (by kernel_rfl) (fun _ _ _ h => h) (Or.inl ⟨by rfl, ?_⟩) (by assumption) ?_
        rotate_left
        focus (intro w hSw; (try dsimp only at hSw); go_simp; first | done | with_reducible rfl)
        try simp only [Act.put, List.setIfInBounds_toArray, List.set_cons_zero, List.set_cons_succ]
        refine wpAnyH_take (i := 8) (oi := ⟨some 56, _, _, _, _, _⟩) (v := ?_) rfl (by kernel_rfl) (by kernel_rfl) (by kernel_rfl) (fun _ _ _ h => h) (Or.inl ⟨by rfl, ?_⟩) (by assumption) ?_
        rotate_left
        focus (intro w hSw; (try dsimp only at hSw); go_simp; first | done | with_reducible rfl)
        try simp only [Act.put, List.setIfInBounds_toArray, List.set_cons_zero, List.set_cons_succ]
        refine wpAnyH_take (i := 9) (oi := ⟨some 57, _, _, _, _, _⟩) (v := ?_) rfl (by kernel_rfl) (by kernel_rfl) (by kernel_rfl) (fun _ _ _ h => h) (Or.inl ⟨by rfl, ?_⟩) (by assumption) ?_
        rotate_left
        focus (intro w hSw; (try dsimp only at hSw); go_simp; first | done | with_reducible rfl)
        try simp only [Act.put, List.setIfInBounds_toArray, List.set_cons_zero, List.set_cons_succ]
        refine wpAnyH_ready (rs := [10]) (by kernel_rfl) (by simp) ?_
        refine AllReadyH.cons (o := ⟨some 58, _, _, _, _, _⟩) rfl (fun K hK => ?_) AllReadyH.nil
        go_simp
        ((with_reducible refine (HC.out _ hHeld.1.out).mono ?_); rintro e w3 ⟨rfl, hb⟩)
        go_wp2_with fail
        refine hK.out _ _ (by exact ⟨Lib.hid (hHeld.1.out.trans (hb.mono hHeld.1.out.size)), keep_cell hb hHeld.2.1, keep_cell hb hHeld.2.2.1, keep_cell hb hHeld.2.2.2.1, keep_cell hb hHeld.2.2.2.2.1, keep_cell hb hHeld.2.2.2.2.2.1, keep_cell hb hHeld.2.2.2.2.2.2.1, keep_cell hb hHeld.2.2.2.2.2.2.2.1, keep_cell hb hHeld.2.2.2.2.2.2.2.2.1, keep_cell hb hHeld.2.2.2.2.2.2.2.2.2.1, keep_cell hb hHeld.2.2.2.2.2.2.2.2.2.2.1, keep_cell hb hHeld.2.2.2.2.2.2.2.2.2.2.2.1, keep_cell hb hHeld.2.2.2.2.2.2.2.2.2.2.2.2⟩) (fun hNew => ?_)
        clear hK K
        clear hHeld hb; have hHeld := hNew; clear hNew
        try simp only [Act.put, List.setIfInBounds_toArray, List.set_cons_zero, List.set_cons_succ]
        refine wpAnyH_take (i := 11) (oi := ⟨some 59, _, _, _, _, _⟩) (v := ?_) rfl (by kernel_rfl) (by kernel_rfl) (by kernel_rfl) (fun _ _ _ h => h) (Or.inl ⟨by rfl, ?_⟩) (by assumption) ?_
        rotate_left
        focus (intro w hSw; (try dsimp only at hSw); go_simp; first | done | with_reducible rfl)
        try simp only [Act.put, List.setIfInBounds_toArray, List.set_cons_zero, List.set_cons_succ]
        refine wpAnyH_done (by kernel_rfl) ?_ _
        have HQ := Lib.hid (HB.out.trans (hHeld.1.out.mono hzr))
        clear hHeld
        generalize hg : same x y = r
        have HG := Lib.hid hg
        clear hg
        cases r
        · have HNO := Lib.hid (agree_not HX1.out HX2.out (fun e => by have h := HG.out; rw [e, same_self] at h; cases h))
          go_wp2
          go_ret
          exact ⟨ret_bool (same_no (by intro h; cases h; exact HNO.out rfl)).symm, HBW.out.trans (HQ.out.mono (by omega))⟩
        · have HAN := Lib.hid (agree_next HAG.out HX1.out HX2.out (same_iff.1 HG.out))
          go_wp2
          go_roundw
          case rel => exact ⟨k + 1, by omega, by go_num, HAN.out, HQ.out⟩
          case measure => simp [intOf]; omega
      · obtain rfl : k = l1.length := by omega
        go_wp2
        go_ret
        exact ⟨ret_bool (same_iff.2 (by rw [agree_all HL.out HAG.out])).symm, HBW.out.trans (HB.out.mono (by omega))⟩
end Go.Proofs.YtncebhddcokkoaaDoor
/- Size, weight, Few. -/
namespace Go.Proofs.YtncebhddcokkoaaDoor
open Go.RowKit
/-- How many terms there are, reckoned as Go does. -/
def sz : Nat → Tm → Int
  | 0, _ => 0
  | d + 1, .mk _ _ _ _ kids => kids.foldl (fun n t => wrap64 (n + sz d t)) 1
def szTo (d k : Nat) (kids : List Tm) : Int := (kids.take k).foldl (fun n t => wrap64 (n + sz d t)) 1
theorem szTo_next {d k : Nat} {kids : List Tm} (h : k < kids.length) : szTo d (k + 1) kids = wrap64 (szTo d k kids + sz d kids[k]) := by
  unfold szTo
  rw [List.take_succ_eq_append_getElem h, List.foldl_append]
  rfl
theorem szTo_all {d : Nat} {k : Int} {p n : ByteArray} {N : Int} {kids : List Tm} : szTo d kids.length kids = sz (d + 1) (.mk k p n N kids) := by
  unfold szTo
  rw [List.take_length]
  rfl
theorem IsT.spell {w : World} {d : Nat} {k : Int} {p n : ByteArray} {N : Int} {s : Value} {x : Tm} (h : IsT w d (tv k p n N s) x) : ∃ q l c, s = .slice q l c := by
  obtain ⟨d1, k1, p1, n1, N1, s1, l1, e1, rfl, e2, _, _, q, c, hs, _⟩ := h.open
  injection e2 with e2
  simp at e2
  obtain ⟨_, _, _, _, rfl⟩ := e2
  exact ⟨q, _, c, hs⟩
def SizeR (d : Nat) (t : Tm) (w : World) (e : Ending) (w' : World) : Prop := e = .returned (.int .i64 (sz d t)) ∧ Below w.heap.size w w'
end Go.Proofs.YtncebhddcokkoaaDoor
