/- Size, weight, Few. -/
import Derived.Test.YthcpmdgdbceeiaaGreatDoorT3
import Derived.Deep.DeepCutAuto
namespace Go.Proofs.YthcpmdgdbceeiaaGreatDoor
open Go.RowKit
/-- How many terms there are, reckoned as Go does. -/
def sz : Nat → Tm → Int
  | 0, _ => 0
  | d + 1, .mk _ _ _ _ kids => kids.foldl (fun n t => wrap64 (n + sz d t)) 1
def szTo (d k : Nat) (kids : List Tm) : Int := (kids.take k).foldl (fun n t => wrap64 (n + sz d t)) 1
theorem szTo_next {d k : Nat} {kids : List Tm} (h : k < kids.length) : szTo d (k + 1) kids = wrap64 (szTo d k kids + sz d kids[k]) := by
  unfold szTo
  rw [List.take_succ_eq_append_getElem h, List.foldl_append]
  rfl
theorem szTo_all {d : Nat} {k : Int} {p n : ByteArray} {N : Int} {kids : List Tm} : szTo d kids.length kids = sz (d + 1) (.mk k p n N kids) := by
  unfold szTo
  rw [List.take_length]
  rfl
theorem IsT.spell {w : World} {d : Nat} {k : Int} {p n : ByteArray} {N : Int} {s : Value} {x : Tm} (h : IsT w d (tv k p n N s) x) : ∃ q l c, s = .slice q l c := by
  obtain ⟨d1, k1, p1, n1, N1, s1, l1, e1, rfl, e2, _, _, q, c, hs, _⟩ := h.open
  injection e2 with e2
  simp at e2
  obtain ⟨_, _, _, _, rfl⟩ := e2
  exact ⟨q, _, c, hs⟩
def SizeR (d : Nat) (t : Tm) (w : World) (e : Ending) (w' : World) : Prop := e = .returned (.int .i64 (sz d t)) ∧ Below w.heap.size w w'
set_option maxRecDepth 100000 in
set_option maxHeartbeats 2000000 in
theorem size_any (d : Nat) : ∀ (va : Value) (ta : Tm) (w : World), IsT w d va ta → Calls Tryz.prog 15 #[va] w (SizeR d ta w) := by
  induction d with
  | zero => intro va ta w h; cases h
  | succ d ih =>
    intro va ta w ha
    obtain ⟨d1, k1, p1, n1, N1, s1, l1, e1, rfl, rfl, hp1, hn1, hk1⟩ := ha.open
    obtain rfl : d = d1 := by omega
    obtain ⟨q1, c1, hs1, hm1, hr1⟩ := hk1
    subst hs1
    have HR1 := Lib.hid hr1
    clear ha e1 hr1 hp1 hn1
    unfold maxLen at hm1
    have HIH := Lib.hid ih
    clear ih
    go_enter Tryz.func15, Tryz.ntmps15
    go_wp2
    have hBW : Below w.heap.size w (w.alloc (.cells #[.int .i64 k1, .string p1, .string n1, .int .i64 N1, .slice q1 l1.length c1] 24)) := below_alloc w _
    generalize hW1 : w.alloc (.cells #[.int .i64 k1, .string p1, .string n1, .int .i64 N1, .slice q1 l1.length c1] 24) = W1 at *
    have HBW := Lib.hid hBW
    have hzw : w.heap.size ≤ W1.heap.size := hBW.size
    clear hW1 hBW
    go_loopw [3, 9] (fun n i wr => ∃ k : Nat, k ≤ l1.length ∧ i = .int .i64 k ∧ n = .int .i64 (szTo d k l1) ∧ Below W1.heap.size W1 wr) (fun _ i _ => l1.length - (intOf i).toNat)
    case atStart => exact ⟨0, Nat.zero_le _, rfl, rfl, Below.refl _ _⟩
    case round =>
      obtain ⟨k, hk, rfl, rfl, hB⟩ := hrel
      have hzr := hB.size
      have HB := Lib.hid hB
      by_cases hlt : k < l1.length
      · have hx1 := List.getElem?_eq_getElem hlt
        have HN := Lib.hid (szTo_next (d := d) hlt)
        generalize l1[k] = x at *
        obtain ⟨b1, o1, k1', p1', n1', N1', s1', hq1, ha1, ht1⟩ := HR1.out k x hx1
        subst hq1
        obtain ⟨q3, l3, c3, hs3⟩ := ht1.spell
        subst hs3
        have hBR : Below w.heap.size w wr := HBW.out.trans (hB.mono (by omega))
        obtain ⟨x0, x1, x2, x3, x4⟩ := ha1.below hBR ha1.lt
        have HC : RowKit.Hid (∀ W, Below wr.heap.size wr W → Calls Tryz.prog 15 #[tv k1' p1' n1' N1' (.slice q3 l3 c3)] W (SizeR d x W)) :=
          Lib.hid fun W hW => HIH.out _ _ W ((ht1.below hBR).below hW)
        clear hx1 ht1 ha1 hB hBR
        generalize szTo d k l1 = m at *
        go_wp2_with (go_at_call 15; ((with_reducible refine (HC.out _ (below_alloc wr _)).mono ?_); rintro e w3 ⟨rfl, hb⟩))
        have HQ := Lib.hid (HB.out.trans (((below_alloc wr _).trans (hb.mono (by simp))).mono hzr))
        go_roundw
        case rel => exact ⟨k + 1, by omega, by go_num, by rw [HN.out], HQ.out⟩
        case measure => simp [intOf]; omega
      · obtain rfl : k = l1.length := by omega
        go_wp2
        go_ret
        exact ⟨ret_int szTo_all, HBW.out.trans (HB.out.mono (by omega))⟩
def SomeI (w : World) (e : Ending) (w' : World) : Prop := ∃ n : Int, e = .returned (.int .i64 n) ∧ Below w.heap.size w w'
set_option maxRecDepth 100000 in
set_option maxHeartbeats 2000000 in
theorem weight_any (d : Nat) : ∀ (va : Value) (ta : Tm) (deep : Int) (w : World), IsT w d va ta → Calls Tryz.prog 26 #[va, .int .i64 deep] w (SomeI w) := by
  induction d with
  | zero => intro va ta deep w h; cases h
  | succ d ih =>
    intro va ta deep w ha
    obtain ⟨d1, k1, p1, n1, N1, s1, l1, e1, rfl, rfl, hp1, hn1, hk1⟩ := ha.open
    obtain rfl : d = d1 := by omega
    obtain ⟨q1, c1, hs1, hm1, hr1⟩ := hk1
    subst hs1
    have HR1 := Lib.hid hr1
    clear ha e1 hr1
    unfold maxLen at hm1 hp1 hn1
    have HIH := Lib.hid ih
    clear ih
    by_cases hd : 90 < deep
    · go_enter Tryz.func26, Tryz.ntmps26
      go_wp2
      go_ret
      exact ⟨_, rfl, below_alloc w _⟩
    by_cases hl : (300 : Int) < (l1.length : Int)
    · go_enter Tryz.func26, Tryz.ntmps26
      go_wp2
      go_ret
      exact ⟨_, rfl, below_alloc w _⟩
    have hd' : deep ≤ 90 := by omega
    have hl' : (l1.length : Int) ≤ 300 := by omega
    have hd2 : decide (90 < deep) = false := by simpa using hd'
    have hl2 : decide ((300 : Int) < (l1.length : Int)) = false := by simpa using hl'
    clear hd hl
    have hnew := Lib.hid (hb_new w (.cells #[.int .i64 k1, .string p1, .string n1, .int .i64 N1, .slice q1 l1.length c1] 24))
    go_enter Tryz.func26, Tryz.ntmps26
    go_upto_region 3 with (fail)
    generalize hW1 : w.alloc (.cells #[.int .i64 k1, .string p1, .string n1, .int .i64 N1, .slice q1 l1.length c1] 24) = W1 at *
    have hBW : Below w.heap.size w W1 := by rw [← hW1]; exact below_alloc w _
    have HBW := Lib.hid hBW
    have hzw : w.heap.size + 1 ≤ W1.heap.size := by rw [← hW1]; simp
    have m1 := hb_at hnew.out 1 rfl
    have m2 := hb_at hnew.out 2 rfl
    have m4 := hb_at hnew.out 4 rfl
    clear hW1 hBW
    go_cut [5] (fun v wx => (∃ m : Int, v = .int .i64 m) ∧ wx = W1)
    case first =>
      go_wp2_with fail
      all_goals
        go_meet
        exact ⟨⟨_, rfl⟩, rfl⟩
    case rest =>
      obtain ⟨⟨m0, rfl⟩, rfl⟩ := hcut
      go_wp2
      have M4 : RowKit.Hid (wc.cell? ⟨w.heap.size, 4, none⟩ = some (.slice q1 l1.length c1)) := Lib.hid m4
      clear m1 m2 m4
      go_loopw [5, 29] (fun n i wr => ∃ k : Nat, k ≤ l1.length ∧ i = .int .i64 k ∧ (∃ m : Int, n = .int .i64 m) ∧ Below wc.heap.size wc wr) (fun _ i _ => l1.length - (intOf i).toNat)
      case atStart => exact ⟨0, Nat.zero_le _, rfl, ⟨_, rfl⟩, Below.refl _ _⟩
      case round =>
        obtain ⟨k, hk, rfl, ⟨m, rfl⟩, hB⟩ := hrel
        have hzr := hB.size
        have HB := Lib.hid hB
        by_cases hlt : k < l1.length
        · have hx1 := List.getElem?_eq_getElem hlt
          generalize l1[k] = x at *
          obtain ⟨b1, o1, k1', p1', n1', N1', s1', hq1, ha1, ht1⟩ := HR1.out k x hx1
          subst hq1
          have hBR : Below w.heap.size w wr := HBW.out.trans (hB.mono (by omega))
          obtain ⟨x0, x1, x2, x3, x4⟩ := ha1.below hBR ha1.lt
          have m4 : wr.cell? ⟨w.heap.size, 4, none⟩ = some (.slice (some ⟨b1, o1, none⟩) l1.length c1) := (hB.cell (p := ⟨w.heap.size, 4, none⟩) (by simp; omega)).trans M4.out
          have HC : RowKit.Hid (∀ deep, Calls Tryz.prog 26 #[tv k1' p1' n1' N1' s1', .int .i64 deep] wr (SomeI wr)) :=
            Lib.hid fun deep => HIH.out _ _ deep wr (ht1.below hBR)
          clear hx1 ht1 ha1 hB hBR
          by_cases hm : m < 100000
          · go_wp2_with (go_at_call 26; ((with_reducible refine (HC.out _).mono ?_); rintro e w3 ⟨m3, rfl, hb⟩))
            have HQ := Lib.hid (HB.out.trans (hb.mono hzr))
            go_roundw
            case rel => exact ⟨k + 1, by omega, by go_num, ⟨_, rfl⟩, HQ.out⟩
            case measure => simp [intOf]; omega
          · go_wp2
            go_roundw
            case rel => exact ⟨k + 1, by omega, by go_num, ⟨_, rfl⟩, HB.out⟩
            case measure => simp [intOf]; omega
        · obtain rfl : k = l1.length := by omega
          go_wp2
          all_goals
            go_ret
            exact ⟨_, rfl, HBW.out.trans (HB.out.mono (by omega))⟩
def SomeB (w : World) (e : Ending) (w' : World) : Prop := ∃ r : Bool, e = .returned (.bool r) ∧ Below w.heap.size w w'
set_option maxRecDepth 100000 in
theorem few_any (d : Nat) (va : Value) (ta : Tm) (w : World) (h : IsT w d va ta) : Calls Tryz.prog 7 #[va] w (SomeB w) := by
  have HT := Lib.hid h
  obtain ⟨d1, k1, p1, n1, N1, s1, l1, e1, rfl, e2, _, _, _⟩ := h.open
  subst e2
  clear h e1
  have HC := Lib.hid (weight_any d _ _ 0 _ (HT.out.below (below_alloc w (.cells #[.int .i64 k1, .string p1, .string n1, .int .i64 N1, s1] 24))))
  go_enter Tryz.func7, Tryz.ntmps7
  go_wp2_with (go_at_call 26; ((with_reducible refine HC.out.mono ?_); rintro e w3 ⟨m3, rfl, hb⟩))
  go_ret
  exact ⟨_, rfl, (below_alloc w _).trans (hb.mono (by simp))⟩
end Go.Proofs.YthcpmdgdbceeiaaGreatDoor
