/- Which terms are types; what is gone through. -/
import Derived.Test.YtknbhnicmgglbaaDoorUb
import Derived.Test.YtknbhnicmgglbaaDoorZm
import Derived.Deep.QuietTactic
import Derived.BigQuiet
import Derived.Deep.DeepCutAuto
import Derived.Outline
namespace Go.Proofs.YtknbhnicmgglbaaDoor
open Go.RowKit
set_option linter.unusedVariables false
def TypesP (d : Nat) (t : Tm) (w : World) (e : Ending) (w' : World) : Prop := ∃ r : Bool, e = .returned (.bool r) ∧ (r = true → Ty d t) ∧ Below w.heap.size w w'
set_option maxRecDepth 100000 in
set_option maxHeartbeats 4000000 in
theorem types_any (d : Nat) : ∀ (va : Value) (ta : Tm) (w : World), IsT w d va ta → Calls Tryd.prog 18 #[va] w (TypesP d ta w) := by
  induction d with
  | zero => intro va ta w h; cases h
  | succ d ih =>
    intro va ta w ha
    obtain ⟨d1, k1, p1, n1, N1, s1, l1, e1, rfl, rfl, hp1, hn1, hk1⟩ := ha.open
    obtain rfl : d = d1 := by omega
    obtain ⟨q1, c1, hs1, hm1, hr1⟩ := hk1
    subst hs1
    have HR1 := Lib.hid hr1
    clear ha e1 hr1
    unfold maxLen at hm1 hp1 hn1
    have HIH := Lib.hid ih
    clear ih
    generalize hL : l1.length = L at *
    have HL := Lib.hid hL
    clear hL
    have hnew := Lib.hid (hb_new w (.cells #[.int .i64 k1, .string p1, .string n1, .int .i64 N1, .slice q1 L c1] 24))
    have HB0 := Lib.hid (below_alloc w (.cells #[.int .i64 k1, .string p1, .string n1, .int .i64 N1, .slice q1 L c1] 24))
    by_cases h1 : k1 < 1
    · skip
      go_enter Tryd.func18, Tryd.ntmps18
      go_wp2
      go_ret
      exact ⟨_, rfl, (by intro h; cases h), HB0.out⟩
    by_cases h2 : 4 < k1
    · have h1' : decide (k1 < 1) = false := by simpa using h1
      go_enter Tryd.func18, Tryd.ntmps18
      go_wp2
      go_ret
      exact ⟨_, rfl, (by intro h; cases h), HB0.out⟩
    have h1' : decide (k1 < 1) = false := by simpa using h1
    have h2' : decide (4 < k1) = false := by simpa using h2
    by_cases h3 : N1 = 0
    rotate_left
    · have h3' : (N1 != 0) = true := by simpa using h3
      go_enter Tryd.func18, Tryd.ntmps18
      go_wp2
      go_ret
      exact ⟨_, rfl, (by intro h; cases h), HB0.out⟩
    subst h3
    by_cases h5 : k1 = 1
    · subst h5
      clear h1 h2 h1' h2'
      by_cases h6 : L = 0
      · subst h6
        by_cases h7 : p1 = ⟨#[]⟩
        · subst h7
          go_enter Tryd.func18, Tryd.ntmps18
          go_upto_region 3 with fail
          generalize hW1 : w.alloc (.cells #[.int .i64 1, .string ⟨#[]⟩, .string n1, .int .i64 0, .slice q1 0 c1] 24) = W1 at *
          have hzw : w.heap.size + 1 ≤ W1.heap.size := by rw [← hW1]; simp
          clear hW1
          go_wp2
          go_loopw [3] (fun i wr => ∃ k : Nat, k ≤ 0 ∧ i = .int .i64 k ∧ Below W1.heap.size W1 wr ∧ ∀ (i : Nat) (x : Tm), i < k → l1[i]? = some x → Ty d x) (fun i _ => 0 - (intOf i).toNat)
          case atStart => exact ⟨0, Nat.zero_le _, rfl, Below.refl _ _, fun i x hi => absurd hi (by omega)⟩
          case round =>
            obtain ⟨k, hk, rfl, hB, hty⟩ := hrel
            have HTY := Lib.hid hty
            clear hty
            have hzr := hB.size
            have HB := Lib.hid hB
            have m4 : wr.cell? ⟨w.heap.size, 4, none⟩ = some (.slice q1 0 c1) := (hB.cell (p := ⟨w.heap.size, 4, none⟩) (by simp; omega)).trans (hb_at hnew.out 4 rfl)
            by_cases hlt : k < 0
            · exact absurd hlt (by omega)
            · obtain rfl : k = 0 := by omega
              go_wp2
              go_ret
              refine ⟨_, rfl, (fun _ => ⟨rfl, (fun _ => ⟨List.length_eq_zero_iff.1 HL.out, rfl⟩), fun y hy => ?_⟩), HB0.out.trans (HB.out.mono (by omega))⟩
              obtain ⟨i, hi⟩ := List.getElem?_of_mem hy
              exact HTY.out i y (by have h9 := (List.getElem?_eq_some_iff.1 hi).1; have h8 := HL.out; omega) hi
        · have h7d : p1.toList.isEmpty = false := by
            cases h : p1.toList.isEmpty with
            | false => rfl
            | true =>
              refine absurd (toList_inj (b := ⟨#[]⟩) ?_) h7
              rw [List.isEmpty_iff.1 h, ByteArray.toList_eq]
          clear h7
          go_enter Tryd.func18, Tryd.ntmps18
          go_wp2
          go_ret
          exact ⟨_, rfl, (by intro h; cases h), HB0.out⟩
      · have h6' : (0 : Int) < (L : Int) := by omega
        go_enter Tryd.func18, Tryd.ntmps18
        go_wp2
        go_ret
        exact ⟨_, rfl, (by intro h; cases h), HB0.out⟩
    · have h5' : (k1 == 1) = false := by simpa using h5
      go_enter Tryd.func18, Tryd.ntmps18
      go_upto_region 3 with fail
      generalize hW1 : w.alloc (.cells #[.int .i64 k1, .string p1, .string n1, .int .i64 0, .slice q1 L c1] 24) = W1 at *
      have hzw : w.heap.size + 1 ≤ W1.heap.size := by rw [← hW1]; simp
      clear hW1
      go_wp2
      go_loopw [3] (fun i wr => ∃ k : Nat, k ≤ L ∧ i = .int .i64 k ∧ Below W1.heap.size W1 wr ∧ ∀ (i : Nat) (x : Tm), i < k → l1[i]? = some x → Ty d x) (fun i _ => L - (intOf i).toNat)
      case atStart => exact ⟨0, Nat.zero_le _, rfl, Below.refl _ _, fun i x hi => absurd hi (by omega)⟩
      case round =>
        obtain ⟨k, hk, rfl, hB, hty⟩ := hrel
        have HTY := Lib.hid hty
        clear hty
        have hzr := hB.size
        have HB := Lib.hid hB
        have m4 : wr.cell? ⟨w.heap.size, 4, none⟩ = some (.slice q1 L c1) := (hB.cell (p := ⟨w.heap.size, 4, none⟩) (by simp; omega)).trans (hb_at hnew.out 4 rfl)
        by_cases hlt : k < L
        · have hx1 : ∃ x, l1[k]? = some x := ⟨_, List.getElem?_eq_getElem (by have := HL.out; omega)⟩
          obtain ⟨x, hx1⟩ := hx1
          obtain ⟨b1, o1, k1', p1', n1', N1', s1', hq1, ha1, ht1⟩ := HR1.out k x hx1
          subst hq1
          have hBR : Below w.heap.size w wr := HB0.out.trans (hB.mono (by omega))
          obtain ⟨x0, x1, x2, x3, x4⟩ := ha1.below hBR ha1.lt
          have HC : RowKit.Hid (Calls Tryd.prog 18 #[tv k1' p1' n1' N1' s1'] wr (TypesP d x wr)) := Lib.hid (HIH.out _ _ wr (ht1.below hBR))
          have hki : (k : Int) < (L : Int) := by omega
          have HX1 := Lib.hid hx1
          clear hx1 ht1 ha1 hB hBR
          go_upto_region 6 with fail
          go_cut [46] (fun v wx => ∃ r : Bool, v = .bool (!r) ∧ (r = true → Ty d x) ∧ Below wr.heap.size wr wx)
          case first =>
            go_wp2_with (go_at_call 18; refine HC.out.mono ?_; rintro e w3 ⟨r, rfl, hr, hb⟩; have HRT := Lib.hid hr; clear hr)
            go_meet
            exact ⟨r, rfl, HRT.out, hb⟩
          case rest =>
            obtain ⟨r, rfl, hr, hb⟩ := hcut
            have HRT := Lib.hid hr
            clear hr
            have HQ := Lib.hid (HB.out.trans (hb.mono hzr))
            cases r
            · go_wp2
              go_ret
              exact ⟨_, rfl, (by intro h; cases h), HB0.out.trans (HQ.out.mono (by omega))⟩
            · go_wp2
              go_roundw
              case rel =>
                refine ⟨k + 1, by omega, by go_num, HQ.out, fun i y hi hy => ?_⟩
                by_cases hik : i < k
                · exact HTY.out i y hik hy
                · obtain rfl : i = k := by omega
                  rw [HX1.out] at hy
                  cases hy
                  exact HRT.out rfl
              case measure => simp [intOf]; omega
        · obtain rfl : k = L := by omega
          go_wp2
          go_ret
          refine ⟨_, rfl, (fun _ => ⟨rfl, (fun e => absurd e h5), fun y hy => ?_⟩), HB0.out.trans (HB.out.mono (by omega))⟩
          obtain ⟨i, hi⟩ := List.getElem?_of_mem hy
          exact HTY.out i y (by have h9 := (List.getElem?_eq_some_iff.1 hi).1; have h8 := HL.out; omega) hi
/-- What Few tells, as a type. -/
def Few4P (d : Nat) (t : Tm) (w : World) (e : Ending) (w' : World) : Prop := ∃ r : Bool, e = .returned (.bool r) ∧ (r = true → Sm d t ∧ tszN d t ≤ 600 ∧ Ty d t) ∧ Below w.heap.size w w'
set_option maxRecDepth 100000 in
theorem few4_any (d : Nat) (va : Value) (ta : Tm) (w : World) (h : IsT w d va ta) : Calls Tryd.prog 5 #[va] w (Few4P d ta w) := by
  have HT := Lib.hid h
  obtain ⟨d1, k1, p1, n1, N1, s1, l1, e1, rfl, e2, _, _, hk⟩ := h.open
  subst e2
  clear h e1
  obtain ⟨q1, c1, rfl, _, _⟩ := hk
  generalize l1.length = L at *
  have hB0 := below_alloc w (.cells #[.int .i64 k1, .string p1, .string n1, .int .i64 N1, .slice q1 L c1] 24)
  have hnew := Lib.hid (hb_new w (.cells #[.int .i64 k1, .string p1, .string n1, .int .i64 N1, .slice q1 L c1] 24))
  have HB0 := Lib.hid hB0
  have HT1 := Lib.hid (HT.out.below hB0)
  clear hB0
  have HC := Lib.hid (few2_any d _ _ _ HT1.out)
  go_enter Tryd.func5, Tryd.ntmps5
  go_wp2_with (first
    | (go_at_call 17; refine HC.out.mono ?_; rintro e w3 ⟨r, rfl, hr, hb⟩; have HB3 := Lib.hid hb; have HRR := Lib.hid hr; have u := hb_below hnew.out hb (by simp); have x0 := hb_at u 0 rfl; have x1 := hb_at u 1 rfl; have x2 := hb_at u 2 rfl; have x3 := hb_at u 3 rfl; have x4 := hb_at u 4 rfl; have HT3 := Lib.hid (HT1.out.below hb); clear hb hr u; cases r)
    | (go_at_call 18; refine (types_any d _ _ _ HT3.out).mono ?_; rintro e w5 ⟨r5, rfl, hr5, hb5⟩; have HB5 := Lib.hid hb5; have HR5 := Lib.hid hr5; clear hb5 hr5))
  · go_ret
    exact ⟨_, rfl, (by intro h; cases h), HB0.out.trans (HB3.out.mono HB0.out.size)⟩
  · have hB3 : Below w.heap.size w w3 := HB0.out.trans (HB3.out.mono HB0.out.size)
    go_ret
    refine ⟨_, rfl, fun h => ?_, hB3.trans (HB5.out.mono hB3.size)⟩
    exact ⟨(HRR.out (by simp)).1, (HRR.out (by simp)).2, HR5.out h⟩
end Go.Proofs.YtknbhnicmgglbaaDoor
