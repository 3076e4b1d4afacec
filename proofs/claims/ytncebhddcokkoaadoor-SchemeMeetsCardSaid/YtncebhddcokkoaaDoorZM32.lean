/- Texts in a row: Mb Mj Ml. -/
import Derived.Test.YtncebhddcokkoaaDoorZM31
import Derived.Deep.QuietTactic
import Derived.BigQuiet
import Derived.Deep.DeepCutAuto
import Derived.Outline
/- What the law's examples come to. -/
namespace Go.Proofs.YtncebhddcokkoaaDoor
open Go.RowKit Go.Maps
set_option linter.unusedSimpArgs false
set_option linter.unusedVariables false
def sA : ByteArray := ⟨#[97]⟩
def sB : ByteArray := ⟨#[98]⟩
def cInt : Tm := .mk 2 ⟨#[]⟩ ⟨#[105, 110, 116]⟩ 0 []
def cList (t : Tm) : Tm := .mk 2 ⟨#[]⟩ ⟨#[108, 105, 115, 116]⟩ 0 [t]
def eq1 : List (Tm × Tm) := [(fun13 (vN sA) cInt, fun13 (vN sB) (vN sB))]
def eq2 : List (Tm × Tm) := [(vN sA, cList (vN sA))]
end Go.Proofs.YtncebhddcokkoaaDoor
/- Which terms are types, told more closely. -/
namespace Go.Proofs.YtncebhddcokkoaaDoor
open Go.RowKit
set_option linter.unusedVariables false
def TypP (d : Nat) (t : Tm) (w : World) (e : Ending) (w' : World) : Prop := ∃ r : Bool, e = .returned (.bool r) ∧ (r = true → Typ t) ∧ Below w.heap.size w w'
set_option maxRecDepth 100000 in
set_option maxHeartbeats 4000000 in
theorem typ13_any (d : Nat) : ∀ (va : Value) (ta : Tm) (w : World), IsT w d va ta → Calls Tryd.prog 45 #[va] w (TypP d ta w) := by
  induction d with
  | zero => intro va ta w h; cases h
  | succ d ih =>
    intro va ta w ha
    obtain ⟨d1, k1, p1, n1, N1, s1, l1, e1, rfl, rfl, hp1, hn1, hk1⟩ := ha.open
    obtain rfl : d = d1 := by omega
    obtain ⟨q1, c1, hs1, hm1, hr1⟩ := hk1
    subst hs1
    have HR1 := Lib.hid hr1
    clear ha e1 hr1
    unfold maxLen at hm1 hp1 hn1
    have HIH := Lib.hid ih
    clear ih
    generalize hL : l1.length = L at *
    have HL := Lib.hid hL
    clear hL
    have hnew := Lib.hid (hb_new w (.cells #[.int .i64 k1, .string p1, .string n1, .int .i64 N1, .slice q1 L c1] 36))
    have HB0 := Lib.hid (below_alloc w (.cells #[.int .i64 k1, .string p1, .string n1, .int .i64 N1, .slice q1 L c1] 36))
    by_cases h1 : k1 < 1
    · skip
      go_enter Tryd.func45, Tryd.ntmps45
      go_wp2
      go_ret
      exact ⟨_, rfl, (by intro h; cases h), HB0.out⟩
    by_cases h2 : 4 < k1
    · have h1' : decide (k1 < 1) = false := by simpa using h1
      go_enter Tryd.func45, Tryd.ntmps45
      go_wp2
      go_ret
      exact ⟨_, rfl, (by intro h; cases h), HB0.out⟩
    have h1' : decide (k1 < 1) = false := by simpa using h1
    have h2' : decide (4 < k1) = false := by simpa using h2
    by_cases h3 : N1 = 0
    rotate_left
    · have h3' : (N1 != 0) = true := by simpa using h3
      go_enter Tryd.func45, Tryd.ntmps45
      go_wp2
      go_ret
      exact ⟨_, rfl, (by intro h; cases h), HB0.out⟩
    subst h3
    by_cases h5 : k1 = 1
    · subst h5
      clear h1 h2 h1' h2'
      by_cases h6 : L = 0
      · subst h6
        by_cases h7 : p1 = ⟨#[]⟩
        · subst h7
          go_enter Tryd.func45, Tryd.ntmps45
          go_upto_region 3 with fail
          generalize hW1 : w.alloc (.cells #[.int .i64 1, .string ⟨#[]⟩, .string n1, .int .i64 0, .slice q1 0 c1] 36) = W1 at *
          have hzw : w.heap.size + 1 ≤ W1.heap.size := by rw [← hW1]; simp
          clear hW1
          go_wp2
          go_loopw [3] (fun i wr => ∃ k : Nat, k ≤ 0 ∧ i = .int .i64 k ∧ Below W1.heap.size W1 wr ∧ ∀ (i : Nat) (x : Tm), i < k → l1[i]? = some x → Typ x) (fun i _ => 0 - (intOf i).toNat)
          case atStart => exact ⟨0, Nat.zero_le _, rfl, Below.refl _ _, fun i x hi => absurd hi (by omega)⟩
          case round =>
            obtain ⟨k, hk, rfl, hB, hty⟩ := hrel
            have HTY := Lib.hid hty
            clear hty
            have hzr := hB.size
            have HB := Lib.hid hB
            have m4 : wr.cell? ⟨w.heap.size, 4, none⟩ = some (.slice q1 0 c1) := (hB.cell (p := ⟨w.heap.size, 4, none⟩) (by simp; omega)).trans (hb_at hnew.out 4 rfl)
            by_cases hlt : k < 0
            · exact absurd hlt (by omega)
            · obtain rfl : k = 0 := by omega
              go_wp2
              go_ret
              exact ⟨_, rfl, (fun _ => by rw [List.length_eq_zero_iff.1 HL.out]; exact .var n1), HB0.out.trans (HB.out.mono (by omega))⟩
        · have h7d : p1.toList.isEmpty = false := by
            cases h : p1.toList.isEmpty with
            | false => rfl
            | true =>
              refine absurd (toList_inj (b := ⟨#[]⟩) ?_) h7
              rw [List.isEmpty_iff.1 h, ByteArray.toList_eq]
          clear h7
          go_enter Tryd.func45, Tryd.ntmps45
          go_wp2
          go_ret
          exact ⟨_, rfl, (by intro h; cases h), HB0.out⟩
      · have h6' : (0 : Int) < (L : Int) := by omega
        go_enter Tryd.func45, Tryd.ntmps45
        go_wp2
        go_ret
        exact ⟨_, rfl, (by intro h; cases h), HB0.out⟩
    · have h5' : (k1 == 1) = false := by simpa using h5
      go_enter Tryd.func45, Tryd.ntmps45
      go_upto_region 3 with fail
      generalize hW1 : w.alloc (.cells #[.int .i64 k1, .string p1, .string n1, .int .i64 0, .slice q1 L c1] 36) = W1 at *
      have hzw : w.heap.size + 1 ≤ W1.heap.size := by rw [← hW1]; simp
      clear hW1
      go_wp2
      go_loopw [3] (fun i wr => ∃ k : Nat, k ≤ L ∧ i = .int .i64 k ∧ Below W1.heap.size W1 wr ∧ ∀ (i : Nat) (x : Tm), i < k → l1[i]? = some x → Typ x) (fun i _ => L - (intOf i).toNat)
      case atStart => exact ⟨0, Nat.zero_le _, rfl, Below.refl _ _, fun i x hi => absurd hi (by omega)⟩
      case round =>
        obtain ⟨k, hk, rfl, hB, hty⟩ := hrel
        have HTY := Lib.hid hty
        clear hty
        have hzr := hB.size
        have HB := Lib.hid hB
        have m4 : wr.cell? ⟨w.heap.size, 4, none⟩ = some (.slice q1 L c1) := (hB.cell (p := ⟨w.heap.size, 4, none⟩) (by simp; omega)).trans (hb_at hnew.out 4 rfl)
        by_cases hlt : k < L
        · have hx1 : ∃ x, l1[k]? = some x := ⟨_, List.getElem?_eq_getElem (by have := HL.out; omega)⟩
          obtain ⟨x, hx1⟩ := hx1
          obtain ⟨b1, o1, k1', p1', n1', N1', s1', hq1, ha1, ht1⟩ := HR1.out k x hx1
          subst hq1
          have hBR : Below w.heap.size w wr := HB0.out.trans (hB.mono (by omega))
          obtain ⟨x0, x1, x2, x3, x4⟩ := ha1.below hBR ha1.lt
          have HC : RowKit.Hid (Calls Tryd.prog 45 #[tv k1' p1' n1' N1' s1'] wr (TypP d x wr)) := Lib.hid (HIH.out _ _ wr (ht1.below hBR))
          have hki : (k : Int) < (L : Int) := by omega
          have HX1 := Lib.hid hx1
          clear hx1 ht1 ha1 hB hBR
          go_upto_region 6 with fail
          go_cut [46] (fun v wx => ∃ r : Bool, v = .bool (!r) ∧ (r = true → Typ x) ∧ Below wr.heap.size wr wx)
          case first =>
            go_wp2_with (go_at_call 45; refine HC.out.mono ?_; rintro e w3 ⟨r, rfl, hr, hb⟩; have HRT := Lib.hid hr; clear hr)
            go_meet
            exact ⟨r, rfl, HRT.out, hb⟩
          case rest =>
            obtain ⟨r, rfl, hr, hb⟩ := hcut
            have HRT := Lib.hid hr
            clear hr
            have HQ := Lib.hid (HB.out.trans (hb.mono hzr))
            cases r
            · go_wp2
              go_ret
              exact ⟨_, rfl, (by intro h; cases h), HB0.out.trans (HQ.out.mono (by omega))⟩
            · go_wp2
              go_roundw
              case rel =>
                refine ⟨k + 1, by omega, by go_num, HQ.out, fun i y hi hy => ?_⟩
                by_cases hik : i < k
                · exact HTY.out i y hik hy
                · obtain rfl : i = k := by omega
                  rw [HX1.out] at hy
                  cases hy
                  exact HRT.out rfl
              case measure => simp [intOf]; omega
        · obtain rfl : k = L := by omega
          go_wp2
          go_ret
          refine ⟨_, rfl, (fun _ => .con (by omega) (fun y hy => ?_)), HB0.out.trans (HB.out.mono (by omega))⟩
          obtain ⟨i, hi⟩ := List.getElem?_of_mem hy
          exact HTY.out i y (by have h9 := (List.getElem?_eq_some_iff.1 hi).1; have h8 := HL.out; omega) hi
end Go.Proofs.YtncebhddcokkoaaDoor
/- Equations are gone through. -/
namespace Go.Proofs.YtncebhddcokkoaaDoor
open Go.RowKit Go.Maps
set_option linter.unusedSimpArgs false
set_option linter.unusedVariables false
/-- The sides of the first equations, in a row of one's own. -/
structure EqsI (w : World) (E : List (Tm × Tm)) (d j : Nat) (tv' : Value) (ts : List T5) (wr : World) : Prop where
  row : wr.ownsRow w.heap.size 36 5 tv' ts.length (flatC ts)
  len : ts.length = (two (E.take j)).length
  bel : Below w.heap.size w wr
  trm : ∀ (i : Nat) (y : Tm), (two (E.take j))[i]? = some y → ∃ t, ts[i]? = some t ∧ IsT w d (t5v t) y
theorem EqsI.below {w wr w' : World} {E : List (Tm × Tm)} {d j : Nat} {tv' : Value} {ts : List T5} (h : EqsI w E d j tv' ts wr) (hb : Below wr.heap.size wr w') : EqsI w E d j tv' ts w' :=
  ⟨own_kept h.row fun g x hg hx => hb_below hx hb (hb_lt hx), h.len, h.bel.trans (hb.mono h.bel.size), h.trm⟩
end Go.Proofs.YtncebhddcokkoaaDoor
