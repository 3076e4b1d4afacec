/- Texts in a row: Re Sa. -/
import Derived.Test.YtlbnaddgdgbckaaGreatDoorZ37
import Derived.Test.YtlbnaddgdgbckaaGreatDoorZ36
import Derived.Test.YtlbnaddgdgbckaaGreatDoorTie
import Derived.ProofKit
import Derived.LaidMore
import Derived.OpenShut
import Derived.ShutString
import Derived.ChangeOld
import Derived.ChangeSlices
import Derived.ChangeSame
import Derived.Deep.Slices
import Derived.Deep.Fields
import Derived.Lib.SmallJoins
import Derived.Lib.LaidTab
import Derived.Lib.AppendIntMem
import Derived.Stop.Joined
/- ParseDeep: the walk. -/
namespace Go.Proofs.YtlbnaddgdgbckaaGreatDoor
open Go.RowKit
set_option linter.unusedSimpArgs false
set_option linter.unusedVariables false
theorem exprR_no (s : ByteArray) (hm : s.size ≤ 4194304) (w : World) (hw : EscW w) : Calls Tryz.prog 12 #[.string s] w fun e w' => ∃ (k : Int) (p n : ByteArray) (N : Int) (q : Option Addr) (l c a : Nat), e = .returned (.tuple #[tv k p n N (.slice q l c), .int .i64 a, .int .i64 (errOf (exprM s) : Nat)]) ∧ Below w.heap.size w w' := by
  refine (exprR_any s hm w hw).mono ?_
  rintro e w' ⟨hb, h2⟩
  cases h : exprM s with
  | ok t =>
    rw [h] at h2
    obtain ⟨v, rfl, hV⟩ := h2
    obtain ⟨k, p, n, N, q, l, c, rfl⟩ := hV.shape
    exact ⟨k, p, n, N, q, l, c, 0, rfl, hb⟩
  | error y =>
    rw [h] at h2
    exact ⟨0, ⟨#[]⟩, ⟨#[]⟩, 0, none, 0, 0, y.1, h2, hb⟩
theorem typR_no (s : ByteArray) (hm : s.size ≤ 4194304) (w : World) (hw : EscW w) : Calls Tryz.prog 13 #[.string s] w fun e w' => ∃ (k : Int) (p n : ByteArray) (N : Int) (q : Option Addr) (l c a : Nat), e = .returned (.tuple #[tv k p n N (.slice q l c), .int .i64 a, .int .i64 (errOf (typM s) : Nat)]) ∧ Below w.heap.size w w' := by
  refine (typR_any s hm w hw).mono ?_
  rintro e w' ⟨hb, h2⟩
  cases h : typM s with
  | ok t =>
    rw [h] at h2
    obtain ⟨v, rfl, hV⟩ := h2
    obtain ⟨k, p, n, N, q, l, c, rfl⟩ := hV.shape
    exact ⟨k, p, n, N, q, l, c, 0, rfl, hb⟩
  | error y =>
    rw [h] at h2
    exact ⟨0, ⟨#[]⟩, ⟨#[]⟩, 0, none, 0, 0, y.1, h2, hb⟩
theorem ofL_app (x y : List UInt8) : ofL x ++ ofL y = ofL (x ++ y) := by
  apply ByteArray.ext
  simp [ofL]
theorem deep_n (x : Int) (h1 : -9223372036854775808 ≤ x) (h2 : x ≤ 9223372036854775807) : ∃ n : Nat, n ≤ 60 ∧ (RowKit.wrap64 (x.tmod 61 + 61)).tmod 61 = (n : Int) := by
  have b1 := Int.lt_tmod_of_pos x (b := 61) (by decide)
  have b2 := Int.tmod_lt_of_pos x (b := 61) (by decide)
  have e : RowKit.wrap64 (x.tmod 61 + 61) = x.tmod 61 + 61 := by unfold RowKit.wrap64; omega
  rw [e]
  have b3 := Int.tmod_nonneg (a := x.tmod 61 + 61) 61 (by omega)
  have b4 := Int.tmod_lt_of_pos (x.tmod 61 + 61) (b := 61) (by decide)
  exact ⟨_, by omega, (Int.toNat_of_nonneg b3).symm⟩
set_option maxRecDepth 100000 in
set_option maxHeartbeats 4000000 in
theorem deep_walk (x : Int) (h1 : -9223372036854775808 ≤ x) (h2 : x ≤ 9223372036854775807) (w : World) (hw : EscW w) : Calls Tryz.prog 6 #[.int .i64 x] w fun e w' => e = .returned (.bool true) ∧ Below w.heap.size w w' := by
  have hpos : 0 < w.heap.size := hw.pos
  have HE := Lib.hid hw
  obtain ⟨n, hn, hx⟩ := deep_n x h1 h2
  have HX := Lib.hid hx
  clear hw hx
  go_enter Tryz.func6, Tryz.ntmps6
  go_upto_region 3 with (fail)
  rw [HX.out]
  go_wp2
  go_loopw [3, 4, 5, 6, 7] (fun a b c d i wr => ∃ k : Nat, k ≤ n ∧ i = .int .i64 k ∧ a = .string (ofL (bS k)) ∧ b = .string (ofL (bT k)) ∧ c = .string (ofL (bU k)) ∧ d = .string (ofL (bV k)) ∧ wr = w) (fun _ _ _ _ i _ => n - (intOf i).toNat)
  case atStart => exact ⟨0, Nat.zero_le _, rfl, rfl, rfl, rfl, rfl, rfl⟩
  case round =>
    obtain ⟨k, hk, rfl, rfl, rfl, rfl, rfl, rfl⟩ := hrel
    by_cases hlt : k < n
    · have e1 : (⟨#[40]⟩ : ByteArray) ++ ofL (bS k) ++ ⟨#[41]⟩ = ofL (bS (k + 1)) := by
        rw [show (⟨#[40]⟩ : ByteArray) = ofL [40] from rfl, show (⟨#[41]⟩ : ByteArray) = ofL [41] from rfl, ofL_app, ofL_app]; rfl
      have e2 : (⟨#[102, 117, 110, 32, 120, 32, 45, 62, 32]⟩ : ByteArray) ++ ofL (bT k) = ofL (bT (k + 1)) := by
        rw [show (⟨#[102, 117, 110, 32, 120, 32, 45, 62, 32]⟩ : ByteArray) = ofL [102, 117, 110, 32, 120, 32, 45, 62, 32] from rfl, ofL_app]; rfl
      have e3 : (⟨#[105, 110, 116, 32, 45, 62, 32]⟩ : ByteArray) ++ ofL (bU k) = ofL (bU (k + 1)) := by
        rw [show (⟨#[105, 110, 116, 32, 45, 62, 32]⟩ : ByteArray) = ofL [105, 110, 116, 32, 45, 62, 32] from rfl, ofL_app]; rfl
      have e4 : ofL (bV k) ++ (⟨#[32, 120]⟩ : ByteArray) = ofL (bV (k + 1)) := by
        rw [show (⟨#[32, 120]⟩ : ByteArray) = ofL [32, 120] from rfl, ofL_app]; rfl
      have z1 : (ofL (bS k)).size = 2 * k + 1 := by rw [ofL_size, len_S]
      have z2 : (ofL (bT k)).size = 9 * k + 1 := by rw [ofL_size, len_T]
      have z3 : (ofL (bU k)).size = 7 * k + 3 := by rw [ofL_size, len_U]
      have z4 : (ofL (bV k)).size = 2 * k + 1 := by rw [ofL_size, len_V]
      generalize ofL (bS k) = S at *
      generalize ofL (bT k) = T at *
      generalize ofL (bU k) = U at *
      generalize ofL (bV k) = V at *
      go_wp2
      refine ⟨⟨k + 1, by omega, rfl, rfl, rfl, rfl, rfl, trivial⟩, ?_⟩
      simp [intOf]
      omega
    · obtain rfl : k = n := by omega
      obtain ⟨d1, d2, d3, d4⟩ := deep_all k hn
      by_cases h40 : 40 ≤ k
      · by_cases h50 : k ≤ 50
        · have C1 : RowKit.Hid (∀ W, EscW W → Calls Tryz.prog 12 #[.string (ofL (bS k))] W fun e w' => ∃ (kk : Int) (p n : ByteArray) (N : Int) (q : Option Addr) (l c a : Nat), e = .returned (.tuple #[tv kk p n N (.slice q l c), .int .i64 a, .int .i64 9]) ∧ Below W.heap.size W w') := Lib.hid (fun W hW => by have h := exprR_no (ofL (bS k)) (by rw [ofL_size, len_S]; omega) W hW; rw [d1, if_pos h40] at h; exact h)
          have C2 : RowKit.Hid (∀ W, EscW W → Calls Tryz.prog 12 #[.string (ofL (bT k))] W fun e w' => ∃ (kk : Int) (p n : ByteArray) (N : Int) (q : Option Addr) (l c a : Nat), e = .returned (.tuple #[tv kk p n N (.slice q l c), .int .i64 a, .int .i64 9]) ∧ Below W.heap.size W w') := Lib.hid (fun W hW => by have h := exprR_no (ofL (bT k)) (by rw [ofL_size, len_T]; omega) W hW; rw [d2, if_pos h40] at h; exact h)
          have C3 : RowKit.Hid (∀ W, EscW W → Calls Tryz.prog 13 #[.string (ofL (bU k))] W fun e w' => ∃ (kk : Int) (p n : ByteArray) (N : Int) (q : Option Addr) (l c a : Nat), e = .returned (.tuple #[tv kk p n N (.slice q l c), .int .i64 a, .int .i64 9]) ∧ Below W.heap.size W w') := Lib.hid (fun W hW => by have h := typR_no (ofL (bU k)) (by rw [ofL_size, len_U]; omega) W hW; rw [d3, if_pos h40] at h; exact h)
          have C4 : RowKit.Hid (∀ W, EscW W → Calls Tryz.prog 12 #[.string (ofL (bV k))] W fun e w' => ∃ (kk : Int) (p n : ByteArray) (N : Int) (q : Option Addr) (l c a : Nat), e = .returned (.tuple #[tv kk p n N (.slice q l c), .int .i64 a, .int .i64 0]) ∧ Below W.heap.size W w') := Lib.hid (fun W hW => by have h := exprR_no (ofL (bV k)) (by rw [ofL_size, len_V]; omega) W hW; rw [d4.2 h50] at h; exact h)
          clear d1 d2 d3 d4
          have g40 : decide ((40 : Int) ≤ (k : Int)) = true := decide_eq_true (by omega)
          have g50 : decide ((k : Int) ≤ 50) = true := decide_eq_true (by omega)
          go_wp2_with (first
            | (go_at_call 12; (with_reducible refine (C1.out _ HE.out).mono ?_); rintro e w1 ⟨k1, p1, n1, N1, q1, l1, c1, a1, rfl, hb⟩; have HB1 := Lib.hid hb; clear hb)
            | (go_at_call 12; (with_reducible refine (C2.out _ (HE.out.below (HB1.out.trans ((below_alloc _ _).mono HB1.out.size)) hpos)).mono ?_); rintro e w2 ⟨k2, p2, n2, N2, q2, l2, c2, a2, rfl, hb⟩; have HB2 := Lib.hid ((HB1.out.trans ((below_alloc _ _).mono HB1.out.size)).trans (hb.mono (HB1.out.trans ((below_alloc _ _).mono HB1.out.size)).size)); clear hb)
            | (go_at_call 13; (with_reducible refine (C3.out _ (HE.out.below (HB2.out.trans ((below_alloc _ _).mono HB2.out.size)) hpos)).mono ?_); rintro e w3 ⟨k3, p3, n3, N3, q3, l3, c3, a3, rfl, hb⟩; have HB3 := Lib.hid ((HB2.out.trans ((below_alloc _ _).mono HB2.out.size)).trans (hb.mono (HB2.out.trans ((below_alloc _ _).mono HB2.out.size)).size)); clear hb)
            | (go_at_call 12; (with_reducible refine (C4.out _ (HE.out.below (HB3.out.trans ((below_alloc _ _).mono HB3.out.size)) hpos)).mono ?_); rintro e w4 ⟨k4, p4, n4, N4, q4, l4, c4, a4, rfl, hb⟩; have HB4 := Lib.hid ((HB3.out.trans ((below_alloc _ _).mono HB3.out.size)).trans (hb.mono (HB3.out.trans ((below_alloc _ _).mono HB3.out.size)).size)); clear hb)
            | (go_at_call 9; (with_reducible refine (no_any _ _).mono ?_); rintro e w8 ⟨rfl, rfl⟩)
            | (go_at_call 7; (with_reducible refine (alive_any _ (HE.out.below (HB4.out.trans ((below_alloc _ _).mono HB4.out.size)) hpos)).mono ?_); rintro e w5 ⟨rfl, hb⟩; have HB5 := Lib.hid ((HB4.out.trans ((below_alloc _ _).mono HB4.out.size)).trans (hb.mono (HB4.out.trans ((below_alloc _ _).mono HB4.out.size)).size)); clear hb))
          all_goals
            go_ret
            exact ⟨rfl, HB5.out⟩
        · have C1 : RowKit.Hid (∀ W, EscW W → Calls Tryz.prog 12 #[.string (ofL (bS k))] W fun e w' => ∃ (kk : Int) (p n : ByteArray) (N : Int) (q : Option Addr) (l c a : Nat), e = .returned (.tuple #[tv kk p n N (.slice q l c), .int .i64 a, .int .i64 9]) ∧ Below W.heap.size W w') := Lib.hid (fun W hW => by have h := exprR_no (ofL (bS k)) (by rw [ofL_size, len_S]; omega) W hW; rw [d1, if_pos h40] at h; exact h)
          have C2 : RowKit.Hid (∀ W, EscW W → Calls Tryz.prog 12 #[.string (ofL (bT k))] W fun e w' => ∃ (kk : Int) (p n : ByteArray) (N : Int) (q : Option Addr) (l c a : Nat), e = .returned (.tuple #[tv kk p n N (.slice q l c), .int .i64 a, .int .i64 9]) ∧ Below W.heap.size W w') := Lib.hid (fun W hW => by have h := exprR_no (ofL (bT k)) (by rw [ofL_size, len_T]; omega) W hW; rw [d2, if_pos h40] at h; exact h)
          have C3 : RowKit.Hid (∀ W, EscW W → Calls Tryz.prog 13 #[.string (ofL (bU k))] W fun e w' => ∃ (kk : Int) (p n : ByteArray) (N : Int) (q : Option Addr) (l c a : Nat), e = .returned (.tuple #[tv kk p n N (.slice q l c), .int .i64 a, .int .i64 9]) ∧ Below W.heap.size W w') := Lib.hid (fun W hW => by have h := typR_no (ofL (bU k)) (by rw [ofL_size, len_U]; omega) W hW; rw [d3, if_pos h40] at h; exact h)
          obtain ⟨z, hz⟩ : ∃ z, z = errOf (exprM (ofL (bV k))) := ⟨_, rfl⟩
          have hz0 : ¬ z = 0 := fun e => h50 (d4.1 (hz ▸ e))
          have C4 : RowKit.Hid (∀ W, EscW W → Calls Tryz.prog 12 #[.string (ofL (bV k))] W fun e w' => ∃ (kk : Int) (p n : ByteArray) (N : Int) (q : Option Addr) (l c a : Nat), e = .returned (.tuple #[tv kk p n N (.slice q l c), .int .i64 a, .int .i64 (z : Nat)]) ∧ Below W.heap.size W w') := Lib.hid (fun W hW => by have h := exprR_no (ofL (bV k)) (by rw [ofL_size, len_V]; omega) W hW; rw [← hz] at h; exact h)
          clear hz
          clear d1 d2 d3 d4
          have g40 : decide ((40 : Int) ≤ (k : Int)) = true := decide_eq_true (by omega)
          have g50 : decide ((k : Int) ≤ 50) = false := decide_eq_false (by omega)
          have gz : ((z : Int) == 0) = false := by simp; omega
          go_wp2_with (first
            | (go_at_call 12; (with_reducible refine (C1.out _ HE.out).mono ?_); rintro e w1 ⟨k1, p1, n1, N1, q1, l1, c1, a1, rfl, hb⟩; have HB1 := Lib.hid hb; clear hb)
            | (go_at_call 12; (with_reducible refine (C2.out _ (HE.out.below (HB1.out.trans ((below_alloc _ _).mono HB1.out.size)) hpos)).mono ?_); rintro e w2 ⟨k2, p2, n2, N2, q2, l2, c2, a2, rfl, hb⟩; have HB2 := Lib.hid ((HB1.out.trans ((below_alloc _ _).mono HB1.out.size)).trans (hb.mono (HB1.out.trans ((below_alloc _ _).mono HB1.out.size)).size)); clear hb)
            | (go_at_call 13; (with_reducible refine (C3.out _ (HE.out.below (HB2.out.trans ((below_alloc _ _).mono HB2.out.size)) hpos)).mono ?_); rintro e w3 ⟨k3, p3, n3, N3, q3, l3, c3, a3, rfl, hb⟩; have HB3 := Lib.hid ((HB2.out.trans ((below_alloc _ _).mono HB2.out.size)).trans (hb.mono (HB2.out.trans ((below_alloc _ _).mono HB2.out.size)).size)); clear hb)
            | (go_at_call 12; (with_reducible refine (C4.out _ (HE.out.below (HB3.out.trans ((below_alloc _ _).mono HB3.out.size)) hpos)).mono ?_); rintro e w4 ⟨k4, p4, n4, N4, q4, l4, c4, a4, rfl, hb⟩; have HB4 := Lib.hid ((HB3.out.trans ((below_alloc _ _).mono HB3.out.size)).trans (hb.mono (HB3.out.trans ((below_alloc _ _).mono HB3.out.size)).size)); clear hb)
            | (go_at_call 9; (with_reducible refine (no_any _ _).mono ?_); rintro e w8 ⟨rfl, rfl⟩)
            | (go_at_call 7; (with_reducible refine (alive_any _ (HE.out.below (HB4.out.trans ((below_alloc _ _).mono HB4.out.size)) hpos)).mono ?_); rintro e w5 ⟨rfl, hb⟩; have HB5 := Lib.hid ((HB4.out.trans ((below_alloc _ _).mono HB4.out.size)).trans (hb.mono (HB4.out.trans ((below_alloc _ _).mono HB4.out.size)).size)); clear hb))
          all_goals
            go_ret
            exact ⟨rfl, HB5.out⟩
      · have h50 : k ≤ 50 := by omega
        have C1 : RowKit.Hid (∀ W, EscW W → Calls Tryz.prog 12 #[.string (ofL (bS k))] W fun e w' => ∃ (kk : Int) (p n : ByteArray) (N : Int) (q : Option Addr) (l c a : Nat), e = .returned (.tuple #[tv kk p n N (.slice q l c), .int .i64 a, .int .i64 0]) ∧ Below W.heap.size W w') := Lib.hid (fun W hW => by have h := exprR_no (ofL (bS k)) (by rw [ofL_size, len_S]; omega) W hW; rw [d1, if_neg h40] at h; exact h)
        have C2 : RowKit.Hid (∀ W, EscW W → Calls Tryz.prog 12 #[.string (ofL (bT k))] W fun e w' => ∃ (kk : Int) (p n : ByteArray) (N : Int) (q : Option Addr) (l c a : Nat), e = .returned (.tuple #[tv kk p n N (.slice q l c), .int .i64 a, .int .i64 0]) ∧ Below W.heap.size W w') := Lib.hid (fun W hW => by have h := exprR_no (ofL (bT k)) (by rw [ofL_size, len_T]; omega) W hW; rw [d2, if_neg h40] at h; exact h)
        have C3 : RowKit.Hid (∀ W, EscW W → Calls Tryz.prog 13 #[.string (ofL (bU k))] W fun e w' => ∃ (kk : Int) (p n : ByteArray) (N : Int) (q : Option Addr) (l c a : Nat), e = .returned (.tuple #[tv kk p n N (.slice q l c), .int .i64 a, .int .i64 0]) ∧ Below W.heap.size W w') := Lib.hid (fun W hW => by have h := typR_no (ofL (bU k)) (by rw [ofL_size, len_U]; omega) W hW; rw [d3, if_neg h40] at h; exact h)
        have C4 : RowKit.Hid (∀ W, EscW W → Calls Tryz.prog 12 #[.string (ofL (bV k))] W fun e w' => ∃ (kk : Int) (p n : ByteArray) (N : Int) (q : Option Addr) (l c a : Nat), e = .returned (.tuple #[tv kk p n N (.slice q l c), .int .i64 a, .int .i64 0]) ∧ Below W.heap.size W w') := Lib.hid (fun W hW => by have h := exprR_no (ofL (bV k)) (by rw [ofL_size, len_V]; omega) W hW; rw [d4.2 h50] at h; exact h)
        clear d1 d2 d3 d4
        have g40 : decide ((40 : Int) ≤ (k : Int)) = false := decide_eq_false (by omega)
        have g50 : decide ((k : Int) ≤ 50) = true := decide_eq_true (by omega)
        go_wp2_with (first
          | (go_at_call 12; (with_reducible refine (C1.out _ HE.out).mono ?_); rintro e w1 ⟨k1, p1, n1, N1, q1, l1, c1, a1, rfl, hb⟩; have HB1 := Lib.hid hb; clear hb)
          | (go_at_call 12; (with_reducible refine (C2.out _ (HE.out.below (HB1.out.trans ((below_alloc _ _).mono HB1.out.size)) hpos)).mono ?_); rintro e w2 ⟨k2, p2, n2, N2, q2, l2, c2, a2, rfl, hb⟩; have HB2 := Lib.hid ((HB1.out.trans ((below_alloc _ _).mono HB1.out.size)).trans (hb.mono (HB1.out.trans ((below_alloc _ _).mono HB1.out.size)).size)); clear hb)
          | (go_at_call 13; (with_reducible refine (C3.out _ (HE.out.below (HB2.out.trans ((below_alloc _ _).mono HB2.out.size)) hpos)).mono ?_); rintro e w3 ⟨k3, p3, n3, N3, q3, l3, c3, a3, rfl, hb⟩; have HB3 := Lib.hid ((HB2.out.trans ((below_alloc _ _).mono HB2.out.size)).trans (hb.mono (HB2.out.trans ((below_alloc _ _).mono HB2.out.size)).size)); clear hb)
          | (go_at_call 12; (with_reducible refine (C4.out _ (HE.out.below (HB3.out.trans ((below_alloc _ _).mono HB3.out.size)) hpos)).mono ?_); rintro e w4 ⟨k4, p4, n4, N4, q4, l4, c4, a4, rfl, hb⟩; have HB4 := Lib.hid ((HB3.out.trans ((below_alloc _ _).mono HB3.out.size)).trans (hb.mono (HB3.out.trans ((below_alloc _ _).mono HB3.out.size)).size)); clear hb)
          | (go_at_call 9; (with_reducible refine (no_any _ _).mono ?_); rintro e w8 ⟨rfl, rfl⟩)
          | (go_at_call 7; (with_reducible refine (alive_any _ (HE.out.below (HB4.out.trans ((below_alloc _ _).mono HB4.out.size)) hpos)).mono ?_); rintro e w5 ⟨rfl, hb⟩; have HB5 := Lib.hid ((HB4.out.trans ((below_alloc _ _).mono HB4.out.size)).trans (hb.mono (HB4.out.trans ((below_alloc _ _).mono HB4.out.size)).size)); clear hb))
        all_goals
          go_ret
          exact ⟨rfl, HB5.out⟩
end Go.Proofs.YtlbnaddgdgbckaaGreatDoor
/- ParseDeep: what the row assumes of the listed tables: it is met by the door's own heap; what it gives. -/
namespace Go.Proofs.YtlbnaddgdgbckaaGreatDoor
open Go.ChangeShapes Go.WideShapes Go.ChangeAt Go.RowKit Go.Joins Go.Deep
open Go.ChangeMaps (open_string shut_string)
set_option maxRecDepth 100000
set_option linter.unusedSimpArgs false
set_option linter.unusedVariables false
theorem ownKn : ownKnob Tryz.prog.godebug = none := by kernel_rfl
theorem laidTry : laidOutB Tryz.prog = true := by kernel_rfl
theorem gE : Tryz.prog.globalNamed "touchstone/lex.escapes" = some 0 := by kernel_rfl
theorem tE : (Tryz.prog.globals[0]?).map (·.type) = some 154 := by kernel_rfl
theorem cells154 : Tryz.prog.cellsOf 154 = 8 := by kernel_rfl
theorem cells153 : Tryz.prog.cellsOf 153 = 2 := by kernel_rfl
theorem cells5 : Tryz.prog.cellsOf 5 = 1 := by kernel_rfl
theorem pair_cells {fuel : Nat} {W : World} {c0 c1 : Value} {x y : Int} {p : List MemPlace} (h : DataW.trod (fun _ => ()) Tryz.prog W 0 (fun _ => true) false fuel 153 [c0, c1] = some (.agg [.lit (.int .u8 x), .lit (.int .u8 y)], p)) : c0 = .int .u8 x ∧ c1 = .int .u8 y := by
  obtain ⟨ys, n, _, hx, _, hys, hfs⟩ := DataW.trod_struct Tryz.underlying153 h
  have hy2 : ys.length = 2 := hys
  match ys, hy2 with
  | [y0, y1], _ =>
    have g0 : DataW.trod (fun _ => ()) Tryz.prog W 0 (fun _ => true) false n 5 (([c0, c1].drop 0).take (Tryz.prog.cellsOf 5)) = some y0 := hfs 0 _ rfl
    have g1 : DataW.trod (fun _ => ()) Tryz.prog W 0 (fun _ => true) false n 5 (([c0, c1].drop 1).take (Tryz.prog.cellsOf 5)) = some y1 := hfs 1 _ rfl
    rw [cells5] at g0 g1
    obtain ⟨z0, e0, f0, _⟩ := DataW.trod_int Tryz.underlying5 g0
    obtain ⟨z1, e1, f1, _⟩ := DataW.trod_int Tryz.underlying5 g1
    subst f0 f1
    simp at hx e0 e1
    obtain ⟨⟨h1, h2⟩, _⟩ := hx
    subst h1 h2 e0 e1
    exact ⟨rfl, rfl⟩
theorem esc_cells {fuel : Nat} {W : World} {cs : List Value} {p : List MemPlace} (h : DataW.trod (fun _ => ()) Tryz.prog W 0 (fun _ => true) false fuel 154 cs = some (Rows.laid_touchstone_lex_escapes, p)) :
    cs = [.int .u8 92, .int .u8 92, .int .u8 34, .int .u8 34, .int .u8 110, .int .u8 10, .int .u8 116, .int .u8 9] := by
  obtain ⟨xs, m, _, hx, hl, hxl, hf⟩ := DataW.trod_array Tryz.underlying154 h
  rw [cells154] at hl
  match cs, hl, xs, hxl with
  | [c0, c1, c2, c3, c4, c5, c6, c7], _, [x0, x1, x2, x3], _ =>
    have f0 := hf 0 (by omega)
    have f1 := hf 1 (by omega)
    have f2 := hf 2 (by omega)
    have f3 := hf 3 (by omega)
    rw [cells153] at f0 f1 f2 f3
    unfold Rows.laid_touchstone_lex_escapes at hx
    simp only [List.map_cons, List.map_nil, Prod.mk.injEq, DataW.agg.injEq, List.cons.injEq, and_true] at hx
    obtain ⟨⟨h0, h1, h2, h3⟩, _⟩ := hx
    obtain ⟨d0, p0⟩ := x0
    obtain ⟨d1, p1⟩ := x1
    obtain ⟨d2, p2⟩ := x2
    obtain ⟨d3, p3⟩ := x3
    simp only [] at h0 h1 h2 h3
    subst h0 h1 h2 h3
    obtain ⟨rfl, rfl⟩ := pair_cells f0
    obtain ⟨rfl, rfl⟩ := pair_cells f1
    obtain ⟨rfl, rfl⟩ := pair_cells f2
    obtain ⟨rfl, rfl⟩ := pair_cells f3
    rfl
/-- What the listed tables give. -/
theorem tabs_of {W : World} (h : laidMetH Tryz.prog Rows.parseDeepRow.laid W) : EscW W := by
  rw [MakeChecks.laidMetH_plain _ _ _ (by kernel_rfl)] at h
  obtain ⟨ps, ⟨g0, t0, cs0, f0, p0, q0, _, _, _, _, ⟨g1, t1, cs1, f1, p1, q1, _, _, _, _, ⟨g2, t2, cs2, f2, p2, q2, hg2, ht2, hv2, hd2, ⟨g3, t3, cs3, f3, p3, q3, _, _, _, _, ⟨g4, t4, cs4, f4, p4, q4, _, _, _, _, ⟨g5, t5, cs5, f5, p5, q5, hg5, ht5, hv5, hd5, _, e5⟩, e4⟩, e3⟩, e2⟩, e1⟩, e0⟩, _, hps⟩ := h
  obtain rfl := Option.some.inj (gE.symm.trans hg5)
  obtain rfl := Option.some.inj (tE.symm.trans ht5)
  have hc := esc_cells hd5
  have hsz : cs5.size = 8 := by
    have := congrArg List.length hc
    simpa using this
  have hmem : MemPlace.cell 0 0 ∈ ps := by
    rw [e0, e1, e2, e3, e4, e5]
    simp only [List.mem_append]
    refine .inr (.inr (.inr (.inr (.inr (.inl (.inl ?_))))))
    rw [hsz]
    decide
  obtain ⟨⟨c, t, hh⟩, _⟩ := hps 0 0 hmem
  refine ⟨t, ?_⟩
  unfold World.var? at hv5
  rw [gE] at hv5
  simp only [Option.bind_some, hh, Option.some.injEq] at hv5
  subst hv5
  rw [hh]
  congr 2
  apply Array.ext'
  exact hc
end Go.Proofs.YtlbnaddgdgbckaaGreatDoor
