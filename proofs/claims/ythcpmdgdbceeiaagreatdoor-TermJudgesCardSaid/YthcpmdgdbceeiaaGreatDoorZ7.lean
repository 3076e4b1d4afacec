/- Texts in a row: Ja A1 A2. -/
import Derived.Test.YthcpmdgdbceeiaaGreatDoorZ6
import Derived.Deep.DeepCutAuto
import Derived.Outline
import Derived.Test.YthcpmdgdbceeiaaGreatDoorZ1
import Derived.Deep.RegionHeld3
import Derived.StillTailTactics
import Derived.BigQuiet
import Derived.Deep.QuietTactic
import Derived.Deep.RegionWith
/- What Few tells of the names of a term that it lets through. -/
namespace Go.Proofs.YthcpmdgdbceeiaaGreatDoor
open Go.RowKit
def mnJ (s : ByteArray) : Nat := if 100000 < s.size then 100000 else s.size
theorem mn_leJ (s : ByteArray) : mnJ s ≤ 100000 := by unfold mnJ; split <;> omega
theorem mn_ifJ (s : ByteArray) : (if (100000 : Int) < (s.size : Int) then (100000 : Int) else (s.size : Int)) = ((mnJ s : Nat) : Int) := by
  unfold mnJ
  by_cases h : 100000 < s.size
  · rw [if_pos h, if_pos (by omega)]; rfl
  · rw [if_neg h, if_neg (by omega)]
theorem mn_smallJ {s : ByteArray} (h : mnJ s ≤ 12040) : s.size ≤ 100000 := by unfold mnJ at h; split at h <;> omega
/-- No name is too long. -/
def Nm : Nat → Tm → Prop
  | 0, _ => True
  | d + 1, .mk _ p n _ kids => p.size ≤ 100000 ∧ n.size ≤ 100000 ∧ ∀ x ∈ kids, Nm d x
def SomeWJ (d : Nat) (t : Tm) (w : World) (e : Ending) (w' : World) : Prop := ∃ n : Int, e = .returned (.int .i64 n) ∧ 0 ≤ n ∧ n ≤ 100000 ∧ (n ≤ 600 → Nm d t) ∧ Below w.heap.size w w'
set_option maxRecDepth 100000 in
set_option maxHeartbeats 2000000 in
theorem weight3_any (d : Nat) : ∀ (va : Value) (ta : Tm) (deep : Int) (w : World), IsT w d va ta → Calls Tryz.prog 26 #[va, .int .i64 deep] w (SomeWJ d ta w) := by
  induction d with
  | zero => intro va ta deep w h; cases h
  | succ d ih =>
    intro va ta deep w ha
    obtain ⟨d1, k1, p1, n1, N1, s1, l1, e1, rfl, rfl, hp1, hn1, hk1⟩ := ha.open
    obtain rfl : d = d1 := by omega
    obtain ⟨q1, c1, hs1, hm1, hr1⟩ := hk1
    subst hs1
    have HR1 := Lib.hid hr1
    clear ha e1 hr1
    unfold maxLen at hm1 hp1 hn1
    have HIH := Lib.hid ih
    clear ih
    by_cases hd : 90 < deep
    · go_enter Tryz.func26, Tryz.ntmps26
      go_wp2
      go_ret
      exact ⟨_, rfl, by decide, by decide, fun h => by omega, below_alloc w _⟩
    by_cases hl : (300 : Int) < (l1.length : Int)
    · go_enter Tryz.func26, Tryz.ntmps26
      go_wp2
      go_ret
      exact ⟨_, rfl, by decide, by decide, fun h => by omega, below_alloc w _⟩
    have hd' : deep ≤ 90 := by omega
    have hl' : (l1.length : Int) ≤ 300 := by omega
    have hd2 : decide (90 < deep) = false := by simpa using hd'
    have hl2 : decide ((300 : Int) < (l1.length : Int)) = false := by simpa using hl'
    clear hd hl
    have q1m := mn_ifJ p1
    have q2m := mn_ifJ n1
    have q1l := mn_leJ p1
    have q2l := mn_leJ n1
    have q1s := mn_smallJ (s := p1)
    have q2s := mn_smallJ (s := n1)
    generalize mnJ p1 = u1 at *
    generalize mnJ n1 = u2 at *
    have hnew := Lib.hid (hb_new w (.cells #[.int .i64 k1, .string p1, .string n1, .int .i64 N1, .slice q1 l1.length c1] 24))
    go_enter Tryz.func26, Tryz.ntmps26
    go_upto_region 3 with (fail)
    generalize hW1 : w.alloc (.cells #[.int .i64 k1, .string p1, .string n1, .int .i64 N1, .slice q1 l1.length c1] 24) = W1 at *
    have hBW : Below w.heap.size w W1 := by rw [← hW1]; exact below_alloc w _
    have HBW := Lib.hid hBW
    have hzw : w.heap.size + 1 ≤ W1.heap.size := by rw [← hW1]; simp
    have m1 := hb_at hnew.out 1 rfl
    have m2 := hb_at hnew.out 2 rfl
    have m4 := hb_at hnew.out 4 rfl
    clear hW1 hBW
    go_cut [5] (fun v wx => (∃ m : Int, v = .int .i64 m ∧ 1 ≤ m ∧ m ≤ 20000 ∧ (m ≤ 600 → u1 ≤ 12040 ∧ u2 ≤ 12040)) ∧ wx = W1)
    case first =>
      go_wp2_with fail
      all_goals
        go_meet
        exact ⟨⟨_, rfl, by omega, by omega, by omega⟩, rfl⟩
    case rest =>
      obtain ⟨⟨m0, rfl, hm0, hm0', hmN⟩, rfl⟩ := hcut
      have HMN := Lib.hid (fun h => (⟨q1s (hmN h).1, q2s (hmN h).2⟩ : p1.size ≤ 100000 ∧ n1.size ≤ 100000))
      clear q1s q2s hmN
      go_wp2
      have M4 : RowKit.Hid (wc.cell? ⟨w.heap.size, 4, none⟩ = some (.slice q1 l1.length c1)) := Lib.hid m4
      clear m1 m2 m4
      go_loopw [5, 29] (fun n i wr => ∃ k : Nat, k ≤ l1.length ∧ i = .int .i64 k ∧ (∃ m : Int, n = .int .i64 m ∧ 1 ≤ m ∧ m ≤ 200000 ∧ m0 ≤ m ∧ (m ≤ 600 → ∀ x ∈ l1.take k, Nm d x)) ∧ Below wc.heap.size wc wr) (fun _ i _ => l1.length - (intOf i).toNat)
      case atStart => exact ⟨0, Nat.zero_le _, rfl, ⟨_, rfl, hm0, by omega, by omega, fun _ x hx => by simp at hx⟩, Below.refl _ _⟩
      case round =>
        obtain ⟨k, hk, rfl, ⟨m, rfl, hm1', hm2', hm3', hmI⟩, hB⟩ := hrel
        have HMI := Lib.hid hmI
        clear hmI
        have hzr := hB.size
        have HB := Lib.hid hB
        by_cases hlt : k < l1.length
        · have hx1 := List.getElem?_eq_getElem hlt
          have htk := List.take_succ_eq_append_getElem hlt
          have HTK := Lib.hid htk
          clear htk
          generalize l1[k] = x at *
          obtain ⟨b1, o1, k1', p1', n1', N1', s1', hq1, ha1, ht1⟩ := HR1.out k x hx1
          subst hq1
          have hBR : Below w.heap.size w wr := HBW.out.trans (hB.mono (by omega))
          obtain ⟨x0, x1, x2, x3, x4⟩ := ha1.below hBR ha1.lt
          have m4 : wr.cell? ⟨w.heap.size, 4, none⟩ = some (.slice (some ⟨b1, o1, none⟩) l1.length c1) := (hB.cell (p := ⟨w.heap.size, 4, none⟩) (by simp; omega)).trans M4.out
          have HC : RowKit.Hid (∀ deep, Calls Tryz.prog 26 #[tv k1' p1' n1' N1' s1', .int .i64 deep] wr (SomeWJ d x wr)) :=
            Lib.hid fun deep => HIH.out _ _ deep wr (ht1.below hBR)
          clear hx1 ht1 ha1 hB hBR
          by_cases hm : m < 100000
          · go_wp2_with (go_at_call 26; ((with_reducible refine (HC.out _).mono ?_); rintro e w3 ⟨m3, rfl, hg1, hg2, hg3, hb⟩; have HG := Lib.hid hg3; clear hg3))
            have HQ := Lib.hid (HB.out.trans (hb.mono hzr))
            go_roundw
            case rel =>
              refine ⟨k + 1, by omega, by go_num, ⟨m + m3, by go_num, by omega, by omega, by omega, fun h6 y hy => ?_⟩, HQ.out⟩
              rw [HTK.out] at hy
              rcases List.mem_append.1 hy with hy | hy
              · exact HMI.out (by omega) y hy
              · obtain rfl := List.mem_singleton.1 hy; exact HG.out (by omega)
            case measure => simp [intOf]; omega
          · go_wp2
            go_roundw
            case rel => exact ⟨k + 1, by omega, by go_num, ⟨m, rfl, by omega, by omega, by omega, fun h6 => by omega⟩, HB.out⟩
            case measure => simp [intOf]; omega
        · obtain rfl : k = l1.length := by omega
          rw [List.take_length] at HMI
          go_wp2
          all_goals
            go_ret
            refine ⟨_, rfl, by omega, by omega, fun h6 => ?_, HBW.out.trans (HB.out.mono (by omega))⟩
            have i1 := HMI.out (by omega)
            obtain ⟨i2, i3⟩ := HMN.out (by omega)
            exact ⟨i2, i3, i1⟩
def SomeFJ (d : Nat) (t : Tm) (w : World) (e : Ending) (w' : World) : Prop := ∃ r : Bool, e = .returned (.bool r) ∧ (r = true → Nm d t) ∧ Below w.heap.size w w'
set_option maxRecDepth 100000 in
theorem few3_any (d : Nat) (va : Value) (ta : Tm) (w : World) (h : IsT w d va ta) : Calls Tryz.prog 7 #[va] w (SomeFJ d ta w) := by
  have HT := Lib.hid h
  obtain ⟨d1, k1, p1, n1, N1, s1, l1, e1, rfl, e2, _, _, _⟩ := h.open
  subst e2
  clear h e1
  have HC := Lib.hid (weight3_any d _ _ 0 _ (HT.out.below (below_alloc w (.cells #[.int .i64 k1, .string p1, .string n1, .int .i64 N1, s1] 24))))
  go_enter Tryz.func7, Tryz.ntmps7
  go_wp2_with (go_at_call 26; ((with_reducible refine HC.out.mono ?_); rintro e w3 ⟨m3, rfl, g1, g2, g3, hb⟩; have HG := Lib.hid g3; clear g3))
  go_ret
  refine ⟨_, rfl, fun hr => ?_, (below_alloc w _).trans (hb.mono (by simp))⟩
  have h6 : m3 ≤ 600 := by simpa using hr
  exact HG.out h6
end Go.Proofs.YthcpmdgdbceeiaaGreatDoor
/- Contracts: cmp.Compare, cmp.Or of three, Compare of two versions, the document's Less and Compare, both Gaps. -/
namespace Go.Proofs.YthcpmdgdbceeiaaGreatDoor
open Go.RowKit

namespace Sv
def cmpI (a b : Int) : Int := if a < b then -1 else if b < a then 1 else 0
def orI (a b c : Int) : Int := if a ≠ 0 then a else if b ≠ 0 then b else c
/-- A version. -/
structure V where
  a : Int
  b : Int
  c : Int
deriving DecidableEq
def less (x y : V) : Bool := if x.a ≠ y.a then decide (x.a < y.a) else if x.b ≠ y.b then decide (x.b < y.b) else decide (x.c < y.c)
def cmp (x y : V) : Int := if less x y then -1 else if less y x then 1 else 0
def gap (x y : V) : Int := if x.a ≠ y.a then 3 else if x.b ≠ y.b then 2 else if x.c ≠ y.c then 1 else 0
theorem cmp_or (x y : V) : orI (cmpI x.a y.a) (cmpI x.b y.b) (cmpI x.c y.c) = cmp x y := by
  unfold orI cmpI cmp less
  rcases Int.lt_trichotomy x.a y.a with h | h | h <;> rcases Int.lt_trichotomy x.b y.b with g | g | g <;> rcases Int.lt_trichotomy x.c y.c with k | k | k <;>
    simp [h, g, k, Int.ne_of_lt, Int.ne_of_gt, Int.lt_asymm, Int.lt_irrefl]
end Sv
abbrev vv (x : Sv.V) : Value := .agg #[.int .i64 x.a, .int .i64 x.b, .int .i64 x.c]
abbrev vcells (x : Sv.V) : Array Value := #[.int .i64 x.a, .int .i64 x.b, .int .i64 x.c]

theorem bcellX {W w1 : World} (hb : Below W.heap.size W w1) : (∀ b o, b < W.heap.size → w1.cell? ⟨b, o, none⟩ = W.cell? ⟨b, o, none⟩) ∧ (∀ b o, b < W.heap.size → w1.frozen? ⟨b, o, none⟩ = W.frozen? ⟨b, o, none⟩) :=
  ⟨fun b o h => hb.cell (p := ⟨b, o, none⟩) h, fun b o h => hb.frozen (p := ⟨b, o, none⟩) h⟩
end Go.Proofs.YthcpmdgdbceeiaaGreatDoor
/- Contracts: the document's Compare, both Gaps, cmp.Or of three numbers, Compare of two versions. -/
namespace Go.Proofs.YthcpmdgdbceeiaaGreatDoor
open Go.RowKit

theorem below2X (w : World) (o1 o2 : Obj) : Below w.heap.size w ((w.alloc o1).alloc o2) := (below_alloc _ _).trans ((below_alloc _ _).mono (by simp))
end Go.Proofs.YthcpmdgdbceeiaaGreatDoor
