/- The document's Size; what is put behind one another is what is put at once. -/
import Derived.Test.YthcpmdgdbceeiaaGreatDoorU8
namespace Go.Proofs.YthcpmdgdbceeiaaGreatDoor
open Go.RowKit
set_option maxRecDepth 100000 in
set_option maxHeartbeats 2000000 in
theorem rsize_any (d : Nat) : ∀ (va : Value) (ta : Tm) (w : World), IsT w d va ta → Calls Tryz.prog 16 #[va] w (SizeR d ta w) := by
  induction d with
  | zero => intro va ta w h; cases h
  | succ d ih =>
    intro va ta w ha
    obtain ⟨d1, k1, p1, n1, N1, s1, l1, e1, rfl, rfl, hp1, hn1, hk1⟩ := ha.open
    obtain rfl : d = d1 := by omega
    obtain ⟨q1, c1, hs1, hm1, hr1⟩ := hk1
    subst hs1
    have HR1 := Lib.hid hr1
    clear ha e1 hr1 hp1 hn1
    unfold maxLen at hm1
    have HIH := Lib.hid ih
    clear ih
    go_enter Tryz.func16, Tryz.ntmps16
    go_wp2
    have hBW : Below w.heap.size w (w.alloc (.cells #[.int .i64 k1, .string p1, .string n1, .int .i64 N1, .slice q1 l1.length c1] 24)) := below_alloc w _
    have hbx := hb_new w (.cells #[.int .i64 k1, .string p1, .string n1, .int .i64 N1, .slice q1 l1.length c1] 24)
    generalize hW1 : w.alloc (.cells #[.int .i64 k1, .string p1, .string n1, .int .i64 N1, .slice q1 l1.length c1] 24) = W1 at *
    have HBW := Lib.hid hBW
    have hzw : w.heap.size ≤ W1.heap.size := hBW.size
    have HBX := Lib.hid hbx
    clear hW1 hBW hbx
    go_loopw [3, 4] (fun n i wr => ∃ k : Nat, k ≤ l1.length ∧ i = .int .i64 k ∧ n = .int .i64 (szTo d k l1) ∧ Below W1.heap.size W1 wr) (fun _ i _ => l1.length - (intOf i).toNat)
    case atStart => exact ⟨0, Nat.zero_le _, rfl, rfl, Below.refl _ _⟩
    case round =>
      obtain ⟨k, hk, rfl, rfl, hB⟩ := hrel
      have hzr := hB.size
      have HB := Lib.hid hB
      have xk := hb_at (hb_below HBX.out hB (hb_lt HBX.out)) 4 rfl
      by_cases hlt : k < l1.length
      · have hx1 := List.getElem?_eq_getElem hlt
        have HN := Lib.hid (szTo_next (d := d) hlt)
        generalize l1[k] = x at *
        obtain ⟨b1, o1, k1', p1', n1', N1', s1', hq1, ha1, ht1⟩ := HR1.out k x hx1
        subst hq1
        obtain ⟨q3, l3, c3, hs3⟩ := ht1.spell
        subst hs3
        have hBR : Below w.heap.size w wr := HBW.out.trans (hB.mono (by omega))
        obtain ⟨x0, x1, x2, x3, x4⟩ := ha1.below hBR ha1.lt
        have HC : RowKit.Hid (∀ W, Below wr.heap.size wr W → Calls Tryz.prog 16 #[tv k1' p1' n1' N1' (.slice q3 l3 c3)] W (SizeR d x W)) :=
          Lib.hid fun W hW => HIH.out _ _ W ((ht1.below hBR).below hW)
        clear hx1 ht1 ha1 hB hBR
        generalize szTo d k l1 = m at *
        go_wp2_with (go_at_call 16; ((with_reducible refine (HC.out _ (Below.refl _ _)).mono ?_); rintro e w3 ⟨rfl, hb⟩))
        have HQ := Lib.hid (HB.out.trans (hb.mono hzr))
        go_roundw
        case rel => exact ⟨k + 1, by omega, by go_num, by rw [HN.out], HQ.out⟩
        case measure => simp [intOf]; omega
      · obtain rfl : k = l1.length := by omega
        go_wp2
        go_ret
        exact ⟨ret_int szTo_all, HBW.out.trans (HB.out.mono (by omega))⟩
end Go.Proofs.YthcpmdgdbceeiaaGreatDoor
