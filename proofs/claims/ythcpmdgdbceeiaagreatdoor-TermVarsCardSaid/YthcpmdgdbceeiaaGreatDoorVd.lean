/- FewAll: what it tells where it answers true. -/
import Derived.Test.YthcpmdgdbceeiaaGreatDoorVm
import Derived.Test.YthcpmdgdbceeiaaGreatDoorVo
namespace Go.Proofs.YthcpmdgdbceeiaaGreatDoor
open Go.RowKit
set_option linter.unusedSimpArgs false
set_option linter.unusedVariables false
def sumN (d : Nat) (l : List Tm) : Nat := l.foldl (fun n t => n + tszN d t) 0
def AllF (d : Nat) (l : List Tm) (w : World) (e : Ending) (w' : World) : Prop := ∃ r : Bool, e = .returned (.bool r) ∧ (r = true → (∀ x ∈ l, Sm d x) ∧ sumN d l ≤ 600) ∧ Below w.heap.size w w'
set_option maxRecDepth 100000 in
set_option maxHeartbeats 4000000 in
theorem fewAll_any (d : Nat) (l : List Tm) (v : Value) (w : World) (h : KidsT w d v l) : Calls Tryz.prog 19 #[v] w (AllF d l w) := by
  obtain ⟨q, c, rfl, hm, hr⟩ := h
  have HR := Lib.hid hr
  clear hr
  unfold maxLen at hm
  go_enter Tryz.func19, Tryz.ntmps19
  go_wp2
  go_loopw [3, 4] (fun n i wr => ∃ k : Nat, k ≤ l.length ∧ i = .int .i64 k ∧ (∃ m : Int, n = .int .i64 m ∧ 0 ≤ m ∧ m ≤ 100600 ∧ (m ≤ 600 → (∀ x ∈ l.take k, Sm d x) ∧ ((sumN d (l.take k) : Nat) : Int) ≤ m)) ∧ Below w.heap.size w wr) (fun _ i _ => l.length - (intOf i).toNat)
  case atStart => exact ⟨0, Nat.zero_le _, rfl, ⟨0, rfl, by omega, by omega, fun _ => ⟨fun x hx => by simp at hx, by simp [sumN]⟩⟩, Below.refl _ _⟩
  case round =>
    obtain ⟨k, hk, rfl, ⟨m, rfl, hm0, hm1, hmI⟩, hB⟩ := hrel
    have HMI := Lib.hid hmI
    have HB := Lib.hid hB
    have hzr := hB.size
    clear hmI hB
    by_cases hlt : k < l.length
    · have hlt2 : (k : Int) < (l.length : Int) := by omega
      by_cases h6 : m ≤ 600
      · have hx1 := List.getElem?_eq_getElem hlt
        have HTK : RowKit.Hid (l.take (k + 1) = l.take k ++ [l[k]]) := Lib.hid (List.take_succ_eq_append_getElem hlt)
        generalize l[k] = x at *
        obtain ⟨b1, o1, k1, p1, n1, N1, s1, hq1, ha1, ht1⟩ := HR.out k x hx1
        subst hq1
        obtain ⟨q3, l3, c3, hs3⟩ := ht1.spell
        subst hs3
        obtain ⟨x0, x1, x2, x3, x4⟩ := ha1.below HB.out ha1.lt
        have HC := Lib.hid (weight2_any d _ x 0 wr (ht1.below HB.out))
        clear hx1 ht1 ha1
        go_wp2_with (go_at_call 26; ((with_reducible refine HC.out.mono ?_); rintro e w3 ⟨m3, rfl, hg1, hg2, hg3, hb⟩; have HG := Lib.hid hg3; clear hg3))
        have HQ := Lib.hid (HB.out.trans (hb.mono hzr))
        go_roundw
        case rel =>
          refine ⟨k + 1, by omega, by go_num, ⟨m + m3, by go_num, by omega, by omega, fun h => ?_⟩, HQ.out⟩
          obtain ⟨i1, i2⟩ := HMI.out (by omega)
          obtain ⟨j1, j2⟩ := HG.out (by omega)
          rw [HTK.out]
          refine ⟨fun y hy => ?_, ?_⟩
          · rcases List.mem_append.1 hy with hy | hy
            · exact i1 y hy
            · obtain rfl := List.mem_singleton.1 hy; exact j1
          · unfold sumN at *
            rw [List.foldl_append]; simp only [List.foldl_cons, List.foldl_nil]; omega
        case measure => simp [intOf]; omega
      · go_wp2
        go_ret
        exact ⟨_, rfl, fun hr => by simp at hr, HB.out⟩
    · obtain rfl : k = l.length := by omega
      rw [List.take_length] at HMI
      go_wp2
      all_goals
        go_ret
        refine ⟨_, rfl, fun hr => ?_, HB.out⟩
        have h6 : m ≤ 600 := by simpa using hr
        obtain ⟨i1, i2⟩ := HMI.out h6
        exact ⟨i1, by omega⟩
end Go.Proofs.YthcpmdgdbceeiaaGreatDoor
