/- Sorted: its walk. -/
import Derived.Test.YtmgnbpgcbehidaaG65
import Derived.Test.YtmgnbpgcbehidaaG4
import Derived.Test.YtmgnbpgcbehidaaH1
import Derived.Outline
namespace Go.Proofs.Ytmgnbpgcbehidaa
open Go.RowKit Go.Maps
set_option maxRecDepth 100000 in
set_option maxHeartbeats 2000000 in
theorem sorted_of (v : Value) (l : List Sv.V) (w : World) (hr : VRow w v l) (hok : ∀ x ∈ l, OkV x) (h60 : l.length ≤ 60)
    (hsf : ∀ (M n : Nat) (g : Sv.V → Bool) (W : World), VSet W M n g → n ≤ 1000 → Calls Try.prog 30 #[.func (.func 38) #[] #[.pointer (some ⟨W.heap.size, 0, none⟩)], .func (.func 7) #[] #[]] (W.alloc (.cells #[.map (some M)] 55)) (SortedR g (W.heap.size + 1) (W.alloc (.cells #[.map (some M)] 55)))) :
    Calls Try.prog 21 #[v] w (SortedR (inB l) w.heap.size w) := by
  obtain ⟨q, c, rfl, hrow⟩ := hr
  have HR := Lib.hid hrow
  have HO := Lib.hid hok
  have HF := Lib.hid hsf
  clear hrow hok hsf
  have hmm := @run_makeMap Try.prog
  go_enter Try.func21, Try.ntmps21
  go_wp2
  go_loopw [9] (fun i wr => ∃ k : Nat, k ≤ l.length ∧ i = .int .i64 k ∧ VSet wr w.heap.size k (inB (l.take k)) ∧ Below w.heap.size w wr) (fun i _ => l.length - (intOf i).toNat)
  case atStart => exact ⟨0, Nat.zero_le _, rfl, VSet.made w, below_alloc _ _⟩
  case round =>
    obtain ⟨k, hk, rfl, hV, hB⟩ := hrel
    by_cases hlt : k < l.length
    · obtain ⟨b, o, hq, ha⟩ := HR.out k l[k] (List.getElem?_eq_getElem hlt)
      subst hq
      obtain ⟨x0, x1, x2⟩ := ha.below hB ha.lt
      have HX := Lib.hid (HO.out l[k] (List.getElem_mem hlt))
      have HS := Lib.hid (inB_snoc l k hlt)
      generalize hy : l[k] = y at *
      have HY := Lib.hid hy
      clear hy ha
      have HV := Lib.hid (hV.same (Below.heap_alloc wr (.cells #[.int .i64 y.a, .int .i64 y.b, .int .i64 y.c] 23) w.heap.size hV.lt))
      have HB := Lib.hid hB
      clear hV hB
      go_wp2_with (at_mapUpdate; refine wpList_vs_put _ rfl _ _ _ rfl rfl HV.out (by unfold maxLen; omega) y rfl HX.out rfl ?_; intro w2 hv2 ht2)
      go_roundw
      case rel => exact ⟨k + 1, by omega, by go_num, by rw [← HS.out]; exact hv2, (HB.out.alloc HB.out.size _).grown ht2.grown (by have := HB.out.size; simp; omega) (fun k e => by cases e; exact Nat.le_refl _)⟩
      case measure => simp [intOf]; omega
    · obtain rfl : k = l.length := by omega
      rw [List.take_length] at hV
      have HV := Lib.hid hV
      have HB := Lib.hid hB
      clear hV hB
      go_wp2_with (first
        | (go_at_call 31; refine (keys_any _ _).mono ?_; rintro e w1 ⟨rfl, rfl⟩)
        | (go_at_call 30; refine (HF.out _ _ _ wr HV.out (by omega)).mono ?_; rintro e w2 ⟨v, ls, rfl, hS⟩))
      go_ret
      have hz := HB.out.size
      exact ⟨v, ls, rfl, ownsRow_base_a hS.own (by omega), hS.nodup, hS.asc, hS.ok, hS.mem, (HB.out.alloc HB.out.size _).trans (hS.below.mono (by omega))⟩
end Go.Proofs.Ytmgnbpgcbehidaa
