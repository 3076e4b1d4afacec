/- The texts Vb, one behind the other. -/
import Derived.Test.YtmfphnhdahaooaaM01
import Derived.BigQuiet
import Derived.Deep.QuietTactic
import Derived.Deep.RegionWith
import Derived.StillTailTactics
set_option linter.unusedSimpArgs false
set_option linter.unusedVariables false
/- Contract of a step of a store with power, without Fail and Power: it answers OK and leaves all as it was. -/
namespace Go.Proofs.Ytmfphnhdahaooaa
open Go.RowKit

theorem setCell_id {w : World} {a : Addr} {v : Value} (h : w.cell? a = some v) : w.setCell a v = w := by
  unfold World.cell? at h
  split at h
  · rename_i c t fr hb
    by_cases hs : a.spot.isSome
    · simp [hs] at h
    · simp [hs] at h
      have e : (w.setCell a v).heap = w.heap := by
        unfold World.setCell
        apply Array.ext_getElem?
        intro i
        rw [Array.getElem?_modify]
        split
        · rename_i hi
          subst hi
          rw [hb]
          simp [hs]
          apply Array.ext_getElem?
          intro j
          rw [Array.getElem?_setIfInBounds]
          split
          · rename_i hj
            subst hj
            split
            · exact h.symm
            · rename_i hlt
              rw [Array.getElem?_eq_none (by omega)] at h
              cases h
          · rfl
        · rfl
      show { w with heap := (w.setCell a v).heap } = w
      rw [e]
  · cases h

set_option maxHeartbeats 1000000 in
theorem step_ok (b : Nat) (w : World) (h5 : w.cell? ⟨b, 5, none⟩ = some (.int .i64 (-1))) (h6 : w.cell? ⟨b, 6, none⟩ = some (.int .i64 (-1))) (h7 : w.cell? ⟨b, 7, none⟩ = some (.bool false))
   (f5 : w.frozen? ⟨b, 5, none⟩ = false) (f6 : w.frozen? ⟨b, 6, none⟩ = false) (f7 : w.frozen? ⟨b, 7, none⟩ = false) :
    Calls Try.prog 44 #[.pointer (some ⟨b, 0, none⟩)] w fun e w' => e = .returned (.int .i64 0) ∧ ∃ n, w' = w.drewN n := by
  go_enter Try.func44, Try.ntmps44
  go_wp2
  go_quiet (fail)
  go_wp2
  go_region_with (go_at_call 68; refine (nearer_neg _).mono ?_; rintro e w' ⟨rfl, rfl⟩)
  all_goals go_wp2
  all_goals
    go_ret
    refine ⟨rfl, nq + 1, ?_⟩
    rw [setCell_id (w := w.drewN (nq + 1)) h5, setCell_id (w := w.drewN (nq + 1)) h6, setCell_id (w := w.drewN (nq + 1)) h7]
end Go.Proofs.Ytmfphnhdahaooaa
