/- Same: two slices that read as one list are the same. -/
import Derived.Test.YtmgnbpgcbehidaaH5
import Derived.Outline
namespace Go.Proofs.Ytmgnbpgcbehidaa
open Go.RowKit
def Drew2 (w w' : World) : Prop := ∃ n, w' = w.drewN n
set_option maxRecDepth 100000 in
set_option maxHeartbeats 1000000 in
theorem same_eq (va vb : Value) (l : List Sv.V) (w : World) (ha : VRow w va l) (hb : VRow w vb l) (hl : l.length ≤ 1000) :
    Calls Try.prog 20 #[va, vb] w fun e w' => e = .returned (.bool true) ∧ Drew2 w w' := by
  obtain ⟨q1, c1, rfl, h1⟩ := ha
  obtain ⟨q2, c2, rfl, h2⟩ := hb
  have H1 := Lib.hid h1
  have H2 := Lib.hid h2
  clear h1 h2
  go_enter Try.func20, Try.ntmps20
  go_wp2
  go_loopw [5] (fun i wr => ∃ k : Nat, k ≤ l.length ∧ i = .int .i64 k ∧ Drew2 w wr) (fun i _ => l.length - (intOf i).toNat)
  case atStart => exact ⟨0, Nat.zero_le _, rfl, 0, rfl⟩
  case round =>
    obtain ⟨k, hk, rfl, n, rfl⟩ := hrel
    by_cases hlt : k < l.length
    · obtain ⟨b1, o1, e1, ha1⟩ := H1.out k l[k] (List.getElem?_eq_getElem hlt)
      obtain ⟨b2, o2, e2, ha2⟩ := H2.out k l[k] (List.getElem?_eq_getElem hlt)
      subst e1 e2
      generalize l[k] = x at *
      obtain ⟨x0, x1, x2⟩ := ha1
      obtain ⟨y0, y1, y2⟩ := ha2
      have hki : (k : Int) < (l.length : Int) := by omega
      go_wp2
      go_quiet (fail)
      go_wp2
      go_roundw
      case rel => exact ⟨k + 1, by omega, by go_num, _, rfl⟩
      case measure => simp [intOf]; omega
    · go_wp2
      go_ret
      exact ⟨rfl, n, rfl⟩
end Go.Proofs.Ytmgnbpgcbehidaa
