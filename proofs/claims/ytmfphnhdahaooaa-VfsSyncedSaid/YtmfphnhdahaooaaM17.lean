/- The texts Vr, one behind the other. -/
import Derived.Test.YtmfphnhdahaooaaM10
import Derived.Test.YtmfphnhdahaooaaM16
set_option linter.unusedSimpArgs false
set_option linter.unusedVariables false
/- Names of a store without files: none. -/
namespace Go.Proofs.Ytmfphnhdahaooaa
open Go.RowKit Go.Maps Go.Sort Go.Shelf

theorem sorts55 (m : Nat) : AnyZ.SortsIn Try.prog Try.sorted55_ren Fence.wide m :=
  ⟨fun blk off cap ss W hH hblk hsz => callsIn_wide.2 (AnyM.slices_Sort_string Try.sort72 blk off cap ss W hH hblk hsz),
   fun p cap W => callsIn_wide.2 (AnyM.slices_Sort_string_none Try.sort72 p cap W)⟩

theorem keys_ok (mb : Option Nat) (W : World) : Calls Try.prog 56 #[.map mb] W fun e w' => e = .returned (.func (.func 73) #[] #[.pointer (some ⟨W.heap.size, 0, none⟩)]) ∧ w' = W.alloc (.cells #[.map mb] 79) :=
  callsIn_wide.1 (AnyZ.keys_in Try.keys56 Fence.wide 5 trivial rfl mb W)

theorem owns_none {w : World} {b : Nat} (h : w.heap[b]? = some (.map #[] 0)) : w.ownsMap (H := Unit) Try.prog 9 (fun _ => none) b 0 (.map []) :=
  ⟨#[], 0, h, ⟨by decide, ⟨by simp, by simp⟩, by simp⟩, by simp, by simp⟩

set_option maxHeartbeats 1000000 in
theorem sorted_ok (b : Nat) (w : World) (hb : w.heap[b]? = some (.map #[] 0)) :
    Calls Try.prog 55 #[.func (.func 73) #[] #[.pointer (some ⟨w.heap.size, 0, none⟩)]] (w.alloc (.cells #[.map (some b)] 79)) fun e w' => e = .returned (.slice none 0 0) ∧ Below (w.alloc (.cells #[.map (some b)] 79)).heap.size (w.alloc (.cells #[.map (some b)] 79)) w' := by
  have hown := owns_none hb
  have hbl := hown.lt
  have hseq : SeqGives Fence.wide 2 Try.prog 73 #[.pointer (some ⟨w.heap.size, 0, none⟩)] encStr (fun ss => ss.Perm (strKeys (H := Unit) (.map []))) 0 (w.alloc (.cells #[.map (some b)] 79)) :=
    AnyZ.keys_gives (ρ := Try.keys56_ren) { Try.keys56 with } Fence.wide _ trivial rfl (by omega) w.heap.size b 0 (.map []) _ (by simp) (by simp) (by
      obtain ⟨es, clock, hb, Ft, hs, hD⟩ := hown
      exact ⟨es, clock, (Below.heap_alloc _ _ b hbl).trans hb, Ft, hs, hD⟩)
  have h := callsIn_wide.1 (AnyZ.sorted_in Try.sorted55 Fence.wide 5 trivial trivial trivial trivial rfl (by omega) (sorts55 _) (enters_of Try.func72 (by kernel_rfl) rfl) 73 #[.pointer (some ⟨w.heap.size, 0, none⟩)] trivial (enters_of Try.func73 (by kernel_rfl) rfl) _ 0 (Nat.zero_le _) (by omega) _ hseq)
  refine h.mono fun e w' h2 => ?_
  obtain ⟨v, ss, rfl, hp, _, hn, hbw⟩ := h2
  have h0 : ss = [] := List.Perm.eq_nil (by simpa [strKeys] using hp)
  rw [hn.2 h0]
  exact ⟨rfl, hbw⟩

set_option maxRecDepth 100000 in
theorem names_none (F N L cap used : Nat) (tv : Value) (w : World) (hc : 0 < cap) (hF : w.heap[F]? = some (.cells (fsCells cap used N L tv) 82 (0, 0))) (hN : w.heap[N]? = some (.map #[] 0)) :
    Calls Try.prog 22 #[.pointer (some ⟨F, 0, none⟩)] w fun e w' => e = .returned (.slice none 0 0) ∧ Below w.heap.size w w' := by
  have c0 : w.cell? ⟨F, 0, none⟩ = some (.int .i64 cap) := hb_at hF 0 rfl
  have c2 : w.cell? ⟨F, 2, none⟩ = some (.map (some N)) := hb_at hF 2 rfl
  have HN := Lib.hid hN
  clear hF hN
  go_enter Try.func22, Try.ntmps22
  go_wp2_with (first
    | (go_at_call 46; refine (made_yes F cap hc _ (by assumption)).mono ?_; rintro e w' ⟨rfl, rfl⟩)
    | (go_at_call 56; refine (keys_ok _ _).mono ?_; rintro e w' ⟨rfl, rfl⟩)
    | (go_at_call 55; refine (sorted_ok N w HN.out).mono ?_; rintro e w' ⟨rfl, hb⟩)
    | go_in)
  go_ret
  exact ⟨rfl, (below1 w _).trans (hb.mono (by simp))⟩
end Go.Proofs.Ytmfphnhdahaooaa
