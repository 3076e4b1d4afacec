/- Copies of maps and of bytes; the directory behind a crash without turns, and with the one turn that there is. -/
import Derived.Test.YtdaipgeecmngfaaVi
import Derived.Shelf.SlMaps.Clone
import Derived.Test.YtdaipgeecmngfaaVe
namespace Go.Proofs.Ytdaipgeecmngfaa
open Go.RowKit Go.Maps Go.Shelf

set_option maxRecDepth 100000 in
set_option maxHeartbeats 1000000 in
theorem mclone_ok (b : Nat) (es : Array MapEntry) (clock : Nat) (w : World) (hb : w.heap[b]? = some (.map es clock)) :
    Calls Try.prog 54 #[.map (some b)] w fun e w' => e = .returned (.map (some w.heap.size)) ∧ w' = w.alloc (.map es clock) := by
  have hq := fun w => run_eql_map_nil_sl (P := Try.prog) w 79 _ _ (some b) Try.underlying79
  go_enter Try.func54, Try.ntmps54
  go_wp2
  rw [run_callFunc_extern Try.func70 (by kernel_rfl) (by kernel_rfl) (by kernel_rfl) (e := Extern.MapsClone.clone) (by kernel_rfl), run_maps_clone_sl w 79 hb]
  simp only [Result.andThen]
  rw [Oper.upon_value]
  go_wp2
  rw [run_typeAssert_map_sl _ 79 20 _ _ _ Try.underlying79]
  simp only [Result.andThen]
  rw [Oper.upon_value]
  go_wp2
  go_ret
  exact ⟨rfl, rfl⟩

set_option maxRecDepth 100000 in
theorem bclone_nil (w : World) : Calls Try.prog 45 #[.slice none 0 0] w fun e w' => e = .returned (.slice none 0 0) ∧ w' = w := by
  have hq := fun w => Lib.run_eql_slice_nil (P := Try.prog) w 45 5 none 0 0 0 0 Try.underlying45
  go_enter Try.func45, Try.ntmps45
  go_wp2
  go_ret
  exact ⟨rfl, rfl⟩

theorem own_of_block {w : World} {g : Nat} {x : Value} (h : w.heap[g]? = some (.cells #[x] 5 (0, 0))) : w.ownsRow 0 5 1 (.slice (some ⟨g, 0, none⟩) 1 1) 1 [x] :=
  ⟨rfl, .inr ⟨g, 1, #[x], rfl, Nat.zero_le _, h, Nat.le_refl _, by decide, rfl, rfl⟩⟩

structure NewRow (v : Value) (n : Nat) (xs : List Value) (w w' : World) : Prop where
  own : w'.ownsRow w.heap.size 5 1 v n xs
  below : Below w.heap.size w w'

set_option maxRecDepth 100000 in
set_option maxHeartbeats 1000000 in
theorem bclone_some (g n c : Nat) (xs : List Value) (w : World) (hg : w.ownsRow 0 5 1 (.slice (some ⟨g, 0, none⟩) n c) n xs) (hm : 0 < n) (hn : n ≤ 1000000) (hone : ∀ u ∈ xs, u.oneCell' = true) :
    Calls Try.prog 45 #[.slice (some ⟨g, 0, none⟩) n c] w fun e w' => ∃ v, e = .returned v ∧ NewRow v n xs w w' := by
  obtain ⟨i0, hi, hz0, hz1, hz2⟩ := info_parts info5
  have Hg := Lib.hid hg
  have Ho := Lib.hid hone
  clear hg hone
  have hq := fun w => Lib.run_eql_slice_nil (P := Try.prog) w 45 5 (some ⟨g, 0, none⟩) n c 0 0 Try.underlying45
  go_enter Try.func45, Try.ntmps45
  go_wp2_with (first
    | (at_builtin; refine wpList_append_lies _ rfl _ _ 45 rfl w.heap.size 5 i0 _ 1 1 Try.underlying45 hi hz0 hz1 hz2 rfl (by decide) _ 0 [] rfl (World.ownsRow_made w #[] 0 (Nat.le_refl _) (by decide) rfl) ⟨g, 0, none⟩ n c xs rfl (by rw [Hg.out.1]) ((Hg.out.alloc _).cells rfl) Ho.out hm (by unfold maxLen; omega) (by omega) (by simp) _ rfl ?_; intro g2 cap2 w2 hown2 hg2 hat2 hlt2)
    | go_in)
  go_ret
  rw [Nat.zero_add] at hown2
  exact ⟨_, rfl, hown2, below_grown (below1 _ _) hg2 (by simp) (Nat.le_refl _)⟩

set_option maxRecDepth 100000 in
set_option maxHeartbeats 1000000 in
theorem bclone_form (g n c : Nat) (xs : List Value) (w : World) (hg : w.ownsRow 0 5 1 (.slice (some ⟨g, 0, none⟩) n c) n xs) (hm : 0 < n) (hn : n ≤ 1000000) (hone : ∀ u ∈ xs, u.oneCell' = true) :
    Calls Try.prog 45 #[.slice (some ⟨g, 0, none⟩) n c] w fun e w' => ∃ g2 c2, e = .returned (.slice (some ⟨g2, 0, none⟩) n c2) ∧ NewRow (.slice (some ⟨g2, 0, none⟩) n c2) n xs w w' := by
  obtain ⟨i0, hi, hz0, hz1, hz2⟩ := info_parts info5
  have Hg := Lib.hid hg
  have Ho := Lib.hid hone
  clear hg hone
  have hq := fun w => Lib.run_eql_slice_nil (P := Try.prog) w 45 5 (some ⟨g, 0, none⟩) n c 0 0 Try.underlying45
  go_enter Try.func45, Try.ntmps45
  go_wp2_with (first
    | (at_builtin; refine wpList_append_lies _ rfl _ _ 45 rfl w.heap.size 5 i0 _ 1 1 Try.underlying45 hi hz0 hz1 hz2 rfl (by decide) _ 0 [] rfl (World.ownsRow_made w #[] 0 (Nat.le_refl _) (by decide) rfl) ⟨g, 0, none⟩ n c xs rfl (by rw [Hg.out.1]) ((Hg.out.alloc _).cells rfl) Ho.out hm (by unfold maxLen; omega) (by omega) (by simp) _ rfl ?_; intro g2 cap2 w2 hown2 hg2 hat2 hlt2)
    | go_in)
  go_ret
  simp only [Nat.zero_add, List.nil_append] at hown2
  exact ⟨g2, cap2, by rw [← Nat.zero_add n]; rfl, hown2, below_grown (below1 _ _) hg2 (by simp) (Nat.le_refl _)⟩
end Go.Proofs.Ytdaipgeecmngfaa
