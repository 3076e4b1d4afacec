/- The texts Ve, one behind the other. -/
import Derived.Test.YtmfphnhdahaooaaM04
import Derived.Laws.CopyOwn
import Derived.Lib.Hide
set_option linter.unusedSimpArgs false
set_option linter.unusedVariables false
/- Bytes are put at a file's end: its bytes are the old ones and the new ones behind them; nothing else is turned but its own row. -/
namespace Go.Proofs.Ytmfphnhdahaooaa
open Go.RowKit Go.Maps

theorem info5 : (Try.prog.info? 5).map (fun i => (i.zero, i.size, i.bytes)) = some (some (.int .u8 0), 1, 1) := by kernel_rfl

theorem size5 : (Try.prog.info? 5).map (·.size) = some 1 := by kernel_rfl

structure PutEnd (X : Nat) (bv lv : Value) (m k : Nat) (xs news : List Value) (w w' : World) : Prop where
  own : ∃ bv', w'.heap[X]? = some (.cells #[bv', lv] 85 (0, 0)) ∧ w'.ownsRow 0 5 1 bv' (m + k) (xs ++ news) ∧ (bv'.ownBlock = bv.ownBlock ∨ ∃ g, bv'.ownBlock = some g ∧ w.heap.size ≤ g)
  size : w.heap.size ≤ w'.heap.size
  rest : w'.os = w.os ∧ w'.tape = w.tape ∧ w'.output = w.output
  kept : ∀ j x, j ≠ X → some j ≠ bv.ownBlock → w.heap[j]? = some x → w'.heap[j]? = some x

set_option maxRecDepth 100000 in
set_option maxHeartbeats 1000000 in
theorem put_nil (X S c k : Nat) (lv : Value) (news : List Value) (w : World) (hX : w.heap[X]? = some (.cells #[.slice none 0 0, lv] 85 (0, 0)))
    (hk : 0 < k) (hkc : k ≤ c) (hkm : k ≤ 1000000) (hnl : news.length = k) (hnews : ∀ j u, news[j]? = some u → w.cell? ((⟨S, 0, none⟩ : Addr).add j) = some u) (hone : ∀ u ∈ news, u.oneCell' = true) :
    Calls Try.prog 59 #[.pointer (some ⟨X, 0, none⟩), .int .i64 0, .slice (some ⟨S, 0, none⟩) k c] w fun e w' => e = .returned (.tuple #[]) ∧ PutEnd X (.slice none 0 0) lv 0 k [] news w w' := by
  have c0 : w.cell? ⟨X, 0, none⟩ = some (.slice none 0 0) := hb_at hX 0 rfl
  have f0 := hb_free hX 0
  obtain ⟨i0, hi, hz0, hz1, hz2⟩ := info_parts info5
  have HN := Lib.hid hnews
  have HO := Lib.hid hone
  have HL := Lib.hid hnl
  clear hnews hone hnl
  go_enter Try.func59, Try.ntmps59
  go_wp2_with (refine wpList_copy_nothing (o := ⟨some 14, _, _, _, _, _⟩) rfl (.tmp 12) (.tmp 13) 45 45 rfl 5 Try.underlying45 size5 none (some ⟨S, 0, none⟩) 0 0 k c rfl rfl (Nat.min_zero _) ?_)
  go_region_law (refine step_append_lies _ rfl (.tmp 19) (.tmp 22) 45 rfl 0 5 i0 _ 1 1 Try.underlying45 hi hz0 hz1 hz2 rfl (by decide) _ 0 [] (by simp [Act.eval, Act.put]) (World.ownsRow_nil _ _ _ _) ⟨S, 0, none⟩ k c news (by simp [Act.eval, Act.put]) (by rw [HL.out]; omega) HN.out HO.out hk (by unfold maxLen; omega) (by omega) (Nat.zero_le _) _ rfl ?_; intro g cap' w2 hown2 hg2 hat2 hlt2; have hX2 := hb_grown (w := w.drew) hX hg2 (by simp [Value.ownBlock]); have c02 : w2.cell? ⟨X, 0, none⟩ = some (.slice none 0 0) := hb_at hX2 0 rfl; have f02 := hb_free hX2 0)
  all_goals
    go_wp2_with fail
    go_end0
    rw [Nat.zero_add] at hown2
    have e1 := hg2.size
    have e2 := (grown_set w2 ⟨X, 0, none⟩ (.slice (some ⟨g, 0, none⟩) k cap')).size
    have e3 : g = w.heap.size := hat2.elim (fun h => by cases h) id
    refine ⟨rfl, ⟨_, hb_set_same hX2 0 _, ?_, .inr ⟨g, rfl, by omega⟩⟩, Nat.le_trans e1 e2, ⟨hg2.os, hg2.tape, hg2.output⟩, fun j x hj _ h => hb_set_other (hb_grown (w := w.drew) h hg2 (by simp [Value.ownBlock])) _ hj⟩
    rw [Nat.zero_add]
    exact hown2.kept (grown_set _ _ _) (.inr fun e => own_ne hown2 hX2 (by simp) e.symm)
end Go.Proofs.Ytmfphnhdahaooaa
