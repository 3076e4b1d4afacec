/- A name comes to be: the turn is made on the directory, and kept behind the turns since the last SyncDir. -/
import Derived.Test.YtdaipgeecmngfaaVc
import Derived.Deep.RegionLaw
import Derived.Deep.DeepCutAuto
namespace Go.Proofs.Ytdaipgeecmngfaa
open Go.RowKit Go.Maps

def fsCells (cap used : Int) (N L : Nat) (tv : Value) : Array Value := #[.int .i64 cap, .int .i64 used, .map (some N), .map (some L), tv, .int .i64 (-1), .int .i64 (-1), .bool false]
def turnCells (s tn : ByteArray) (X : Nat) : List Value := [.int .i64 0, .string s, .string tn, .pointer (some ⟨X, 0, none⟩)]

theorem info87 : (Try.prog.info? 87).map (fun i => (i.zero, i.size, i.bytes)) = some (some (.agg #[.int .i64 0, .string ⟨#[]⟩, .string ⟨#[]⟩, .pointer none]), 4, 48) := by kernel_rfl

structure Did (F N L : Nat) (cap used : Int) (tv : Value) (n : Nat) (ts : List Value) (s tn : ByteArray) (X : Nat) (es : Array MapEntry) (clock : Nat) (w w' : World) : Prop where
  own : ∃ tv', w'.heap[F]? = some (.cells (fsCells cap used N L tv') 82 (0, 0)) ∧ w'.ownsRow 0 87 4 tv' (n + 1) (ts ++ turnCells s tn X)
  map : w'.heap[N]? = some (.map (es.push ⟨.string s, .pointer (some ⟨X, 0, none⟩), clock⟩) (clock + 1))
  size : w.heap.size ≤ w'.heap.size
  rest : w'.os = w.os ∧ w'.tape = w.tape ∧ w'.output = w.output
  kept : ∀ k x, k ≠ N → k ≠ F → some k ≠ tv.ownBlock → w.heap[k]? = some x → w'.heap[k]? = some x

set_option maxHeartbeats 1000000 in
theorem do_comes (F N L X : Nat) (cap used : Int) (tv : Value) (n : Nat) (ts : List Value) (s tn : ByteArray) (es : Array MapEntry) (clock : Nat) (w : World)
    (hF : w.heap[F]? = some (.cells (fsCells cap used N L tv) 82 (0, 0))) (hN : w.heap[N]? = some (.map es clock)) (hT : w.ownsRow 0 87 4 tv n ts) (hn : n ≤ 1000000)
    (hf : ∀ w, (Instr.findKey 9 (.string s) es.toList).run Try.prog w = .ok none w) :
    Calls Try.prog 58 #[.pointer (some ⟨F, 0, none⟩), .agg #[.int .i64 0, .string s, .string tn, .pointer (some ⟨X, 0, none⟩)]] w fun e w' => e = .returned (.tuple #[]) ∧ Did F N L cap used tv n ts s tn X es clock w w' := by
  have c2 : w.cell? ⟨F, 2, none⟩ = some (.map (some N)) := by rw [hb_cell hF]; rfl
  have hFl := hb_lt hF
  have hne : F ≠ N := fun e => by subst e; rw [hF] at hN; cases hN
  go_enter Try.func58, Try.ntmps58
  go_upto_region 1 with fail
  go_cut [9] (fun _ wx => wx.heap[N]? = some (.map (es.push ⟨.string s, .pointer (some ⟨X, 0, none⟩), clock⟩) (clock + 1)) ∧ (w.alloc (.cells (turnCells s tn X).toArray 87)).grownBy wx (some N))
  case first =>
    go_region_with (go_at_call 47; refine (change_comes s tn X N es clock _ (by first | exact hb_alloc hN _) hf).mono ?_; rintro e w1 ⟨rfl, hN1, hg1⟩)
    all_goals (go_wp2_with fail; go_meet; exact ⟨hN1, grown_undrew hg1⟩)
  case rest =>
    obtain ⟨hN1, hg1⟩ := hcut
    obtain ⟨i0, hi, hz0, hz1, hz2⟩ := info_parts info87
    have hF1 := hb_grown (hb_alloc hF _) hg1 (by simpa using hne)
    have hB1 := hb_grown (heap_alloc_new w (.cells (turnCells s tn X).toArray 87)) hg1 (by have := hb_lt hN; simp; omega)
    have hT1 := (hT.alloc (.cells (turnCells s tn X).toArray 87)).kept hg1 (by
      have := own_ne hT hN (by simp)
      exact .inr (fun e => this e.symm))
    have c4 : wc.cell? ⟨F, 4, none⟩ = some tv := by rw [hb_cell hF1]; rfl
    have b0 : wc.cell? ⟨w.heap.size, 0, none⟩ = some (.int .i64 0) := by rw [hb_cell hB1]; rfl
    have b1 : wc.cell? ⟨w.heap.size, 1, none⟩ = some (.string s) := by rw [hb_cell hB1]; rfl
    have b2 : wc.cell? ⟨w.heap.size, 2, none⟩ = some (.string tn) := by rw [hb_cell hB1]; rfl
    have b3 : wc.cell? ⟨w.heap.size, 3, none⟩ = some (.pointer (some ⟨X, 0, none⟩)) := by rw [hb_cell hB1]; rfl
    have c4a : ∀ o, (wc.alloc o).cell? ⟨F, 4, none⟩ = some tv := fun o => hb_at (hb_alloc hF1 o) 4 rfl
    have hneT : some F ≠ tv.ownBlock := own_ne hT hF (by simp)
    go_wp2_with fail
    go_region_law (refine step_append_lies _ rfl (.tmp 14) (.tmp 16) 80 rfl 0 87 i0 _ 4 48 Try.underlying80 hi hz0 hz1 hz2 rfl (by decide) tv n ts (by simp [Act.eval, Act.put]) (hT1.alloc _) ⟨wc.heap.size, 0, none⟩ 1 1 (turnCells s tn X) (by simp [Act.eval, Act.put]) rfl (new_cells _ _ _ _ rfl) (by simp [turnCells, Value.oneCell']) (by decide) (by unfold maxLen; omega) (by omega) (Nat.zero_le _) _ rfl ?_; intro g cap' w2 hown2 hg2 hat2 hlt2; have hF2 := hb_grown (hb_alloc (w := wc.drew) hF1 _) hg2 hneT; have c42 : w2.cell? ⟨F, 4, none⟩ = some tv := hb_at hF2 4 rfl; have f42 := hb_free hF2 4)
    all_goals
      go_wp2_with fail
      go_end0
      exact ⟨rfl, ⟨_, hb_set_same hF2 4 _, hown2.kept (grown_set _ _ _) (.inr fun e => own_ne hown2 hF2 (by simp) e.symm)⟩,
        hb_set_other (hb_grown (hb_alloc (w := wc.drew) hN1 _) hg2 (own_ne hT hN (by simp))) _ (Ne.symm hne),
        by have e1 := hg1.size; have e2 := hg2.size; have e3 := (grown_set w2 ⟨F, 4, none⟩ (.slice (some ⟨g, 0, none⟩) (n + 1) cap')).size; simp at e1 e2; omega,
        ⟨hg2.os.trans hg1.os, hg2.tape.trans hg1.tape, hg2.output.trans hg1.output⟩,
        fun k x hkN hkF hkT h => hb_set_other (hb_grown (hb_alloc (w := wc.drew) (hb_grown (w' := wc) (hb_alloc h _) hg1 (fun e => hkN (Option.some.inj e))) _) hg2 hkT) _ hkF⟩
end Go.Proofs.Ytdaipgeecmngfaa
