/- The chapter's example holds: what the law's own look at the store asks is true in whatever memory, on every order, at every capacity of new arrays. -/
import Derived.Test.YtdaipgeecmngfaaVr
import Derived.Lib.SlBytesConst
import Derived.Test.YtdaipgeecmngfaaVn
namespace Go.Proofs.Ytdaipgeecmngfaa
open Go.RowKit Go.Maps

theorem row_form {w : World} {b : Nat} {e : TypeId} {size n : Nat} {v : Value} {xs : List Value} (h : w.ownsRow b e size v n xs) (hn : 0 < n) :
    ∃ T c cur, v = .slice (some ⟨T, 0, none⟩) n c ∧ w.heap[T]? = some (.cells cur e (0, 0)) ∧ n ≤ c ∧ ∀ j, j < n * size → cur[j]? = xs[j]? := by
  obtain ⟨hl, h⟩ := h
  rcases h with ⟨_, h⟩ | ⟨g, cap, cur, rfl, _, hg, hnc, _, _, ht⟩
  · omega
  · refine ⟨g, cap, cur, rfl, hg, hnc, fun j hj => ?_⟩
    rw [← ht, List.getElem?_take, if_pos hj]
    simp

structure Ready (F : Nat) (w w' : World) : Prop where
  all : ∃ N L T c X B cb cur curb, One F N L T c X 0 4 1 ⟨#[97]⟩ ⟨#[]⟩ cur w' ∧ w'.heap[X]? = some (.cells #[.slice (some ⟨B, 0, none⟩) 1 cb, .slice none 0 0] 85 (0, 0)) ∧ w'.heap[B]? = some (.cells curb 5 (0, 0)) ∧ curb[0]? = some (.int .u8 120) ∧ 1 ≤ cb
  below : Below w.heap.size w w'

theorem ready_of {w w1 w2 : World} (h1 : New4 4 w w1) (h2 : Wrote (w.heap.size + 2) w.heap.size (w.heap.size + 1) 4 0 (.slice none 0 0) 0 [] ⟨#[97]⟩ #[] 0 [.int .u8 120] (w1.alloc (.cells #[.int .u8 120] 5 (1, 2))) w2) : Ready (w.heap.size + 2) w w2 := by
  obtain ⟨X, bv, tv, g, hF, hT, _, hX, hB, _, _, _⟩ := h2.all
  obtain ⟨T, c, cur, rfl, hT2, _, ht⟩ := row_form hT (by omega)
  obtain ⟨B, cb, curb, rfl, hB2, hcb, hb⟩ := row_form hB (by decide)
  have hs := h1.size
  have hL := h2.kept (w.heap.size + 1) _ (by omega) (by omega) (by simp [Value.ownBlock]) (hb_alloc h1.lasting _)
  refine ⟨⟨w.heap.size, w.heap.size + 1, T, c, X, B, cb, cur, curb, ⟨hF, hL, hT2, ?_, ?_, ?_, ?_⟩, hX, hB2, ?_, hcb⟩, ?_⟩
  · rw [ht 0 (by decide)]; rfl
  · rw [ht 1 (by decide)]; rfl
  · rw [ht 2 (by decide)]; rfl
  · rw [ht 3 (by decide)]; rfl
  · rw [hb 0 (by decide)]; rfl
  · have r1 := h1.below
    have r2 := h2.rest
    have r3 := h2.size
    rw [size1] at r3
    refine r1.trans ⟨r2.1, r2.2.1, r2.2.2, by omega, fun k hk => ?_⟩
    have hk1 : k < w1.heap.size := by omega
    obtain ⟨x, hx⟩ : ∃ x, w1.heap[k]? = some x := ⟨w1.heap[k], Array.getElem?_eq_getElem hk1⟩
    rw [hx]
    exact h2.kept k x (by omega) (by omega) (by simp [Value.ownBlock]) (hb_alloc hx _)

theorem write_a (w w1 : World) (h1 : New4 4 w w1) : Calls Try.prog 25 #[.pointer (some ⟨w.heap.size + 2, 0, none⟩), .string ⟨#[97]⟩, .int .i64 0, .slice (some ⟨w1.heap.size, 0, none⟩) 1 1] (w1.alloc (.cells #[.int .u8 120] 5 (1, 2))) fun e w' =>
    e = .returned (.int .i64 0) ∧ Ready (w.heap.size + 2) w w' := by
  have h := write_new (w.heap.size + 2) w.heap.size (w.heap.size + 1) w1.heap.size 1 4 0 (.slice none 0 0) 0 [] ⟨#[97]⟩ #[] 0 [.int .u8 120] (1, 2) (w1.alloc (.cells #[.int .u8 120] 5 (1, 2))) (hb_alloc h1.store _) (hb_alloc h1.names _) (World.ownsRow_nil _ _ _ _) (by decide) (heap_alloc_new w1 _)
    (by decide) (by decide) (by decide) (by simp [Value.oneCell']) (by decide) (by decide) nameA (by decide) (by decide) (by decide) (find9_none _) (fun X w => find9_a _ _ w)
  exact h.mono fun e w' h2 => ⟨h2.1, ready_of h1 h2.2⟩

def Made (F X B cb : Nat) (w : World) : Prop := ∃ N L T c cur curb, One F N L T c X 0 4 1 ⟨#[97]⟩ ⟨#[]⟩ cur w ∧ w.heap[X]? = some (.cells #[.slice (some ⟨B, 0, none⟩) 1 cb, .slice none 0 0] 85 (0, 0)) ∧ w.heap[B]? = some (.cells curb 5 (0, 0)) ∧ curb[0]? = some (.int .u8 120) ∧ 1 ≤ cb
theorem Made.below {F X B cb : Nat} {w w' : World} (h : Made F X B cb w) (hb : Below w.heap.size w w') : Made F X B cb w' := by
  obtain ⟨N, L, T, c, cur, curb, hO, hX, hB, hu, hcb⟩ := h
  exact ⟨N, L, T, c, cur, curb, hO.below hb, hb_below hX hb (hb_lt hX), hb_below hB hb (hb_lt hB), hu, hcb⟩

def CrashA (w w' : World) (e : Ending) : Prop := ∃ F2, e = .returned (.pointer (some ⟨F2, 0, none⟩)) ∧ Left0 F2 4 w w'
def CrashB (w w' : World) (e : Ending) : Prop := ∃ F2, e = .returned (.pointer (some ⟨F2, 0, none⟩)) ∧ Left1 F2 4 0 ⟨#[97]⟩ (.slice none 0 0) (.slice none 0 0) w w'
def CrashC (w w' : World) (e : Ending) : Prop := ∃ F2, e = .returned (.pointer (some ⟨F2, 0, none⟩)) ∧ Left2 F2 4 120 w w'

theorem crashA {F X B cb : Nat} (w : World) (h : Made F X B cb w) : Calls Try.prog 20 #[.pointer (some ⟨F, 0, none⟩), .slice none 0 0, .slice none 0 0] w fun e w' => CrashA w w' e := by
  obtain ⟨N, L, T, c, cur, curb, hO, _⟩ := h
  exact (crash_none F N L T c X 0 4 1 _ _ cur w hO (by decide)).mono fun e w' h => h

theorem crashB {F X B cb : Nat} (w : World) (h : Made F X B cb w) : Calls Try.prog 20 #[.pointer (some ⟨F, 0, none⟩), .slice (some ⟨w.heap.size, 0, none⟩) 1 1, .slice none 0 0] (w.alloc (.cells #[.int .i64 0] 3)) fun e w' => CrashB w w' e := by
  have h1 := h.below (below1 w (.cells #[.int .i64 0] 3))
  obtain ⟨N, L, T, c, cur, curb, hO, hX, _⟩ := h1
  exact (crash_one F N L T c X 0 4 1 w.heap.size 1 _ _ _ cur _ hO (by decide) hX (heap_alloc_new w _)).mono fun e w' ⟨F2, he, hl⟩ => ⟨F2, he, hl.all, (below1 w _).trans (hl.below.mono (by simp))⟩

theorem crashC {F X B cb : Nat} (w : World) (h : Made F X B cb w) :
    Calls Try.prog 20 #[.pointer (some ⟨F, 0, none⟩), .slice (some ⟨w.heap.size, 0, none⟩) 1 1, .slice (some ⟨w.heap.size + 1 + 1, 0, none⟩) 1 1]
      (((w.alloc (.cells #[.int .i64 0] 3)).alloc (.cells #[.int .i64 0] 3)).alloc (.cells #[.string ⟨#[97]⟩, .slice (some ⟨w.heap.size + 1, 0, none⟩) 1 1, .bool true] 58)) fun e w' => CrashC w w' e := by
  have h1 := h.below (below3 w (.cells #[.int .i64 0] 3) (.cells #[.int .i64 0] 3) (.cells #[.string ⟨#[97]⟩, .slice (some ⟨w.heap.size + 1, 0, none⟩) 1 1, .bool true] 58))
  obtain ⟨N, L, T, c, cur, curb, hO, hX, hB, hu, hcb⟩ := h1
  exact (crash_two F N L T c X 0 4 1 w.heap.size 1 (w.heap.size + 1 + 1) 1 (w.heap.size + 1) 1 B cb 120 curb _ cur _ hO (by decide) hX hB hu hcb (new3 w _ _ _) (hb_alloc (new2 w _ _) _) (hb_alloc (hb_alloc (heap_alloc_new w _) _) _)).mono
    fun e w' ⟨F2, he, hl⟩ => ⟨F2, he, hl.all, (below3 w _ _ _).trans (hl.below.mono (by simp; omega))⟩

theorem row_cell0 {w : World} {g c : Nat} {x : Value} (h : w.ownsRow 0 5 1 (.slice (some ⟨g, 0, none⟩) 1 c) 1 [x]) : w.cell? ⟨g, 0, none⟩ = some x := by
  obtain ⟨T, c', cur, hv, hT, _, ht⟩ := row_form h (by decide)
  have e : g = T := by injection hv with h1; injection h1 with h1; injection h1
  subst e
  rw [hb_cell hT, ht 0 (by decide)]
  rfl

theorem conv_one (w : World) (g c : Nat) (h : w.cell? ⟨g, 0, none⟩ = some (.int .u8 120)) : (convert 45 9 (.slice (some ⟨g, 0, none⟩) 1 c)).run Try.prog w = .ok (.string ⟨#[120]⟩) w := by
  rw [run_convert_bytes_string w 45 9 5 _ _ _ Try.underlying45 Try.underlying5 Try.underlying9]
  have hl : (loadCells ⟨g, 0, none⟩ 1).run Try.prog w = .ok ([(120 : Int)].map (Value.int .u8)).toArray w := by
    refine run_loadCells_list (P := Try.prog) (w := w) ⟨g, 0, none⟩ [.int .u8 120] fun j v hj => ?_
    cases j with
    | zero =>
      have e : Value.int .u8 120 = v := by simpa using hj
      rw [← e]
      simpa [Addr.add] using h
    | succ n => simp at hj
  rw [run_bytesToString w ⟨g, 0, none⟩ 1 c [120] hl]
  rfl

theorem used_made {F X B cb : Nat} (w : World) (h : Made F X B cb w) : Calls Try.prog 24 #[.pointer (some ⟨F, 0, none⟩)] w fun e w' => e = .returned (.int .i64 1) ∧ w = w' := by
  obtain ⟨N, L, T, c, cur, curb, hO, _⟩ := h
  exact used_ok F 4 1 N L _ w hO.store (by decide)
end Go.Proofs.Ytdaipgeecmngfaa
