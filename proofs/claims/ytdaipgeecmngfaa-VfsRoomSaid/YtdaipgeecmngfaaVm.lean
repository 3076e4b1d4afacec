/- A crash of a store with one file, which was never synced: without turns nothing is left. -/
import Derived.Test.YtdaipgeecmngfaaVl
import Derived.Deep.DeepCutAuto
namespace Go.Proofs.Ytdaipgeecmngfaa
open Go.RowKit Go.Maps

structure One (F N L T c X lc : Nat) (cap used : Nat) (s tn : ByteArray) (cur : Array Value) (w : World) : Prop where
  store : w.heap[F]? = some (.cells (fsCells cap used N L (.slice (some ⟨T, 0, none⟩) 1 c)) 82 (0, 0))
  lasting : w.heap[L]? = some (.map #[] lc)
  turns : w.heap[T]? = some (.cells cur 87 (0, 0))
  t0 : cur[0]? = some (.int .i64 0)
  t1 : cur[1]? = some (.string s)
  t2 : cur[2]? = some (.string tn)
  t3 : cur[3]? = some (.pointer (some ⟨X, 0, none⟩))

theorem One.below {F N L T c X lc cap used : Nat} {s tn : ByteArray} {cur : Array Value} {w w' : World} (h : One F N L T c X lc cap used s tn cur w) (hb : Below w.heap.size w w') : One F N L T c X lc cap used s tn cur w' :=
  ⟨hb_below h.store hb (hb_lt h.store), hb_below h.lasting hb (hb_lt h.lasting), hb_below h.turns hb (hb_lt h.turns), h.t0, h.t1, h.t2, h.t3⟩

structure Left0 (F2 : Nat) (cap : Nat) (w w' : World) : Prop where
  all : ∃ N2 L2, w'.heap[F2]? = some (.cells (fsCells cap 0 N2 L2 (.slice none 0 0)) 82 (0, 0)) ∧ w'.heap[N2]? = some (.map #[] 0)
  below : Below w.heap.size w w'

set_option maxRecDepth 100000 in
set_option maxHeartbeats 2000000 in
theorem crash_none (F N L T c X lc cap used : Nat) (s tn : ByteArray) (cur : Array Value) (w : World) (hO : One F N L T c X lc cap used s tn cur w) (hc : 0 < cap) :
    Calls Try.prog 20 #[.pointer (some ⟨F, 0, none⟩), .slice none 0 0, .slice none 0 0] w fun e w' => ∃ F2, e = .returned (.pointer (some ⟨F2, 0, none⟩)) ∧ Left0 F2 cap w w' := by
  have c0 : w.cell? ⟨F, 0, none⟩ = some (.int .i64 cap) := hb_at hO.store 0 rfl
  have HO := Lib.hid hO
  clear hO
  go_enter Try.func20, Try.ntmps20
  go_upto_region 3 with (first
    | (go_at_call 46; refine (made_yes F cap hc _ (by assumption)).mono ?_; rintro e w' ⟨rfl, rfl⟩)
    | go_in)
  go_upto_region 4 with (first
    | (go_at_call 49; refine (firsts_nil _).mono ?_; rintro e w1 ⟨rfl, h1⟩)
    | go_in)
  have HO1 := Lib.hid (HO.out.below h1.below)
  have HM1 := Lib.hid h1.map
  have HB1 := Lib.hid h1.below
  have c1 : w1.cell? ⟨F, 0, none⟩ = some (.int .i64 cap) := hb_at HO1.out.store 0 rfl
  clear h1
  go_upto_region 5 with (first
    | (go_at_call 50; refine (kept_empty _ 0 _ HM1.out).mono ?_; rintro e w2 ⟨rfl, h2⟩)
    | go_in)
  have HO2 := Lib.hid (HO1.out.below h2.below)
  have HB2 := Lib.hid h2.below
  have c2 : w2.cell? ⟨F, 0, none⟩ = some (.int .i64 cap) := hb_at HO2.out.store 0 rfl
  clear h2
  go_upto_region 6 with (first
    | (go_at_call 32; refine (empty_ok cap _).mono ?_; rintro e w3 ⟨rfl, h3⟩)
    | go_in)
  have HO3 := Lib.hid (HO2.out.below h3.below)
  have H3 := Lib.hid h3
  clear h3
  go_wp2_with (first
    | (go_at_call 51; refine (dir_none F N L T c X lc cap used s tn cur _ HO3.out.store HO3.out.lasting HO3.out.turns HO3.out.t0 HO3.out.t1 HO3.out.t2 HO3.out.t3).mono ?_; rintro e w4 ⟨rfl, h4⟩; have H4 := Lib.hid h4; clear h4)
    | (at_range; refine wpList_range_raw _ rfl _ 79 rfl 9 78 Try.underlying79 _ #[] lc rfl H4.out.map ?_; go_frame)
    | go_in)
  have hs3 := H3.out.size
  have hF4 := hb_below H3.out.store H4.out.below (by omega)
  have hN4 := hb_below H3.out.names H4.out.below (by omega)
  have e2 : ∀ o, (w4.alloc o).cell? ⟨w2.heap.size + 2, 2, none⟩ = some (.map (some w2.heap.size)) := fun o => hb_at (hb_alloc hF4 o) 2 rfl
  have e3 : ∀ o p, ((w4.alloc o).alloc p).cell? ⟨w2.heap.size + 2, 3, none⟩ = some (.map (some (w2.heap.size + 1))) := fun o p => hb_at (hb_alloc (hb_alloc hF4 o) p) 3 rfl
  have f3 : ∀ o p, ((w4.alloc o).alloc p).frozen? ⟨w2.heap.size + 2, 3, none⟩ = false := fun o p => hb_free (hb_alloc (hb_alloc hF4 o) p) 3
  have HF4 := Lib.hid hF4
  have HN4 := Lib.hid hN4
  have Hs3 := Lib.hid hs3
  clear hF4 hN4 hs3
  refine wp_loop_rounds 1 ?_
  rw [rounds_succ]
  go_wp2_with (first
    | (at_next; refine wpList_next_done _ rfl _ rfl _ _ lc lc lc #[] #[] rfl (heap_alloc_new _ _) (hb_alloc H4.out.map _) (by simp) (Nat.le_refl _) (by simp [leftOf]) ?_)
    | (go_at_call 54; refine (mclone_ok w2.heap.size _ 0 _ (hb_alloc HN4.out _)).mono ?_; rintro e w' ⟨rfl, rfl⟩)
    | go_in)
  go_ret
  have hsz1 := HB1.out.size
  have hsz2 := HB2.out.size
  have hsz3 := Hs3.out
  have hsz4 := H4.out.below.size
  refine ⟨_, rfl, ⟨w2.heap.size, w4.heap.size + 1, hb_set_same (hb_alloc (hb_alloc HF4.out _) _) 3 _, hb_set_other (hb_alloc (hb_alloc HN4.out _) _) _ (by simp)⟩, ?_⟩
  exact (((HB1.out.trans (HB2.out.mono hsz1)).trans (H3.out.below.mono (by omega))).trans (H4.out.below.mono (by omega))).trans (((below2 w4 _ _).mono (by omega)).setCell (by simp; omega) _)
end Go.Proofs.Ytdaipgeecmngfaa
