/- Write of no byte to a file that there is not: it comes to be, without bytes. -/
import Derived.Test.YtdaipgeecmngfaaRc
namespace Go.Proofs.Ytdaipgeecmngfaa
open Go.RowKit Go.Maps

set_option maxRecDepth 100000 in
set_option maxHeartbeats 1000000 in
theorem put_quiet (X S c : Nat) (lv : Value) (w : World) (hX : w.heap[X]? = some (.cells #[.slice none 0 0, lv] 85 (0, 0))) :
    Calls Try.prog 59 #[.pointer (some ⟨X, 0, none⟩), .int .i64 0, .slice (some ⟨S, 0, none⟩) 0 c] w fun e w' => e = .returned (.tuple #[]) ∧ w' = w.drew := by
  have c0 : w.cell? ⟨X, 0, none⟩ = some (.slice none 0 0) := hb_at hX 0 rfl
  have f0 := hb_free hX 0
  obtain ⟨i0, hi, hz0, hz1, hz2⟩ := info_parts info5
  have HX := Lib.hid hX
  clear hX
  go_enter Try.func59, Try.ntmps59
  go_wp2_with (refine wpList_copy_nothing (o := ⟨some 14, _, _, _, _, _⟩) rfl (.tmp 12) (.tmp 13) 45 45 rfl 5 Try.underlying45 size5 _ (some ⟨S, 0, none⟩) 0 _ 0 c rfl rfl (Nat.min_zero _) ?_)
  all_goals (go_region_law (refine step_append_zero rfl (.tmp 19) (.tmp 22) 45 rfl 5 i0 Try.underlying45 hi none 0 0 (by omega) (by simp [Act.eval, Act.put] <;> omega) ⟨S, 0, none⟩ c (by simp [Act.eval, Act.put] <;> omega) ?_))
  all_goals
    go_wp2_with fail
    go_end0
    exact ⟨rfl, congrArg World.drew (setCell_id c0)⟩

structure Wrote0 (F N L : Nat) (cap used : Nat) (tv : Value) (n : Nat) (ts : List Value) (s : ByteArray) (es : Array MapEntry) (clock : Nat) (w w' : World) : Prop where
  all : ∃ X tv', w'.heap[F]? = some (.cells (fsCells cap used N L tv') 82 (0, 0)) ∧ w'.ownsRow 0 87 4 tv' (n + 1) (ts ++ turnCells s ⟨#[]⟩ X) ∧
    w'.heap[N]? = some (.map (es.push ⟨.string s, .pointer (some ⟨X, 0, none⟩), clock⟩) (clock + 1)) ∧ w'.heap[X]? = some (.cells #[.slice none 0 0, .slice none 0 0] 85 (0, 0)) ∧ w.heap.size ≤ X
  size : w.heap.size ≤ w'.heap.size
  rest : w'.os = w.os ∧ w'.tape = w.tape ∧ w'.output = w.output
  kept : ∀ j x, j ≠ N → j ≠ F → some j ≠ tv.ownBlock → w.heap[j]? = some x → w'.heap[j]? = some x

set_option maxRecDepth 100000 in
set_option maxHeartbeats 2000000 in
theorem write_new0 (F N L S c cap used : Nat) (tv : Value) (n : Nat) (ts : List Value) (s : ByteArray) (es : Array MapEntry) (clock : Nat) (w : World)
    (hF : w.heap[F]? = some (.cells (fsCells cap used N L tv) 82 (0, 0))) (hN : w.heap[N]? = some (.map es clock)) (hT : w.ownsRow 0 87 4 tv n ts) (hn : n ≤ 1000000)
    (hs1 : 1 ≤ s.size) (hs2 : s.size ≤ 30) (hs : ∀ (k : Nat) (hk : k < s.size), NameB s[k])
    (hc0 : 0 < cap) (hc1 : cap ≤ 4096) (hu : used ≤ cap) (hf : Finds es s none) :
    Calls Try.prog 25 #[.pointer (some ⟨F, 0, none⟩), .string s, .int .i64 0, .slice (some ⟨S, 0, none⟩) 0 c] w fun e w' => e = .returned (.int .i64 0) ∧ Wrote0 F N L cap used tv n ts s es clock w w' := by
  have c0 : w.cell? ⟨F, 0, none⟩ = some (.int .i64 cap) := hb_at hF 0 rfl
  have c1 : w.cell? ⟨F, 1, none⟩ = some (.int .i64 used) := hb_at hF 1 rfl
  have c2 : w.cell? ⟨F, 2, none⟩ = some (.map (some N)) := hb_at hF 2 rfl
  have st := fun w1 (h : w1.heap = w.heap) => step_ok F w1 (by rw [World.cell?, h]; exact hb_at hF 5 rfl) (by rw [World.cell?, h]; exact hb_at hF 6 rfl) (by rw [World.cell?, h]; exact hb_at hF 7 rfl) (by rw [World.frozen?, h]; exact hb_free hF 5) (by rw [World.frozen?, h]; exact hb_free hF 6) (by rw [World.frozen?, h]; exact hb_free hF 7)
  have Hst := Lib.hid st
  have Hs := Lib.hid hs
  have Hf := Lib.hid hf
  have Hf2 := Lib.hid (fun X => hf.push_same (.pointer (some ⟨X, 0, none⟩)) clock)
  have Hn := Lib.hid hN
  have HF := Lib.hid hF
  clear st hs hf hN hF
  have q1 : IntKind.i64.wrap ((used : Int) - 0) = used := IntWalk.i64_in _ (by omega)
  have q2 : IntKind.i64.wrap 0 = 0 := IntWalk.i64_in _ (by omega)
  have q3 : IntKind.i64.wrap (used : Int) = used := IntWalk.i64_in _ (by omega)
  have Q1 := Lib.hid q1
  have Q2 := Lib.hid q2
  have Q3 := Lib.hid q3
  clear q1 q2 q3
  go_enter Try.func25, Try.ntmps25
  go_wp2_with (first
    | (go_at_call 46; refine (made_yes F cap hc0 _ (by assumption)).mono ?_; rintro e w' ⟨rfl, rfl⟩)
    | (at_lookup; refine wpList_look_raw _ rfl _ _ 79 false rfl 9 78 Try.underlying79 N es clock rfl Hn.out _ rfl (ck9 _ _ _) none (Hf.out.run _) _ (zero78 _) (.pointer none) rfl ?_)
    | (go_at_call 57; refine (size_nil _).mono ?_; rintro e w' ⟨rfl, rfl⟩)
    | (go_at_call 48; refine (isName_ok s _ hs1 hs2 Hs.out).mono ?_; rintro e w' ⟨rfl, rfl⟩)
    | (go_at_call 44; refine (Hst.out _ rfl).mono ?_; rintro e w' ⟨rfl, n1, rfl⟩)
    | go_in)
  have q1 := Q1.out
  have q2 := Q2.out
  have q3 := Q3.out
  go_quiet ((go_at_call 53; exact quiet_sum (sectors_zero _)))
  clear q1 q2 q3
  have hd2 : (used : Int) ≤ (cap : Int) := by omega
  go_upto_region 15 with (first
    | (at_lookup; refine wpList_look_raw _ rfl _ _ 79 true rfl 9 78 Try.underlying79 N es clock rfl Hn.out _ rfl (ck9 _ _ _) none (Hf.out.run _) _ (zero78 _) (.tuple #[.pointer none, .bool false]) rfl ?_)
    | (go_at_call 58; refine (do_comes F N L w.heap.size cap used tv n ts s ⟨#[]⟩ es clock _ (hb_alloc (hb_drewN HF.out _) _) (hb_alloc (hb_drewN Hn.out _) _) ((own_drewN hT _).alloc _) hn Hf.out.run).mono ?_; rintro e w1 ⟨rfl, hD⟩)
    | go_in)
  have Hw1 := Lib.hid hD
  clear hD
  obtain ⟨tv1, hF1, hT1⟩ := Hw1.out.own
  have hnN : N < w.heap.size := hb_lt Hn.out
  have hnF : F < w.heap.size := hb_lt HF.out
  have hX1 := Hw1.out.kept w.heap.size _ (by omega) (by omega) (by
    intro e
    have := (hT.lt _ e.symm).2
    omega) (heap_alloc_new (w.drewN _) _)
  have hN1 := Hw1.out.map
  have d2 : w1.cell? ⟨F, 2, none⟩ = some (.map (some N)) := hb_at hF1 2 rfl
  have HF1 := Lib.hid hF1
  have HT1 := Lib.hid hT1
  have HX1 := Lib.hid hX1
  have HN1 := Lib.hid hN1
  clear hF1 hT1 hX1 hN1 hnN hnF
  go_upto_region 16 with (first
    | (at_lookup; refine wpList_look_raw _ rfl _ _ 79 false rfl 9 78 Try.underlying79 N _ _ rfl HN1.out _ rfl (ck9 _ _ _) _ ((Hf2.out _).run _) _ (zero78 _) (.pointer (some ⟨w.heap.size, 0, none⟩)) rfl ?_)
    | (go_at_call 59; refine (put_quiet w.heap.size S c _ w1 HX1.out).mono ?_; rintro e w2 ⟨rfl, rfl⟩)
    | go_in)
  have e1 : w1.cell? ⟨F, 1, none⟩ = some (.int .i64 used) := hb_at HF1.out 1 rfl
  have e2 := hb_free HF1.out 1
  go_wp2
  go_ret
  have h7 := (grown_set w1 ⟨F, 1, none⟩ (.int .i64 used)).size
  have h6 := Hw1.out.size
  simp at h6
  have e3 : w1.setCell ⟨F, 1, none⟩ (.int .i64 used) = w1 := setCell_id e1
  rw [e3]
  exact ⟨rfl, ⟨w.heap.size, tv1, HF1.out, HT1.out, HN1.out, HX1.out, Nat.le_refl _⟩, by show w.heap.size ≤ w1.heap.size; omega, Hw1.out.rest, fun j x hjN hjF hjT h => Hw1.out.kept j x hjN hjF hjT (hb_alloc (hb_drewN h _) _)⟩
end Go.Proofs.Ytdaipgeecmngfaa
