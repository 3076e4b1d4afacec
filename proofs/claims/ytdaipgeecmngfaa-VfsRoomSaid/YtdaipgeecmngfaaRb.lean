/- Write at a file's end, of a file that there is: its bytes grow, where there is room; where there is none, ErrSpace, and nothing is turned. -/
import Derived.Test.YtdaipgeecmngfaaRa
namespace Go.Proofs.Ytdaipgeecmngfaa
open Go.RowKit Go.Maps

theorem size_ok (X m cb : Nat) (ao : Option Addr) (lv : Value) (w : World) (hX : w.heap[X]? = some (.cells #[.slice ao m cb, lv] 85 (0, 0))) : Calls Try.prog 57 #[.pointer (some ⟨X, 0, none⟩)] w fun e w' => e = .returned (.int .i64 m) ∧ w = w' := by
  have c0 : w.cell? ⟨X, 0, none⟩ = some (.slice ao m cb) := hb_at hX 0 rfl
  clear hX
  go_enter Try.func57, Try.ntmps57
  go_wp2
  go_ret
  exact ⟨rfl, rfl⟩

theorem sectors_max (m k : Nat) (h : m + k ≤ 4194304) (w : World) : Calls Try.prog 53 #[.int .i64 (if (m : Int) < (m : Int) + (k : Int) then (m : Int) + (k : Int) else (m : Int))] w fun e w' => e = .returned (.int .i64 (((m + k + 511) / 512 : Nat) : Int)) ∧ w = w' := by
  have e : (if (m : Int) < (m : Int) + (k : Int) then (m : Int) + (k : Int) else (m : Int)) = ((m + k : Nat) : Int) := by split <;> omega
  rw [e]
  exact sectors_any (m + k) h w

structure Grew (F N L cap used : Nat) (tv : Value) (X : Nat) (bv lv : Value) (m k : Nat) (xs news : List Value) (w w' : World) : Prop where
  store : w'.heap[F]? = some (.cells (fsCells cap used N L tv) 82 (0, 0))
  own : ∃ bv', w'.heap[X]? = some (.cells #[bv', lv] 85 (0, 0)) ∧ w'.ownsRow 0 5 1 bv' (m + k) (xs ++ news) ∧ (bv'.ownBlock = bv.ownBlock ∨ ∃ g, bv'.ownBlock = some g ∧ w.heap.size ≤ g)
  size : w.heap.size ≤ w'.heap.size
  rest : w'.os = w.os ∧ w'.tape = w.tape ∧ w'.output = w.output
  kept : ∀ j x, j ≠ X → j ≠ F → some j ≠ bv.ownBlock → w.heap[j]? = some x → w'.heap[j]? = some x

set_option maxRecDepth 100000 in
set_option maxHeartbeats 2000000 in
theorem write_old (F N L S c cap used X m k idx : Nat) (ao : Option Addr) (cb : Nat) (lv tv : Value) (s : ByteArray) (es : Array MapEntry) (clock : Nat) (xs news : List Value) (w : World)
    (hF : w.heap[F]? = some (.cells (fsCells cap used N L tv) 82 (0, 0))) (hN : w.heap[N]? = some (.map es clock)) (hf : Finds es s (some (idx, .pointer (some ⟨X, 0, none⟩))))
    (hX : w.heap[X]? = some (.cells #[.slice ao m cb, lv] 85 (0, 0))) (hB : w.ownsRow 0 5 1 (.slice ao m cb) m xs)
    (hm : m ≤ 500000) (hk3 : k ≤ 3000) (hs1 : 1 ≤ s.size) (hs2 : s.size ≤ 30) (hs : ∀ (k : Nat) (hk : k < s.size), NameB s[k])
    (hc0 : 0 < cap) (hc1 : cap ≤ 4096) (hum : (m + 511) / 512 ≤ used) (hu : used - (m + 511) / 512 + (m + k + 511) / 512 ≤ cap) (hu2 : used ≤ 4096)
    (hput : ∀ n, Calls Try.prog 59 #[.pointer (some ⟨X, 0, none⟩), .int .i64 m, .slice (some ⟨S, 0, none⟩) k c] (w.drewN n) fun e w' => e = .returned (.tuple #[]) ∧ PutEnd X (.slice ao m cb) lv m k xs news (w.drewN n) w') :
    Calls Try.prog 25 #[.pointer (some ⟨F, 0, none⟩), .string s, .int .i64 m, .slice (some ⟨S, 0, none⟩) k c] w fun e w' => e = .returned (.int .i64 0) ∧ Grew F N L cap (used - (m + 511) / 512 + (m + k + 511) / 512) tv X (.slice ao m cb) lv m k xs news w w' := by
  have c0 : w.cell? ⟨F, 0, none⟩ = some (.int .i64 cap) := hb_at hF 0 rfl
  have c1 : w.cell? ⟨F, 1, none⟩ = some (.int .i64 used) := hb_at hF 1 rfl
  have c2 : w.cell? ⟨F, 2, none⟩ = some (.map (some N)) := hb_at hF 2 rfl
  have st := fun w1 (h : w1.heap = w.heap) => step_ok F w1 (by rw [World.cell?, h]; exact hb_at hF 5 rfl) (by rw [World.cell?, h]; exact hb_at hF 6 rfl) (by rw [World.cell?, h]; exact hb_at hF 7 rfl) (by rw [World.frozen?, h]; exact hb_free hF 5) (by rw [World.frozen?, h]; exact hb_free hF 6) (by rw [World.frozen?, h]; exact hb_free hF 7)
  have Hst := Lib.hid st
  have Hs := Lib.hid hs
  have Hf := Lib.hid hf
  have Hn := Lib.hid hN
  have HF := Lib.hid hF
  have HX := Lib.hid hX
  have HB := Lib.hid hB
  have Hput := Lib.hid hput
  clear st hs hf hN hF hX hB hput
  obtain ⟨u1, hu1⟩ : ∃ u1, u1 = used - (m + 511) / 512 := ⟨_, rfl⟩
  have q1 : IntKind.i64.wrap ((used : Int) - (((m + 511) / 512 : Nat) : Int)) = u1 := by rw [IntWalk.i64_in _ (by omega)]; omega
  have q2 : IntKind.i64.wrap ((m : Int) + (k : Int)) = ((m + k : Nat) : Int) := by rw [IntWalk.i64_in _ (by omega)]; omega
  have q3 : IntKind.i64.wrap ((u1 : Int) + (((m + k + 511) / 512 : Nat) : Int)) = ((u1 + (m + k + 511) / 512 : Nat) : Int) := by rw [IntWalk.i64_in _ (by omega)]; omega
  rw [← hu1] at hu ⊢
  have Q1 := Lib.hid q1
  have Q2 := Lib.hid q2
  have Q3 := Lib.hid q3
  have Q4 := Lib.hid hu1
  clear q1 q2 q3 hu1
  go_enter Try.func25, Try.ntmps25
  go_wp2_with (first
    | (go_at_call 46; refine (made_yes F cap hc0 _ (by assumption)).mono ?_; rintro e w' ⟨rfl, rfl⟩)
    | (at_lookup; refine wpList_look_raw _ rfl _ _ 79 false rfl 9 78 Try.underlying79 N es clock rfl Hn.out _ rfl (ck9 _ _ _) _ (Hf.out.run _) _ (zero78 _) (.pointer (some ⟨X, 0, none⟩)) rfl ?_)
    | (go_at_call 57; refine (size_ok X m cb ao lv _ HX.out).mono ?_; rintro e w' ⟨rfl, rfl⟩)
    | (go_at_call 48; refine (isName_ok s _ hs1 hs2 Hs.out).mono ?_; rintro e w' ⟨rfl, rfl⟩)
    | (go_at_call 44; refine (Hst.out _ rfl).mono ?_; rintro e w' ⟨rfl, n1, rfl⟩)
    | go_in)
  have q1 := Q1.out
  have q2 := Q2.out
  have q3 := Q3.out
  go_quiet ((first | (go_at_call 53; exact quiet_sum (sectors_any m (by omega) _)) | (go_at_call 53; exact quiet_sum (sectors_max m k (by omega) _))))
  clear q1 q2 q3
  have hd2 : (used : Int) - ((m : Int) + 511) / 512 + ((m : Int) + (k : Int) + 511) / 512 ≤ (cap : Int) := by have := Q4.out; omega
  go_upto_region 16 with (first
    | (at_lookup; refine wpList_look_raw (o := ⟨some 75, _, _, _, _, _⟩) _ rfl _ _ 79 true rfl 9 78 Try.underlying79 N es clock rfl Hn.out _ rfl (ck9 _ _ _) _ (Hf.out.run _) _ (zero78 _) (.tuple #[.pointer (some ⟨X, 0, none⟩), .bool true]) rfl ?_)
    | (at_lookup; refine wpList_look_raw (o := ⟨some 91, _, _, _, _, _⟩) _ rfl _ _ 79 false rfl 9 78 Try.underlying79 N es clock rfl Hn.out _ rfl (ck9 _ _ _) _ (Hf.out.run _) _ (zero78 _) (.pointer (some ⟨X, 0, none⟩)) rfl ?_)
    | (go_at_call 59; refine (Hput.out _).mono ?_; rintro e w2 ⟨rfl, hP⟩)
    | go_in)
  have HP := Lib.hid hP
  have hneXF : F ≠ X := fun e => by have h1 := HF.out; have h2 := HX.out; rw [e, h2] at h1; simp [fsCells] at h1
  have hneB : some F ≠ (Value.slice ao m cb).ownBlock := own_ne HB.out HF.out (by simp)
  have hF2 := HP.out.kept F _ hneXF hneB (hb_drewN HF.out _)
  have e1 : w2.cell? ⟨F, 1, none⟩ = some (.int .i64 used) := hb_at hF2 1 rfl
  have e2 := hb_free hF2 1
  have HF2 := Lib.hid hF2
  have hnXF := Lib.hid hneXF
  clear hF2 hP hneXF hneB
  go_wp2
  all_goals
    go_ret
    obtain ⟨bv, hX2, hB2, hbv⟩ := HP.out.own
    have e3 : ((used : Int) - ((m : Int) + 511) / 512 + ((m : Int) + (k : Int) + 511) / 512) = ((u1 + (m + k + 511) / 512 : Nat) : Int) := by have := Q4.out; omega
    have h7 := (grown_set w2 ⟨F, 1, none⟩ (.int .i64 ((used : Int) - ((m : Int) + 511) / 512 + ((m : Int) + (k : Int) + 511) / 512))).size
    refine ⟨rfl, ?_, ⟨bv, hb_set_other hX2 _ (Ne.symm hnXF.out), hB2.kept (grown_set _ _ _) (.inr fun e => own_ne hB2 HF2.out (by simp) e.symm), hbv⟩, Nat.le_trans HP.out.size h7, HP.out.rest,
      fun j x hjX hjF hjb h => hb_set_other (HP.out.kept j x hjX hjb (hb_drewN h _)) _ hjF⟩
    rw [← e3]
    exact hb_set_same HF2.out 1 _
end Go.Proofs.Ytdaipgeecmngfaa
