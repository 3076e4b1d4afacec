/- The texts Rb, Rc, Rd, Re, Rf, Rg, Rh, one behind the other. -/
import Derived.Test.YtmfphnhdahaooaaM06
set_option linter.unusedSimpArgs false
set_option linter.unusedVariables false
/- Write at a file's end, of a file that there is: its bytes grow, where there is room; where there is none, ErrSpace, and nothing is turned. -/
namespace Go.Proofs.Ytmfphnhdahaooaa
open Go.RowKit Go.Maps

theorem size_ok (X m cb : Nat) (ao : Option Addr) (lv : Value) (w : World) (hX : w.heap[X]? = some (.cells #[.slice ao m cb, lv] 85 (0, 0))) : Calls Try.prog 57 #[.pointer (some ⟨X, 0, none⟩)] w fun e w' => e = .returned (.int .i64 m) ∧ w = w' := by
  have c0 : w.cell? ⟨X, 0, none⟩ = some (.slice ao m cb) := hb_at hX 0 rfl
  clear hX
  go_enter Try.func57, Try.ntmps57
  go_wp2
  go_ret
  exact ⟨rfl, rfl⟩

theorem sectors_max (m k : Nat) (h : m + k ≤ 4194304) (w : World) : Calls Try.prog 53 #[.int .i64 (if (m : Int) < (m : Int) + (k : Int) then (m : Int) + (k : Int) else (m : Int))] w fun e w' => e = .returned (.int .i64 (((m + k + 511) / 512 : Nat) : Int)) ∧ w = w' := by
  have e : (if (m : Int) < (m : Int) + (k : Int) then (m : Int) + (k : Int) else (m : Int)) = ((m + k : Nat) : Int) := by split <;> omega
  rw [e]
  exact sectors_any (m + k) h w

structure Grew (F N L cap used : Nat) (tv : Value) (X : Nat) (bv lv : Value) (m k : Nat) (xs news : List Value) (w w' : World) : Prop where
  store : w'.heap[F]? = some (.cells (fsCells cap used N L tv) 82 (0, 0))
  own : ∃ bv', w'.heap[X]? = some (.cells #[bv', lv] 85 (0, 0)) ∧ w'.ownsRow 0 5 1 bv' (m + k) (xs ++ news) ∧ (bv'.ownBlock = bv.ownBlock ∨ ∃ g, bv'.ownBlock = some g ∧ w.heap.size ≤ g)
  size : w.heap.size ≤ w'.heap.size
  rest : w'.os = w.os ∧ w'.tape = w.tape ∧ w'.output = w.output
  kept : ∀ j x, j ≠ X → j ≠ F → some j ≠ bv.ownBlock → w.heap[j]? = some x → w'.heap[j]? = some x

set_option maxRecDepth 100000 in
set_option maxHeartbeats 2000000 in
theorem write_old (F N L S c cap used X m k idx : Nat) (ao : Option Addr) (cb : Nat) (lv tv : Value) (s : ByteArray) (es : Array MapEntry) (clock : Nat) (xs news : List Value) (w : World)
    (hF : w.heap[F]? = some (.cells (fsCells cap used N L tv) 82 (0, 0))) (hN : w.heap[N]? = some (.map es clock)) (hf : Finds es s (some (idx, .pointer (some ⟨X, 0, none⟩))))
    (hX : w.heap[X]? = some (.cells #[.slice ao m cb, lv] 85 (0, 0))) (hB : w.ownsRow 0 5 1 (.slice ao m cb) m xs)
    (hm : m ≤ 500000) (hk3 : k ≤ 3000) (hs1 : 1 ≤ s.size) (hs2 : s.size ≤ 30) (hs : ∀ (k : Nat) (hk : k < s.size), NameB s[k])
    (hc0 : 0 < cap) (hc1 : cap ≤ 4096) (hum : (m + 511) / 512 ≤ used) (hu : used - (m + 511) / 512 + (m + k + 511) / 512 ≤ cap) (hu2 : used ≤ 4096)
    (hput : ∀ n, Calls Try.prog 59 #[.pointer (some ⟨X, 0, none⟩), .int .i64 m, .slice (some ⟨S, 0, none⟩) k c] (w.drewN n) fun e w' => e = .returned (.tuple #[]) ∧ PutEnd X (.slice ao m cb) lv m k xs news (w.drewN n) w') :
    Calls Try.prog 25 #[.pointer (some ⟨F, 0, none⟩), .string s, .int .i64 m, .slice (some ⟨S, 0, none⟩) k c] w fun e w' => e = .returned (.int .i64 0) ∧ Grew F N L cap (used - (m + 511) / 512 + (m + k + 511) / 512) tv X (.slice ao m cb) lv m k xs news w w' := by
  have c0 : w.cell? ⟨F, 0, none⟩ = some (.int .i64 cap) := hb_at hF 0 rfl
  have c1 : w.cell? ⟨F, 1, none⟩ = some (.int .i64 used) := hb_at hF 1 rfl
  have c2 : w.cell? ⟨F, 2, none⟩ = some (.map (some N)) := hb_at hF 2 rfl
  have st := fun w1 (h : w1.heap = w.heap) => step_ok F w1 (by rw [World.cell?, h]; exact hb_at hF 5 rfl) (by rw [World.cell?, h]; exact hb_at hF 6 rfl) (by rw [World.cell?, h]; exact hb_at hF 7 rfl) (by rw [World.frozen?, h]; exact hb_free hF 5) (by rw [World.frozen?, h]; exact hb_free hF 6) (by rw [World.frozen?, h]; exact hb_free hF 7)
  have Hst := Lib.hid st
  have Hs := Lib.hid hs
  have Hf := Lib.hid hf
  have Hn := Lib.hid hN
  have HF := Lib.hid hF
  have HX := Lib.hid hX
  have HB := Lib.hid hB
  have Hput := Lib.hid hput
  clear st hs hf hN hF hX hB hput
  obtain ⟨u1, hu1⟩ : ∃ u1, u1 = used - (m + 511) / 512 := ⟨_, rfl⟩
  have q1 : IntKind.i64.wrap ((used : Int) - (((m + 511) / 512 : Nat) : Int)) = u1 := by rw [IntWalk.i64_in _ (by omega)]; omega
  have q2 : IntKind.i64.wrap ((m : Int) + (k : Int)) = ((m + k : Nat) : Int) := by rw [IntWalk.i64_in _ (by omega)]; omega
  have q3 : IntKind.i64.wrap ((u1 : Int) + (((m + k + 511) / 512 : Nat) : Int)) = ((u1 + (m + k + 511) / 512 : Nat) : Int) := by rw [IntWalk.i64_in _ (by omega)]; omega
  rw [← hu1] at hu ⊢
  have Q1 := Lib.hid q1
  have Q2 := Lib.hid q2
  have Q3 := Lib.hid q3
  have Q4 := Lib.hid hu1
  clear q1 q2 q3 hu1
  go_enter Try.func25, Try.ntmps25
  go_wp2_with (first
    | (go_at_call 46; refine (made_yes F cap hc0 _ (by assumption)).mono ?_; rintro e w' ⟨rfl, rfl⟩)
    | (at_lookup; refine wpList_look_raw _ rfl _ _ 79 false rfl 9 78 Try.underlying79 N es clock rfl Hn.out _ rfl (ck9 _ _ _) _ (Hf.out.run _) _ (zero78 _) (.pointer (some ⟨X, 0, none⟩)) rfl ?_)
    | (go_at_call 57; refine (size_ok X m cb ao lv _ HX.out).mono ?_; rintro e w' ⟨rfl, rfl⟩)
    | (go_at_call 48; refine (isName_ok s _ hs1 hs2 Hs.out).mono ?_; rintro e w' ⟨rfl, rfl⟩)
    | (go_at_call 44; refine (Hst.out _ rfl).mono ?_; rintro e w' ⟨rfl, n1, rfl⟩)
    | go_in)
  have q1 := Q1.out
  have q2 := Q2.out
  have q3 := Q3.out
  go_quiet ((first | (go_at_call 53; exact quiet_sum (sectors_any m (by omega) _)) | (go_at_call 53; exact quiet_sum (sectors_max m k (by omega) _))))
  clear q1 q2 q3
  have hd2 : (used : Int) - ((m : Int) + 511) / 512 + ((m : Int) + (k : Int) + 511) / 512 ≤ (cap : Int) := by have := Q4.out; omega
  go_upto_region 16 with (first
    | (at_lookup; refine wpList_look_raw (o := ⟨some 75, _, _, _, _, _⟩) _ rfl _ _ 79 true rfl 9 78 Try.underlying79 N es clock rfl Hn.out _ rfl (ck9 _ _ _) _ (Hf.out.run _) _ (zero78 _) (.tuple #[.pointer (some ⟨X, 0, none⟩), .bool true]) rfl ?_)
    | (at_lookup; refine wpList_look_raw (o := ⟨some 91, _, _, _, _, _⟩) _ rfl _ _ 79 false rfl 9 78 Try.underlying79 N es clock rfl Hn.out _ rfl (ck9 _ _ _) _ (Hf.out.run _) _ (zero78 _) (.pointer (some ⟨X, 0, none⟩)) rfl ?_)
    | (go_at_call 59; refine (Hput.out _).mono ?_; rintro e w2 ⟨rfl, hP⟩)
    | go_in)
  have HP := Lib.hid hP
  have hneXF : F ≠ X := fun e => by have h1 := HF.out; have h2 := HX.out; rw [e, h2] at h1; simp [fsCells] at h1
  have hneB : some F ≠ (Value.slice ao m cb).ownBlock := own_ne HB.out HF.out (by simp)
  have hF2 := HP.out.kept F _ hneXF hneB (hb_drewN HF.out _)
  have e1 : w2.cell? ⟨F, 1, none⟩ = some (.int .i64 used) := hb_at hF2 1 rfl
  have e2 := hb_free hF2 1
  have HF2 := Lib.hid hF2
  have hnXF := Lib.hid hneXF
  clear hF2 hP hneXF hneB
  go_wp2
  all_goals
    go_ret
    obtain ⟨bv, hX2, hB2, hbv⟩ := HP.out.own
    have e3 : ((used : Int) - ((m : Int) + 511) / 512 + ((m : Int) + (k : Int) + 511) / 512) = ((u1 + (m + k + 511) / 512 : Nat) : Int) := by have := Q4.out; omega
    have h7 := (grown_set w2 ⟨F, 1, none⟩ (.int .i64 ((used : Int) - ((m : Int) + 511) / 512 + ((m : Int) + (k : Int) + 511) / 512))).size
    refine ⟨rfl, ?_, ⟨bv, hb_set_other hX2 _ (Ne.symm hnXF.out), hB2.kept (grown_set _ _ _) (.inr fun e => own_ne hB2 HF2.out (by simp) e.symm), hbv⟩, Nat.le_trans HP.out.size h7, HP.out.rest,
      fun j x hjX hjF hjb h => hb_set_other (HP.out.kept j x hjX hjb (hb_drewN h _)) _ hjF⟩
    rw [← e3]
    exact hb_set_same HF2.out 1 _
end Go.Proofs.Ytmfphnhdahaooaa
/- Write where there is no room: ErrSpace, and nothing is turned. -/
namespace Go.Proofs.Ytmfphnhdahaooaa
open Go.RowKit Go.Maps

set_option maxRecDepth 100000 in
set_option maxHeartbeats 2000000 in
theorem full_old (F N L S c cap used X m k idx : Nat) (ao : Option Addr) (cb : Nat) (lv tv : Value) (s : ByteArray) (es : Array MapEntry) (clock : Nat) (w : World)
    (hF : w.heap[F]? = some (.cells (fsCells cap used N L tv) 82 (0, 0))) (hN : w.heap[N]? = some (.map es clock)) (hf : Finds es s (some (idx, .pointer (some ⟨X, 0, none⟩))))
    (hX : w.heap[X]? = some (.cells #[.slice ao m cb, lv] 85 (0, 0))) 
    (hm : m ≤ 500000) (hk3 : k ≤ 3000) (hs1 : 1 ≤ s.size) (hs2 : s.size ≤ 30) (hs : ∀ (k : Nat) (hk : k < s.size), NameB s[k])
    (hc0 : 0 < cap) (hc1 : cap ≤ 4096) (hum : (m + 511) / 512 ≤ used) (hu : cap < used - (m + 511) / 512 + (m + k + 511) / 512) (hu2 : used ≤ 4096) :
    Calls Try.prog 25 #[.pointer (some ⟨F, 0, none⟩), .string s, .int .i64 m, .slice (some ⟨S, 0, none⟩) k c] w fun e w' => e = .returned (.int .i64 5) ∧ ∃ n, w' = w.drewN n := by
  have c0 : w.cell? ⟨F, 0, none⟩ = some (.int .i64 cap) := hb_at hF 0 rfl
  have c1 : w.cell? ⟨F, 1, none⟩ = some (.int .i64 used) := hb_at hF 1 rfl
  have c2 : w.cell? ⟨F, 2, none⟩ = some (.map (some N)) := hb_at hF 2 rfl
  have st := fun w1 (h : w1.heap = w.heap) => step_ok F w1 (by rw [World.cell?, h]; exact hb_at hF 5 rfl) (by rw [World.cell?, h]; exact hb_at hF 6 rfl) (by rw [World.cell?, h]; exact hb_at hF 7 rfl) (by rw [World.frozen?, h]; exact hb_free hF 5) (by rw [World.frozen?, h]; exact hb_free hF 6) (by rw [World.frozen?, h]; exact hb_free hF 7)
  have Hst := Lib.hid st
  have Hs := Lib.hid hs
  have Hf := Lib.hid hf
  have Hn := Lib.hid hN
  have HF := Lib.hid hF
  have HX := Lib.hid hX
  clear st hs hf hN hF hX
  obtain ⟨u1, hu1⟩ : ∃ u1, u1 = used - (m + 511) / 512 := ⟨_, rfl⟩
  have q1 : IntKind.i64.wrap ((used : Int) - (((m + 511) / 512 : Nat) : Int)) = u1 := by rw [IntWalk.i64_in _ (by omega)]; omega
  have q2 : IntKind.i64.wrap ((m : Int) + (k : Int)) = ((m + k : Nat) : Int) := by rw [IntWalk.i64_in _ (by omega)]; omega
  have q3 : IntKind.i64.wrap ((u1 : Int) + (((m + k + 511) / 512 : Nat) : Int)) = ((u1 + (m + k + 511) / 512 : Nat) : Int) := by rw [IntWalk.i64_in _ (by omega)]; omega
  rw [← hu1] at hu
  have Q1 := Lib.hid q1
  have Q2 := Lib.hid q2
  have Q3 := Lib.hid q3
  have Q4 := Lib.hid hu1
  clear q1 q2 q3 hu1
  go_enter Try.func25, Try.ntmps25
  go_wp2_with (first
    | (go_at_call 46; refine (made_yes F cap hc0 _ (by assumption)).mono ?_; rintro e w' ⟨rfl, rfl⟩)
    | (at_lookup; refine wpList_look_raw _ rfl _ _ 79 false rfl 9 78 Try.underlying79 N es clock rfl Hn.out _ rfl (ck9 _ _ _) _ (Hf.out.run _) _ (zero78 _) (.pointer (some ⟨X, 0, none⟩)) rfl ?_)
    | (go_at_call 57; refine (size_ok X m cb ao lv _ HX.out).mono ?_; rintro e w' ⟨rfl, rfl⟩)
    | (go_at_call 48; refine (isName_ok s _ hs1 hs2 Hs.out).mono ?_; rintro e w' ⟨rfl, rfl⟩)
    | (go_at_call 44; refine (Hst.out _ rfl).mono ?_; rintro e w' ⟨rfl, n1, rfl⟩)
    | go_in)
  have q1 := Q1.out
  have q2 := Q2.out
  have q3 := Q3.out
  go_quiet ((first | (go_at_call 53; exact quiet_sum (sectors_any m (by omega) _)) | (go_at_call 53; exact quiet_sum (sectors_max m k (by omega) _))))
  clear q1 q2 q3
  have hd2 : (cap : Int) < (used : Int) - ((m : Int) + 511) / 512 + ((m : Int) + (k : Int) + 511) / 512 := by have := Q4.out; omega
  go_wp2
  all_goals
    go_ret
    exact ⟨rfl, _, rfl⟩

set_option maxRecDepth 100000 in
set_option maxHeartbeats 2000000 in
theorem full_new (F N L c cap used k : Nat) (ao : Option Addr) (tv : Value) (s : ByteArray) (es : Array MapEntry) (clock : Nat) (w : World)
    (hF : w.heap[F]? = some (.cells (fsCells cap used N L tv) 82 (0, 0))) (hN : w.heap[N]? = some (.map es clock))
    (hk : 0 < k) (hk3 : k ≤ 3000) (hs1 : 1 ≤ s.size) (hs2 : s.size ≤ 30) (hs : ∀ (k : Nat) (hk : k < s.size), NameB s[k])
    (hc0 : 0 < cap) (hc1 : cap ≤ 4096) (hu2 : used ≤ 4096) (hu : cap < used + (k + 511) / 512) (hf : Finds es s none) :
    Calls Try.prog 25 #[.pointer (some ⟨F, 0, none⟩), .string s, .int .i64 0, .slice ao k c] w fun e w' => e = .returned (.int .i64 5) ∧ ∃ n, w' = w.drewN n := by
  have c0 : w.cell? ⟨F, 0, none⟩ = some (.int .i64 cap) := hb_at hF 0 rfl
  have c1 : w.cell? ⟨F, 1, none⟩ = some (.int .i64 used) := hb_at hF 1 rfl
  have c2 : w.cell? ⟨F, 2, none⟩ = some (.map (some N)) := hb_at hF 2 rfl
  have st := fun w1 (h : w1.heap = w.heap) => step_ok F w1 (by rw [World.cell?, h]; exact hb_at hF 5 rfl) (by rw [World.cell?, h]; exact hb_at hF 6 rfl) (by rw [World.cell?, h]; exact hb_at hF 7 rfl) (by rw [World.frozen?, h]; exact hb_free hF 5) (by rw [World.frozen?, h]; exact hb_free hF 6) (by rw [World.frozen?, h]; exact hb_free hF 7)
  have Hst := Lib.hid st
  have Hs := Lib.hid hs
  have Hf := Lib.hid hf
  have Hn := Lib.hid hN
  clear st hs hf hN hF
  have q1 : IntKind.i64.wrap ((used : Int) - 0) = used := IntWalk.i64_in _ (by omega)
  have q2 : IntKind.i64.wrap (0 + (k : Int)) = k := by rw [Int.zero_add]; exact IntWalk.i64_in _ (by omega)
  have q3 : IntKind.i64.wrap ((used : Int) + (((k + 511) / 512 : Nat) : Int)) = ((used + (k + 511) / 512 : Nat) : Int) := by rw [IntWalk.i64_in _ (by omega)]; omega
  have Q1 := Lib.hid q1
  have Q2 := Lib.hid q2
  have Q3 := Lib.hid q3
  clear q1 q2 q3
  go_enter Try.func25, Try.ntmps25
  go_wp2_with (first
    | (go_at_call 46; refine (made_yes F cap hc0 _ (by assumption)).mono ?_; rintro e w' ⟨rfl, rfl⟩)
    | (at_lookup; refine wpList_look_raw _ rfl _ _ 79 false rfl 9 78 Try.underlying79 N es clock rfl Hn.out _ rfl (ck9 _ _ _) none (Hf.out.run _) _ (zero78 _) (.pointer none) rfl ?_)
    | (go_at_call 57; refine (size_nil _).mono ?_; rintro e w' ⟨rfl, rfl⟩)
    | (go_at_call 48; refine (isName_ok s _ hs1 hs2 Hs.out).mono ?_; rintro e w' ⟨rfl, rfl⟩)
    | (go_at_call 44; refine (Hst.out _ rfl).mono ?_; rintro e w' ⟨rfl, n1, rfl⟩)
    | go_in)
  have q1 := Q1.out
  have q2 := Q2.out
  have q3 := Q3.out
  go_quiet ((first | (go_at_call 53; exact quiet_sum (sectors_zero _)) | (go_at_call 53; exact quiet_sum (sectors_any k (by omega) _))))
  clear q1 q2 q3
  have hd2 : (cap : Int) < (used : Int) + ((k : Int) + 511) / 512 := by omega
  go_wp2
  all_goals
    go_ret
    exact ⟨rfl, _, rfl⟩

end Go.Proofs.Ytmfphnhdahaooaa
/- Write of no byte to a file that there is not: it comes to be, without bytes. -/
namespace Go.Proofs.Ytmfphnhdahaooaa
open Go.RowKit Go.Maps

set_option maxRecDepth 100000 in
set_option maxHeartbeats 1000000 in
theorem put_quiet (X S c : Nat) (lv : Value) (w : World) (hX : w.heap[X]? = some (.cells #[.slice none 0 0, lv] 85 (0, 0))) :
    Calls Try.prog 59 #[.pointer (some ⟨X, 0, none⟩), .int .i64 0, .slice (some ⟨S, 0, none⟩) 0 c] w fun e w' => e = .returned (.tuple #[]) ∧ w' = w.drew := by
  have c0 : w.cell? ⟨X, 0, none⟩ = some (.slice none 0 0) := hb_at hX 0 rfl
  have f0 := hb_free hX 0
  obtain ⟨i0, hi, hz0, hz1, hz2⟩ := info_parts info5
  have HX := Lib.hid hX
  clear hX
  go_enter Try.func59, Try.ntmps59
  go_wp2_with (refine wpList_copy_nothing (o := ⟨some 14, _, _, _, _, _⟩) rfl (.tmp 12) (.tmp 13) 45 45 rfl 5 Try.underlying45 size5 _ (some ⟨S, 0, none⟩) 0 _ 0 c rfl rfl (Nat.min_zero _) ?_)
  all_goals (go_region_law (refine step_append_zero rfl (.tmp 19) (.tmp 22) 45 rfl 5 i0 Try.underlying45 hi none 0 0 (by omega) (by simp [Act.eval, Act.put] <;> omega) ⟨S, 0, none⟩ c (by simp [Act.eval, Act.put] <;> omega) ?_))
  all_goals
    go_wp2_with fail
    go_end0
    exact ⟨rfl, congrArg World.drew (setCell_id c0)⟩

structure Wrote0 (F N L : Nat) (cap used : Nat) (tv : Value) (n : Nat) (ts : List Value) (s : ByteArray) (es : Array MapEntry) (clock : Nat) (w w' : World) : Prop where
  all : ∃ X tv', w'.heap[F]? = some (.cells (fsCells cap used N L tv') 82 (0, 0)) ∧ w'.ownsRow 0 87 4 tv' (n + 1) (ts ++ turnCells s ⟨#[]⟩ X) ∧
    w'.heap[N]? = some (.map (es.push ⟨.string s, .pointer (some ⟨X, 0, none⟩), clock⟩) (clock + 1)) ∧ w'.heap[X]? = some (.cells #[.slice none 0 0, .slice none 0 0] 85 (0, 0)) ∧ w.heap.size ≤ X
  size : w.heap.size ≤ w'.heap.size
  rest : w'.os = w.os ∧ w'.tape = w.tape ∧ w'.output = w.output
  kept : ∀ j x, j ≠ N → j ≠ F → some j ≠ tv.ownBlock → w.heap[j]? = some x → w'.heap[j]? = some x

set_option maxRecDepth 100000 in
set_option maxHeartbeats 2000000 in
theorem write_new0 (F N L S c cap used : Nat) (tv : Value) (n : Nat) (ts : List Value) (s : ByteArray) (es : Array MapEntry) (clock : Nat) (w : World)
    (hF : w.heap[F]? = some (.cells (fsCells cap used N L tv) 82 (0, 0))) (hN : w.heap[N]? = some (.map es clock)) (hT : w.ownsRow 0 87 4 tv n ts) (hn : n ≤ 1000000)
    (hs1 : 1 ≤ s.size) (hs2 : s.size ≤ 30) (hs : ∀ (k : Nat) (hk : k < s.size), NameB s[k])
    (hc0 : 0 < cap) (hc1 : cap ≤ 4096) (hu : used ≤ cap) (hf : Finds es s none) :
    Calls Try.prog 25 #[.pointer (some ⟨F, 0, none⟩), .string s, .int .i64 0, .slice (some ⟨S, 0, none⟩) 0 c] w fun e w' => e = .returned (.int .i64 0) ∧ Wrote0 F N L cap used tv n ts s es clock w w' := by
  have c0 : w.cell? ⟨F, 0, none⟩ = some (.int .i64 cap) := hb_at hF 0 rfl
  have c1 : w.cell? ⟨F, 1, none⟩ = some (.int .i64 used) := hb_at hF 1 rfl
  have c2 : w.cell? ⟨F, 2, none⟩ = some (.map (some N)) := hb_at hF 2 rfl
  have st := fun w1 (h : w1.heap = w.heap) => step_ok F w1 (by rw [World.cell?, h]; exact hb_at hF 5 rfl) (by rw [World.cell?, h]; exact hb_at hF 6 rfl) (by rw [World.cell?, h]; exact hb_at hF 7 rfl) (by rw [World.frozen?, h]; exact hb_free hF 5) (by rw [World.frozen?, h]; exact hb_free hF 6) (by rw [World.frozen?, h]; exact hb_free hF 7)
  have Hst := Lib.hid st
  have Hs := Lib.hid hs
  have Hf := Lib.hid hf
  have Hf2 := Lib.hid (fun X => hf.push_same (.pointer (some ⟨X, 0, none⟩)) clock)
  have Hn := Lib.hid hN
  have HF := Lib.hid hF
  clear st hs hf hN hF
  have q1 : IntKind.i64.wrap ((used : Int) - 0) = used := IntWalk.i64_in _ (by omega)
  have q2 : IntKind.i64.wrap 0 = 0 := IntWalk.i64_in _ (by omega)
  have q3 : IntKind.i64.wrap (used : Int) = used := IntWalk.i64_in _ (by omega)
  have Q1 := Lib.hid q1
  have Q2 := Lib.hid q2
  have Q3 := Lib.hid q3
  clear q1 q2 q3
  go_enter Try.func25, Try.ntmps25
  go_wp2_with (first
    | (go_at_call 46; refine (made_yes F cap hc0 _ (by assumption)).mono ?_; rintro e w' ⟨rfl, rfl⟩)
    | (at_lookup; refine wpList_look_raw _ rfl _ _ 79 false rfl 9 78 Try.underlying79 N es clock rfl Hn.out _ rfl (ck9 _ _ _) none (Hf.out.run _) _ (zero78 _) (.pointer none) rfl ?_)
    | (go_at_call 57; refine (size_nil _).mono ?_; rintro e w' ⟨rfl, rfl⟩)
    | (go_at_call 48; refine (isName_ok s _ hs1 hs2 Hs.out).mono ?_; rintro e w' ⟨rfl, rfl⟩)
    | (go_at_call 44; refine (Hst.out _ rfl).mono ?_; rintro e w' ⟨rfl, n1, rfl⟩)
    | go_in)
  have q1 := Q1.out
  have q2 := Q2.out
  have q3 := Q3.out
  go_quiet ((go_at_call 53; exact quiet_sum (sectors_zero _)))
  clear q1 q2 q3
  have hd2 : (used : Int) ≤ (cap : Int) := by omega
  go_upto_region 15 with (first
    | (at_lookup; refine wpList_look_raw _ rfl _ _ 79 true rfl 9 78 Try.underlying79 N es clock rfl Hn.out _ rfl (ck9 _ _ _) none (Hf.out.run _) _ (zero78 _) (.tuple #[.pointer none, .bool false]) rfl ?_)
    | (go_at_call 58; refine (do_comes F N L w.heap.size cap used tv n ts s ⟨#[]⟩ es clock _ (hb_alloc (hb_drewN HF.out _) _) (hb_alloc (hb_drewN Hn.out _) _) ((own_drewN hT _).alloc _) hn Hf.out.run).mono ?_; rintro e w1 ⟨rfl, hD⟩)
    | go_in)
  have Hw1 := Lib.hid hD
  clear hD
  obtain ⟨tv1, hF1, hT1⟩ := Hw1.out.own
  have hnN : N < w.heap.size := hb_lt Hn.out
  have hnF : F < w.heap.size := hb_lt HF.out
  have hX1 := Hw1.out.kept w.heap.size _ (by omega) (by omega) (by
    intro e
    have := (hT.lt _ e.symm).2
    omega) (heap_alloc_new (w.drewN _) _)
  have hN1 := Hw1.out.map
  have d2 : w1.cell? ⟨F, 2, none⟩ = some (.map (some N)) := hb_at hF1 2 rfl
  have HF1 := Lib.hid hF1
  have HT1 := Lib.hid hT1
  have HX1 := Lib.hid hX1
  have HN1 := Lib.hid hN1
  clear hF1 hT1 hX1 hN1 hnN hnF
  go_upto_region 16 with (first
    | (at_lookup; refine wpList_look_raw _ rfl _ _ 79 false rfl 9 78 Try.underlying79 N _ _ rfl HN1.out _ rfl (ck9 _ _ _) _ ((Hf2.out _).run _) _ (zero78 _) (.pointer (some ⟨w.heap.size, 0, none⟩)) rfl ?_)
    | (go_at_call 59; refine (put_quiet w.heap.size S c _ w1 HX1.out).mono ?_; rintro e w2 ⟨rfl, rfl⟩)
    | go_in)
  have e1 : w1.cell? ⟨F, 1, none⟩ = some (.int .i64 used) := hb_at HF1.out 1 rfl
  have e2 := hb_free HF1.out 1
  go_wp2
  go_ret
  have h7 := (grown_set w1 ⟨F, 1, none⟩ (.int .i64 used)).size
  have h6 := Hw1.out.size
  simp at h6
  have e3 : w1.setCell ⟨F, 1, none⟩ (.int .i64 used) = w1 := setCell_id e1
  rw [e3]
  exact ⟨rfl, ⟨w.heap.size, tv1, HF1.out, HT1.out, HN1.out, HX1.out, Nat.le_refl _⟩, by show w.heap.size ≤ w1.heap.size; omega, Hw1.out.rest, fun j x hjN hjF hjT h => Hw1.out.kept j x hjN hjF hjT (hb_alloc (hb_drewN h _) _)⟩
end Go.Proofs.Ytmfphnhdahaooaa
/- A store of at most four files, of which nothing but the lengths is told; Write at a file's end keeps it so, with the length that is asked, where there is room; else nothing is turned. -/
namespace Go.Proofs.Ytmfphnhdahaooaa
open Go.RowKit Go.Maps

def nm (j : Nat) : ByteArray := ⟨#[102, UInt8.ofNat (48 + j)]⟩
theorem nm_ne : ∀ i j : Nat, i < 4 → j < 4 → i ≠ j → nm i ≠ nm j := by
  have h : ∀ i j : Fin 4, i ≠ j → (nm i).data ≠ (nm j).data := by decide
  intro i j hi hj hne e
  exact h ⟨i, hi⟩ ⟨j, hj⟩ (fun e2 => hne (by simpa using e2)) (by rw [e])
theorem nm_size (j : Nat) : (nm j).size = 2 := rfl
theorem nm_ok (j : Nat) (hj : j < 4) : ∀ (k : Nat) (hk : k < (nm j).size), NameB (nm j)[k] := by
  intro k hk
  rw [nm_size] at hk
  have h0 : NameB 102 := .inl ⟨by decide, by decide⟩
  have h1 : ∀ j : Fin 4, 48 ≤ ((UInt8.ofNat (48 + j)).toNat : Int) ∧ ((UInt8.ofNat (48 + j)).toNat : Int) ≤ 57 := by decide
  rcases Nat.lt_or_ge k 1 with h | h
  · obtain rfl : k = 0 := by omega
    exact h0
  · obtain rfl : k = 1 := by omega
    exact .inr (h1 ⟨j, hj⟩)

structure Fl where
  X : Nat
  ao : Option Addr
  cb : Nat
def Fl.val (f : Fl) (m : Nat) : Value := .slice f.ao m f.cb

structure Here (w : World) (B : Nat) (es : Array MapEntry) (s : ByteArray) (m : Nat) (f : Fl) : Prop where
  found : ∃ idx, Finds es s (some (idx, .pointer (some ⟨f.X, 0, none⟩)))
  file : w.heap[f.X]? = some (.cells #[f.val m, .slice none 0 0] 85 (0, 0))
  row : ∃ xs, w.ownsRow 0 5 1 (f.val m) m xs
  newer : B ≤ f.X ∧ ∀ g, (f.val m).ownBlock = some g → B ≤ g

def FileIs (w : World) (B : Nat) (es : Array MapEntry) (s : ByteArray) (m : Nat) : Option Fl → Prop
  | none => Finds es s none ∧ m = 0
  | some f => Here w B es s m f

def Apart (m m2 : Nat) : Option Fl → Option Fl → Prop
  | some f, some g => f.X ≠ g.X ∧ ∀ b, (f.val m).ownBlock = some b → (g.val m2).ownBlock ≠ some b
  | _, _ => True

def secs (m : Nat) : Nat := (m + 511) / 512

structure Room (w : World) (B F cap : Nat) (sz : Nat → Nat) (nt : Nat) : Prop where
  all : ∃ (N L : Nat) (tv : Value) (ts : List Value) (es : Array MapEntry) (clock : Nat) (st : Nat → Option Fl), w.heap[F]? = some (.cells (fsCells cap (secs (sz 0) + secs (sz 1) + secs (sz 2) + secs (sz 3) : Nat) N L tv) 82 (0, 0)) ∧ w.heap[N]? = some (.map es clock) ∧ w.ownsRow 0 87 4 tv nt ts ∧
    (∀ j, j < 4 → FileIs w B es (nm j) (sz j) (st j)) ∧ (∀ i j, i < 4 → j < 4 → i ≠ j → Apart (sz i) (sz j) (st i) (st j)) ∧ B ≤ N ∧ (∀ g, tv.ownBlock = some g → B ≤ g)
  base : B ≤ F
  fits : secs (sz 0) + secs (sz 1) + secs (sz 2) + secs (sz 3) ≤ cap

/-- What a step may have turned: what lies below B, and blocks of integers, are as they were. -/
structure Soft (B : Nat) (w w' : World) : Prop where
  size : w.heap.size ≤ w'.heap.size
  rest : w'.os = w.os ∧ w'.tape = w.tape ∧ w'.output = w.output
  below : ∀ b, b < B → w'.heap[b]? = w.heap[b]?
  ints : ∀ (b : Nat) (cs : Array Value) (f : Nat × Nat), w.heap[b]? = some (Obj.cells cs 3 f) → w'.heap[b]? = some (Obj.cells cs 3 f)

def upd (sz : Nat → Nat) (j k : Nat) : Nat → Nat := fun i => if i = j then sz i + k else sz i
theorem upd_same (sz : Nat → Nat) (j k : Nat) : upd sz j k j = sz j + k := by simp [upd]
theorem upd_other (sz : Nat → Nat) {i j : Nat} (k : Nat) (h : i ≠ j) : upd sz j k i = sz i := by simp [upd, h]

theorem own_val {w : World} {b : Nat} {e : TypeId} {size n : Nat} {v : Value} {xs : List Value} (h : w.ownsRow b e size v n xs) : ∃ ao c, v = .slice ao n c ∧ n ≤ c := by
  rcases h.2 with ⟨rfl, rfl⟩ | ⟨g, cap, cur, rfl, _, _, hc, _⟩
  · exact ⟨none, 0, rfl, Nat.le_refl _⟩
  · exact ⟨_, cap, rfl, hc⟩

theorem secs_le (a b : Nat) (h : a ≤ b) : secs a ≤ secs b := by unfold secs; omega

/-- A file that is another one stays, where its blocks do. -/
theorem Here.stays {w w' : World} {B : Nat} {es es' : Array MapEntry} {s : ByteArray} {m : Nat} {f : Fl} (h : Here w B es s m f) (hf : ∀ r, Finds es s r → Finds es' s r)
    (hX : w'.heap[f.X]? = w.heap[f.X]?) (hR : ∀ g x, (f.val m).ownBlock = some g → w.heap[g]? = some x → w'.heap[g]? = some x) : Here w' B es' s m f := by
  obtain ⟨⟨idx, h1⟩, h2, ⟨xs, h3⟩, h4⟩ := h
  exact ⟨⟨idx, hf _ h1⟩, by rw [hX, h2], ⟨xs, own_kept h3 hR⟩, h4⟩

theorem Soft.drewN (B : Nat) (w : World) (n : Nat) : Soft B w (w.drewN n) := ⟨Nat.le_refl _, ⟨rfl, rfl, rfl⟩, fun _ _ => rfl, fun _ _ _ h => h⟩
theorem Room.drewN {w : World} {B F cap : Nat} {sz : Nat → Nat} {nt : Nat} (h : Room w B F cap sz nt) (n : Nat) : Room (w.drewN n) B F cap sz nt := ⟨by
  obtain ⟨N, L, tv, ts, es, clock, st, h1, h2, h3, h4, h5, h6⟩ := h.all
  refine ⟨N, L, tv, ts, es, clock, st, h1, h2, h3, fun j hj => ?_, h5, h6⟩
  have := h4 j hj
  cases e : st j with
  | none => rw [e] at this; exact this
  | some f => rw [e] at this; exact ⟨this.found, this.file, this.row, this.newer⟩, h.base, h.fits⟩

theorem sum_upd (sz : Nat → Nat) (j k : Nat) (hj : j < 4) :
    secs (upd sz j k 0) + secs (upd sz j k 1) + secs (upd sz j k 2) + secs (upd sz j k 3) = secs (sz 0) + secs (sz 1) + secs (sz 2) + secs (sz 3) - secs (sz j) + secs (sz j + k) := by
  have h : j = 0 ∨ j = 1 ∨ j = 2 ∨ j = 3 := by omega
  rcases h with rfl | rfl | rfl | rfl <;> simp [upd] <;> omega

/-- A file that is there grows. -/
theorem room_old {w w' : World} {B F cap nt j k N L idx : Nat} {sz : Nat → Nat} {tv : Value} {ts : List Value} {es : Array MapEntry} {clock : Nat} {st : Nat → Option Fl} {f : Fl} {xs news : List Value}
    (hj : j < 4) (hF : w.heap[F]? = some (.cells (fsCells cap (secs (sz 0) + secs (sz 1) + secs (sz 2) + secs (sz 3) : Nat) N L tv) 82 (0, 0))) (hN : w.heap[N]? = some (.map es clock)) (hT : w.ownsRow 0 87 4 tv nt ts)
    (hA : ∀ j, j < 4 → FileIs w B es (nm j) (sz j) (st j)) (hP : ∀ i j, i < 4 → j < 4 → i ≠ j → Apart (sz i) (sz j) (st i) (st j)) (hBN : B ≤ N) (hBT : ∀ g, tv.ownBlock = some g → B ≤ g) (hBF : B ≤ F) (hBw : B ≤ w.heap.size)
    (hst : st j = some f) (hfound : Finds es (nm j) (some (idx, .pointer (some ⟨f.X, 0, none⟩)))) (hrow : w.ownsRow 0 5 1 (f.val (sz j)) (sz j) xs)
    (hfit : secs (sz 0) + secs (sz 1) + secs (sz 2) + secs (sz 3) - secs (sz j) + secs (sz j + k) ≤ cap)
    (hG : Grew F N L cap (secs (sz 0) + secs (sz 1) + secs (sz 2) + secs (sz 3) - secs (sz j) + secs (sz j + k)) tv f.X (f.val (sz j)) (.slice none 0 0) (sz j) k xs news w w') :
    Room w' B F cap (upd sz j k) nt ∧ Soft B w w' := by
  have hH : Here w B es (nm j) (sz j) f := by have := hA j hj; rw [hst] at this; exact this
  obtain ⟨bv, hX2, hB2, hloc⟩ := hG.own
  obtain ⟨ao, c, rfl, hmc⟩ := own_val hB2
  have hXF : f.X ≠ F := fun e => by have h1 := hH.file; rw [e, hF] at h1; simp [fsCells] at h1
  have hTX : some f.X ≠ tv.ownBlock := own_ne hT hH.file (by simp)
  have hTF : some F ≠ tv.ownBlock := own_ne hT hF (by simp)
  refine ⟨⟨⟨N, L, tv, ts, es, clock, fun i => if i = j then some ⟨f.X, ao, c⟩ else st i, ?_, ?_, ?_, ?_, ?_, hBN, hBT⟩, hBF, by rw [sum_upd sz j k hj]; exact hfit⟩, hG.size, hG.rest, ?_, ?_⟩
  · rw [sum_upd sz j k hj]
    exact hG.store
  · exact hG.kept N _ (fun e => by have h1 := hH.file; rw [← e, hN] at h1; cases h1) (fun e => by rw [e, hF] at hN; cases hN) (own_ne hrow hN (by simp)) hN
  · refine own_kept hT fun g x hg hx => hG.kept g x (fun e => hTX (by rw [hg, e])) (fun e => hTF (by rw [hg, e])) (fun e => ?_) hx
    rcases hT.2 with ⟨rfl, _⟩ | ⟨g2, cp, cur, rfl, _, h1, _⟩
    · cases hg
    · obtain rfl : g2 = g := by simpa [Value.ownBlock] using hg
      exact own_ne hrow h1 (by simp) e
  · intro i hi
    by_cases e : i = j
    · subst e
      rw [upd_same]
      simp only [if_true]
      exact ⟨⟨idx, hfound⟩, hX2, ⟨_, hB2⟩, hH.newer.1, fun g hg => by
        rcases hloc with h | ⟨g2, h, h2⟩
        · exact hH.newer.2 g (by rw [← h]; exact hg)
        · have : g = g2 := by rw [show (Fl.val ⟨f.X, ao, c⟩ (sz i + k)).ownBlock = some g2 from h] at hg; exact (Option.some.inj hg).symm
          omega⟩
    · rw [upd_other sz k e]
      simp only [if_neg e]
      have h := hA i hi
      have ha := hP i j hi hj e
      cases es1 : st i with
      | none => rw [es1] at h; exact h
      | some g =>
        rw [es1] at h
        rw [es1, hst] at ha
        refine Here.stays h (fun r hr => hr) ?_ ?_
        · rw [h.file]
          exact hG.kept g.X _ ha.1 (fun e => by have h1 := h.file; rw [e, hF] at h1; simp [fsCells] at h1) (own_ne hrow h.file (by simp)) h.file
        · intro b x hb hx
          obtain ⟨ys, hr⟩ := h.row
          exact hG.kept b x (fun e => own_ne hr hH.file (by simp) (by rw [hb, e])) (fun e => own_ne hr hF (by simp) (by rw [hb, e])) (fun e => ha.2 b hb e.symm) hx
  · intro i l hi hl hne
    have ha := hP i l hi hl hne
    by_cases e1 : i = j
    · subst e1
      have e2 : l ≠ i := Ne.symm hne
      simp only [if_true, if_neg e2, upd_same, upd_other sz k e2]
      cases es1 : st l with
      | none => trivial
      | some g =>
        rw [es1, hst] at ha
        refine ⟨ha.1, fun b hb hb2 => ?_⟩
        have hl2 := hA l hl
        rw [es1] at hl2
        obtain ⟨ys, hr⟩ := hl2.row
        rcases hloc with h | ⟨g2, h, h2⟩
        · exact ha.2 b (by rw [← h]; exact hb) hb2
        · have hbg : b = g2 := by rw [show (Fl.val ⟨f.X, ao, c⟩ (sz i + k)).ownBlock = some g2 from h] at hb; exact (Option.some.inj hb).symm
          have := (hr.lt b hb2).2
          omega
    · by_cases e2 : l = j
      · subst e2
        simp only [if_true, if_neg e1, upd_same, upd_other sz k e1]
        cases es1 : st i with
        | none => trivial
        | some g =>
          rw [es1, hst] at ha
          refine ⟨ha.1, fun b hb hb2 => ?_⟩
          have hl2 := hA i hi
          rw [es1] at hl2
          obtain ⟨ys, hr⟩ := hl2.row
          rcases hloc with h | ⟨g2, h, h2⟩
          · exact ha.2 b hb (by rw [← h]; exact hb2)
          · have hbg : b = g2 := by rw [show (Fl.val ⟨f.X, ao, c⟩ (sz l + k)).ownBlock = some g2 from h] at hb2; exact (Option.some.inj hb2).symm
            have := (hr.lt b hb).2
            omega
      · simp only [if_neg e1, if_neg e2, upd_other sz k e1, upd_other sz k e2]
        exact ha
  · intro b hb
    have hl : b < w.heap.size := by omega
    have hx : w.heap[b]? = some w.heap[b] := Array.getElem?_eq_getElem hl
    rw [hx]
    exact hG.kept b _ (by have := hH.newer.1; omega) (by omega) (fun e => by have := hH.newer.2 b e.symm; omega) hx
  · intro b cs fr hb
    exact hG.kept b _ (fun e => by have h1 := hH.file; rw [← e, hb] at h1; simp at h1) (fun e => by rw [e, hF] at hb; simp at hb) (own_ne hrow hb (by simp)) hb
end Go.Proofs.Ytmfphnhdahaooaa
/- As the texts before, with where the row of the turns lies behind the call. -/
namespace Go.Proofs.Ytmfphnhdahaooaa
open Go.RowKit Go.Maps

structure Did2 (F N L : Nat) (cap used : Int) (tv : Value) (n : Nat) (ts : List Value) (s tn : ByteArray) (X : Nat) (es : Array MapEntry) (clock : Nat) (w w' : World) : Prop where
  own : ∃ tv', w'.heap[F]? = some (.cells (fsCells cap used N L tv') 82 (0, 0)) ∧ w'.ownsRow 0 87 4 tv' (n + 1) (ts ++ turnCells s tn X) ∧ (tv'.ownBlock = tv.ownBlock ∨ ∃ g, tv'.ownBlock = some g ∧ w.heap.size ≤ g)
  map : w'.heap[N]? = some (.map (es.push ⟨.string s, .pointer (some ⟨X, 0, none⟩), clock⟩) (clock + 1))
  size : w.heap.size ≤ w'.heap.size
  rest : w'.os = w.os ∧ w'.tape = w.tape ∧ w'.output = w.output
  kept : ∀ k x, k ≠ N → k ≠ F → some k ≠ tv.ownBlock → w.heap[k]? = some x → w'.heap[k]? = some x

set_option maxHeartbeats 1000000 in
theorem do_comes2 (F N L X : Nat) (cap used : Int) (tv : Value) (n : Nat) (ts : List Value) (s tn : ByteArray) (es : Array MapEntry) (clock : Nat) (w : World)
    (hF : w.heap[F]? = some (.cells (fsCells cap used N L tv) 82 (0, 0))) (hN : w.heap[N]? = some (.map es clock)) (hT : w.ownsRow 0 87 4 tv n ts) (hn : n ≤ 1000000)
    (hf : ∀ w, (Instr.findKey 9 (.string s) es.toList).run Try.prog w = .ok none w) :
    Calls Try.prog 58 #[.pointer (some ⟨F, 0, none⟩), .agg #[.int .i64 0, .string s, .string tn, .pointer (some ⟨X, 0, none⟩)]] w fun e w' => e = .returned (.tuple #[]) ∧ Did2 F N L cap used tv n ts s tn X es clock w w' := by
  have c2 : w.cell? ⟨F, 2, none⟩ = some (.map (some N)) := by rw [hb_cell hF]; rfl
  have hFl := hb_lt hF
  have hne : F ≠ N := fun e => by subst e; rw [hF] at hN; cases hN
  go_enter Try.func58, Try.ntmps58
  go_upto_region 1 with fail
  go_cut [9] (fun _ wx => wx.heap[N]? = some (.map (es.push ⟨.string s, .pointer (some ⟨X, 0, none⟩), clock⟩) (clock + 1)) ∧ (w.alloc (.cells (turnCells s tn X).toArray 87)).grownBy wx (some N))
  case first =>
    go_region_with (go_at_call 47; refine (change_comes s tn X N es clock _ (by first | exact hb_alloc hN _) hf).mono ?_; rintro e w1 ⟨rfl, hN1, hg1⟩)
    all_goals (go_wp2_with fail; go_meet; exact ⟨hN1, grown_undrew hg1⟩)
  case rest =>
    obtain ⟨hN1, hg1⟩ := hcut
    obtain ⟨i0, hi, hz0, hz1, hz2⟩ := info_parts info87
    have hF1 := hb_grown (hb_alloc hF _) hg1 (by simpa using hne)
    have hB1 := hb_grown (heap_alloc_new w (.cells (turnCells s tn X).toArray 87)) hg1 (by have := hb_lt hN; simp; omega)
    have hT1 := (hT.alloc (.cells (turnCells s tn X).toArray 87)).kept hg1 (by
      have := own_ne hT hN (by simp)
      exact .inr (fun e => this e.symm))
    have c4 : wc.cell? ⟨F, 4, none⟩ = some tv := by rw [hb_cell hF1]; rfl
    have b0 : wc.cell? ⟨w.heap.size, 0, none⟩ = some (.int .i64 0) := by rw [hb_cell hB1]; rfl
    have b1 : wc.cell? ⟨w.heap.size, 1, none⟩ = some (.string s) := by rw [hb_cell hB1]; rfl
    have b2 : wc.cell? ⟨w.heap.size, 2, none⟩ = some (.string tn) := by rw [hb_cell hB1]; rfl
    have b3 : wc.cell? ⟨w.heap.size, 3, none⟩ = some (.pointer (some ⟨X, 0, none⟩)) := by rw [hb_cell hB1]; rfl
    have c4a : ∀ o, (wc.alloc o).cell? ⟨F, 4, none⟩ = some tv := fun o => hb_at (hb_alloc hF1 o) 4 rfl
    have hneT : some F ≠ tv.ownBlock := own_ne hT hF (by simp)
    go_wp2_with fail
    go_region_law (refine step_append_lies _ rfl (.tmp 14) (.tmp 16) 80 rfl 0 87 i0 _ 4 48 Try.underlying80 hi hz0 hz1 hz2 rfl (by decide) tv n ts (by simp [Act.eval, Act.put]) (hT1.alloc _) ⟨wc.heap.size, 0, none⟩ 1 1 (turnCells s tn X) (by simp [Act.eval, Act.put]) rfl (new_cells _ _ _ _ rfl) (by simp [turnCells, Value.oneCell']) (by decide) (by unfold maxLen; omega) (by omega) (Nat.zero_le _) _ rfl ?_; intro g cap' w2 hown2 hg2 hat2 hlt2; have hF2 := hb_grown (hb_alloc (w := wc.drew) hF1 _) hg2 hneT; have c42 : w2.cell? ⟨F, 4, none⟩ = some tv := hb_at hF2 4 rfl; have f42 := hb_free hF2 4)
    all_goals
      go_wp2_with fail
      go_end0
      exact ⟨rfl, ⟨_, hb_set_same hF2 4 _, hown2.kept (grown_set _ _ _) (.inr fun e => own_ne hown2 hF2 (by simp) e.symm), hat2.elim (fun h => .inl h.symm) (fun h => .inr ⟨g, rfl, by have e1 := hg1.size; simp at e1 h; omega⟩)⟩,
        hb_set_other (hb_grown (hb_alloc (w := wc.drew) hN1 _) hg2 (own_ne hT hN (by simp))) _ (Ne.symm hne),
        by have e1 := hg1.size; have e2 := hg2.size; have e3 := (grown_set w2 ⟨F, 4, none⟩ (.slice (some ⟨g, 0, none⟩) (n + 1) cap')).size; simp at e1 e2; omega,
        ⟨hg2.os.trans hg1.os, hg2.tape.trans hg1.tape, hg2.output.trans hg1.output⟩,
        fun k x hkN hkF hkT h => hb_set_other (hb_grown (hb_alloc (w := wc.drew) (hb_grown (w' := wc) (hb_alloc h _) hg1 (fun e => hkN (Option.some.inj e))) _) hg2 hkT) _ hkF⟩

structure Wrote2 (F N L : Nat) (cap used : Nat) (tv : Value) (n : Nat) (ts : List Value) (s : ByteArray) (es : Array MapEntry) (clock : Nat) (news : List Value) (w w' : World) : Prop where
  all : ∃ X bv tv' g, w'.heap[F]? = some (.cells (fsCells cap (used + (news.length + 511) / 512 : Nat) N L tv') 82 (0, 0)) ∧ w'.ownsRow 0 87 4 tv' (n + 1) (ts ++ turnCells s ⟨#[]⟩ X) ∧
    w'.heap[N]? = some (.map (es.push ⟨.string s, .pointer (some ⟨X, 0, none⟩), clock⟩) (clock + 1)) ∧ w'.heap[X]? = some (.cells #[bv, .slice none 0 0] 85 (0, 0)) ∧
    w'.ownsRow 0 5 1 bv news.length news ∧ w.heap.size ≤ X ∧ bv.ownBlock = some g ∧ w.heap.size ≤ g ∧ (tv'.ownBlock = tv.ownBlock ∨ ∃ g, tv'.ownBlock = some g ∧ w.heap.size ≤ g)
  size : w.heap.size ≤ w'.heap.size
  rest : w'.os = w.os ∧ w'.tape = w.tape ∧ w'.output = w.output
  kept : ∀ j x, j ≠ N → j ≠ F → some j ≠ tv.ownBlock → w.heap[j]? = some x → w'.heap[j]? = some x

set_option maxRecDepth 100000 in
set_option maxHeartbeats 2000000 in
theorem write_new2 (F N L S c cap used : Nat) (tv : Value) (n : Nat) (ts : List Value) (s : ByteArray) (es : Array MapEntry) (clock : Nat) (news : List Value) (fr : Nat × Nat) (w : World)
    (hF : w.heap[F]? = some (.cells (fsCells cap used N L tv) 82 (0, 0))) (hN : w.heap[N]? = some (.map es clock)) (hT : w.ownsRow 0 87 4 tv n ts) (hn : n ≤ 1000000)
    (hS : w.heap[S]? = some (.cells news.toArray 5 fr)) (hk : 0 < news.length) (hkc : news.length ≤ c) (hk3 : news.length ≤ 3000) (hone : ∀ u ∈ news, u.oneCell' = true)
    (hs1 : 1 ≤ s.size) (hs2 : s.size ≤ 30) (hs : ∀ (k : Nat) (hk : k < s.size), NameB s[k])
    (hc0 : 0 < cap) (hc1 : cap ≤ 4096) (hu : used + (news.length + 511) / 512 ≤ cap)
    (hf : ∀ w, (Instr.findKey 9 (.string s) es.toList).run Try.prog w = .ok none w)
    (hf2 : ∀ X w, (Instr.findKey 9 (.string s) (es.push ⟨.string s, .pointer (some ⟨X, 0, none⟩), clock⟩).toList).run Try.prog w = .ok (some (es.size, .pointer (some ⟨X, 0, none⟩))) w) :
    Calls Try.prog 25 #[.pointer (some ⟨F, 0, none⟩), .string s, .int .i64 0, .slice (some ⟨S, 0, none⟩) news.length c] w fun e w' => e = .returned (.int .i64 0) ∧ Wrote2 F N L cap used tv n ts s es clock news w w' := by
  have c0 : w.cell? ⟨F, 0, none⟩ = some (.int .i64 cap) := hb_at hF 0 rfl
  have c1 : w.cell? ⟨F, 1, none⟩ = some (.int .i64 used) := hb_at hF 1 rfl
  have c2 : w.cell? ⟨F, 2, none⟩ = some (.map (some N)) := hb_at hF 2 rfl
  have st := fun w1 (h : w1.heap = w.heap) => step_ok F w1 (by rw [World.cell?, h]; exact hb_at hF 5 rfl) (by rw [World.cell?, h]; exact hb_at hF 6 rfl) (by rw [World.cell?, h]; exact hb_at hF 7 rfl) (by rw [World.frozen?, h]; exact hb_free hF 5) (by rw [World.frozen?, h]; exact hb_free hF 6) (by rw [World.frozen?, h]; exact hb_free hF 7)
  have Hst := Lib.hid st
  have Hs := Lib.hid hs
  have Hf := Lib.hid hf
  have Hf2 := Lib.hid hf2
  have Ho := Lib.hid hone
  have Hn := Lib.hid hN
  have HF := Lib.hid hF
  have HS := Lib.hid hS
  clear st hs hf hf2 hone hN hF hS
  obtain ⟨k, hkk⟩ : ∃ k, k = news.length := ⟨_, rfl⟩
  have Hk := Lib.hid hkk
  rw [← hkk] at hk hkc hk3 hu ⊢
  clear hkk
  have q1 : IntKind.i64.wrap ((used : Int) - 0) = used := IntWalk.i64_in _ (by omega)
  have q2 : IntKind.i64.wrap (0 + (k : Int)) = k := by rw [Int.zero_add]; exact IntWalk.i64_in _ (by omega)
  have q3 : IntKind.i64.wrap ((used : Int) + (((k + 511) / 512 : Nat) : Int)) = ((used + (k + 511) / 512 : Nat) : Int) := by rw [IntWalk.i64_in _ (by omega)]; omega
  have Q1 := Lib.hid q1
  have Q2 := Lib.hid q2
  have Q3 := Lib.hid q3
  clear q1 q2 q3
  go_enter Try.func25, Try.ntmps25
  go_wp2_with (first
    | (go_at_call 46; refine (made_yes F cap hc0 _ (by assumption)).mono ?_; rintro e w' ⟨rfl, rfl⟩)
    | (at_lookup; refine wpList_look_raw _ rfl _ _ 79 false rfl 9 78 Try.underlying79 N es clock rfl Hn.out _ rfl (ck9 _ _ _) none (Hf.out _) _ (zero78 _) (.pointer none) rfl ?_)
    | (go_at_call 57; refine (size_nil _).mono ?_; rintro e w' ⟨rfl, rfl⟩)
    | (go_at_call 48; refine (isName_ok s _ hs1 hs2 Hs.out).mono ?_; rintro e w' ⟨rfl, rfl⟩)
    | (go_at_call 44; refine (Hst.out _ rfl).mono ?_; rintro e w' ⟨rfl, n1, rfl⟩)
    | go_in)
  have q1 := Q1.out
  have q2 := Q2.out
  have q3 := Q3.out
  go_quiet ((first | (go_at_call 53; exact quiet_sum (sectors_zero _)) | (go_at_call 53; exact quiet_sum (sectors_any k (by omega) _))))
  clear q1 q2 q3
  have hd1 : (decide ((cap : Int) < ((used + (k + 511) / 512 : Nat) : Int))) = false := by simp; omega
  go_upto_region 15 with (first
    | (at_lookup; refine wpList_look_raw _ rfl _ _ 79 true rfl 9 78 Try.underlying79 N es clock rfl Hn.out _ rfl (ck9 _ _ _) none (Hf.out _) _ (zero78 _) (.tuple #[.pointer none, .bool false]) rfl ?_)
    | (go_at_call 58; refine (do_comes2 F N L w.heap.size cap used tv n ts s ⟨#[]⟩ es clock _ (hb_alloc (hb_drewN HF.out _) _) (hb_alloc (hb_drewN Hn.out _) _) ((own_drewN hT _).alloc _) hn Hf.out).mono ?_; rintro e w1 ⟨rfl, hD⟩)
    | go_in)
  have Hw1 := Lib.hid hD
  clear hD
  obtain ⟨tv1, hF1, hT1, hloc⟩ := Hw1.out.own
  have HLoc := Lib.hid hloc
  clear hloc
  have hnN : N < w.heap.size := hb_lt Hn.out
  have hnF : F < w.heap.size := hb_lt HF.out
  have hX1 := Hw1.out.kept w.heap.size _ (by omega) (by omega) (by
    intro e
    have := (hT.lt _ e.symm).2
    omega) (heap_alloc_new (w.drewN _) _)
  have hS1 := Hw1.out.kept S _ (fun e => by subst e; have h1 := HS.out; have h2 := Hn.out; rw [h1] at h2; cases h2)
    (fun e => by subst e; have h1 := HS.out; have h2 := HF.out; rw [h1] at h2; cases h2) (own_ne hT HS.out (by simp)) (hb_alloc (hb_drewN HS.out _) _)
  have hN1 := Hw1.out.map
  have d2 : w1.cell? ⟨F, 2, none⟩ = some (.map (some N)) := hb_at hF1 2 rfl
  have HF1 := Lib.hid hF1
  have HT1 := Lib.hid hT1
  have HX1 := Lib.hid hX1
  have HS1 := Lib.hid hS1
  have HN1 := Lib.hid hN1
  clear hF1 hT1 hX1 hS1 hN1 hnN hnF
  go_upto_region 16 with (first
    | (at_lookup; refine wpList_look_raw _ rfl _ _ 79 false rfl 9 78 Try.underlying79 N _ _ rfl HN1.out _ rfl (ck9 _ _ _) _ (Hf2.out _ _) _ (zero78 _) (.pointer (some ⟨w.heap.size, 0, none⟩)) rfl ?_)
    | (go_at_call 59; refine (put_nil w.heap.size S c k _ news w1 HX1.out hk hkc (by omega) (by have := Hk.out; omega) (by intro j u hj; rw [hb_cell_add HS1.out]; simpa using hj) Ho.out).mono ?_; rintro e w2 ⟨rfl, hP⟩)
    | go_in)
  have HP := Lib.hid hP
  clear hP
  obtain ⟨bv, hX2, hB2, hbv⟩ := HP.out.own
  have hlN := hb_lt Hn.out
  have hlF := hb_lt HF.out
  have hF2 := HP.out.kept F _ (by omega) (by simp [Value.ownBlock]) HF1.out
  have hN2 := HP.out.kept N _ (by omega) (by simp [Value.ownBlock]) HN1.out
  have hT2 := own_kept HT1.out (fun g x hg hx => HP.out.kept g x (fun e => own_ne HT1.out HX1.out (by simp) (by rw [hg, e])) (by simp [Value.ownBlock]) hx)
  have e1 : w2.cell? ⟨F, 1, none⟩ = some (.int .i64 used) := hb_at hF2 1 rfl
  have e2 := hb_free hF2 1
  obtain ⟨g, hg, hgl⟩ : ∃ g, bv.ownBlock = some g ∧ w1.heap.size ≤ g := by
    rcases hbv with h | h
    · obtain ⟨g, cp, hv, _⟩ := hB2.form (by omega)
      rw [hv] at h
      cases h
    · exact h
  have h5 : w.heap.size + 1 ≤ w1.heap.size := by have h := Hw1.out.size; simp at h; exact h
  have h6 := HP.out.size
  have HX2 := Lib.hid hX2
  have HB2 := Lib.hid hB2
  have HF2 := Lib.hid hF2
  have HN2 := Lib.hid hN2
  have HT2 := Lib.hid hT2
  have Hg := Lib.hid hg
  clear hX2 hB2 hF2 hN2 hT2 hg
  go_wp2
  go_ret
  have e3 : ((used : Int) + ((k : Int) + 511) / 512) = ((used + (news.length + 511) / 512 : Nat) : Int) := by rw [← Hk.out]; omega
  have h7 : w2.heap.size ≤ (w2.setCell ⟨F, 1, none⟩ (.int .i64 (used + (k + 511) / 512))).heap.size := (grown_set _ _ _).size
  refine ⟨rfl, ⟨w.heap.size, bv, tv1, g, ?_, ?_, ?_, ?_, ?_, Nat.le_refl _, Hg.out, by omega, HLoc.out.elim .inl (fun ⟨g2, h1, h2⟩ => .inr ⟨g2, h1, by simp at h2; omega⟩)⟩, by omega, ⟨HP.out.rest.1.trans Hw1.out.rest.1, HP.out.rest.2.1.trans Hw1.out.rest.2.1, HP.out.rest.2.2.trans Hw1.out.rest.2.2⟩, ?_⟩
  · rw [← e3]
    exact hb_set_same HF2.out 1 _
  · exact HT2.out.kept (grown_set _ _ _) (.inr fun e => own_ne HT2.out HF2.out (by simp) e.symm)
  · exact hb_set_other HN2.out _ (fun e => by have h1 := HN2.out; have h2 := HF2.out; rw [e, h2] at h1; cases h1)
  · exact hb_set_other HX2.out _ (by simp; omega)
  · rw [← Hk.out]
    have h := HB2.out
    rw [Nat.zero_add, List.nil_append] at h
    exact h.kept (grown_set _ _ _) (.inr fun e => own_ne h HF2.out (by simp) e.symm)
  · intro j x hjN hjF hjT h
    have hl := hb_lt h
    exact hb_set_other (HP.out.kept j x (by omega) (by simp [Value.ownBlock]) (Hw1.out.kept j x hjN hjF hjT (hb_alloc (hb_drewN h _) _))) _ hjF

structure Wrote02 (F N L : Nat) (cap used : Nat) (tv : Value) (n : Nat) (ts : List Value) (s : ByteArray) (es : Array MapEntry) (clock : Nat) (w w' : World) : Prop where
  all : ∃ X tv', w'.heap[F]? = some (.cells (fsCells cap used N L tv') 82 (0, 0)) ∧ w'.ownsRow 0 87 4 tv' (n + 1) (ts ++ turnCells s ⟨#[]⟩ X) ∧
    w'.heap[N]? = some (.map (es.push ⟨.string s, .pointer (some ⟨X, 0, none⟩), clock⟩) (clock + 1)) ∧ w'.heap[X]? = some (.cells #[.slice none 0 0, .slice none 0 0] 85 (0, 0)) ∧ w.heap.size ≤ X ∧ (tv'.ownBlock = tv.ownBlock ∨ ∃ g, tv'.ownBlock = some g ∧ w.heap.size ≤ g)
  size : w.heap.size ≤ w'.heap.size
  rest : w'.os = w.os ∧ w'.tape = w.tape ∧ w'.output = w.output
  kept : ∀ j x, j ≠ N → j ≠ F → some j ≠ tv.ownBlock → w.heap[j]? = some x → w'.heap[j]? = some x

set_option maxRecDepth 100000 in
set_option maxHeartbeats 2000000 in
theorem write_new02 (F N L S c cap used : Nat) (tv : Value) (n : Nat) (ts : List Value) (s : ByteArray) (es : Array MapEntry) (clock : Nat) (w : World)
    (hF : w.heap[F]? = some (.cells (fsCells cap used N L tv) 82 (0, 0))) (hN : w.heap[N]? = some (.map es clock)) (hT : w.ownsRow 0 87 4 tv n ts) (hn : n ≤ 1000000)
    (hs1 : 1 ≤ s.size) (hs2 : s.size ≤ 30) (hs : ∀ (k : Nat) (hk : k < s.size), NameB s[k])
    (hc0 : 0 < cap) (hc1 : cap ≤ 4096) (hu : used ≤ cap) (hf : Finds es s none) :
    Calls Try.prog 25 #[.pointer (some ⟨F, 0, none⟩), .string s, .int .i64 0, .slice (some ⟨S, 0, none⟩) 0 c] w fun e w' => e = .returned (.int .i64 0) ∧ Wrote02 F N L cap used tv n ts s es clock w w' := by
  have c0 : w.cell? ⟨F, 0, none⟩ = some (.int .i64 cap) := hb_at hF 0 rfl
  have c1 : w.cell? ⟨F, 1, none⟩ = some (.int .i64 used) := hb_at hF 1 rfl
  have c2 : w.cell? ⟨F, 2, none⟩ = some (.map (some N)) := hb_at hF 2 rfl
  have st := fun w1 (h : w1.heap = w.heap) => step_ok F w1 (by rw [World.cell?, h]; exact hb_at hF 5 rfl) (by rw [World.cell?, h]; exact hb_at hF 6 rfl) (by rw [World.cell?, h]; exact hb_at hF 7 rfl) (by rw [World.frozen?, h]; exact hb_free hF 5) (by rw [World.frozen?, h]; exact hb_free hF 6) (by rw [World.frozen?, h]; exact hb_free hF 7)
  have Hst := Lib.hid st
  have Hs := Lib.hid hs
  have Hf := Lib.hid hf
  have Hf2 := Lib.hid (fun X => hf.push_same (.pointer (some ⟨X, 0, none⟩)) clock)
  have Hn := Lib.hid hN
  have HF := Lib.hid hF
  clear st hs hf hN hF
  have q1 : IntKind.i64.wrap ((used : Int) - 0) = used := IntWalk.i64_in _ (by omega)
  have q2 : IntKind.i64.wrap 0 = 0 := IntWalk.i64_in _ (by omega)
  have q3 : IntKind.i64.wrap (used : Int) = used := IntWalk.i64_in _ (by omega)
  have Q1 := Lib.hid q1
  have Q2 := Lib.hid q2
  have Q3 := Lib.hid q3
  clear q1 q2 q3
  go_enter Try.func25, Try.ntmps25
  go_wp2_with (first
    | (go_at_call 46; refine (made_yes F cap hc0 _ (by assumption)).mono ?_; rintro e w' ⟨rfl, rfl⟩)
    | (at_lookup; refine wpList_look_raw _ rfl _ _ 79 false rfl 9 78 Try.underlying79 N es clock rfl Hn.out _ rfl (ck9 _ _ _) none (Hf.out.run _) _ (zero78 _) (.pointer none) rfl ?_)
    | (go_at_call 57; refine (size_nil _).mono ?_; rintro e w' ⟨rfl, rfl⟩)
    | (go_at_call 48; refine (isName_ok s _ hs1 hs2 Hs.out).mono ?_; rintro e w' ⟨rfl, rfl⟩)
    | (go_at_call 44; refine (Hst.out _ rfl).mono ?_; rintro e w' ⟨rfl, n1, rfl⟩)
    | go_in)
  have q1 := Q1.out
  have q2 := Q2.out
  have q3 := Q3.out
  go_quiet ((go_at_call 53; exact quiet_sum (sectors_zero _)))
  clear q1 q2 q3
  have hd2 : (used : Int) ≤ (cap : Int) := by omega
  go_upto_region 15 with (first
    | (at_lookup; refine wpList_look_raw _ rfl _ _ 79 true rfl 9 78 Try.underlying79 N es clock rfl Hn.out _ rfl (ck9 _ _ _) none (Hf.out.run _) _ (zero78 _) (.tuple #[.pointer none, .bool false]) rfl ?_)
    | (go_at_call 58; refine (do_comes2 F N L w.heap.size cap used tv n ts s ⟨#[]⟩ es clock _ (hb_alloc (hb_drewN HF.out _) _) (hb_alloc (hb_drewN Hn.out _) _) ((own_drewN hT _).alloc _) hn Hf.out.run).mono ?_; rintro e w1 ⟨rfl, hD⟩)
    | go_in)
  have Hw1 := Lib.hid hD
  clear hD
  obtain ⟨tv1, hF1, hT1, hloc⟩ := Hw1.out.own
  have HLoc := Lib.hid hloc
  clear hloc
  have hnN : N < w.heap.size := hb_lt Hn.out
  have hnF : F < w.heap.size := hb_lt HF.out
  have hX1 := Hw1.out.kept w.heap.size _ (by omega) (by omega) (by
    intro e
    have := (hT.lt _ e.symm).2
    omega) (heap_alloc_new (w.drewN _) _)
  have hN1 := Hw1.out.map
  have d2 : w1.cell? ⟨F, 2, none⟩ = some (.map (some N)) := hb_at hF1 2 rfl
  have HF1 := Lib.hid hF1
  have HT1 := Lib.hid hT1
  have HX1 := Lib.hid hX1
  have HN1 := Lib.hid hN1
  clear hF1 hT1 hX1 hN1 hnN hnF
  go_upto_region 16 with (first
    | (at_lookup; refine wpList_look_raw _ rfl _ _ 79 false rfl 9 78 Try.underlying79 N _ _ rfl HN1.out _ rfl (ck9 _ _ _) _ ((Hf2.out _).run _) _ (zero78 _) (.pointer (some ⟨w.heap.size, 0, none⟩)) rfl ?_)
    | (go_at_call 59; refine (put_quiet w.heap.size S c _ w1 HX1.out).mono ?_; rintro e w2 ⟨rfl, rfl⟩)
    | go_in)
  have e1 : w1.cell? ⟨F, 1, none⟩ = some (.int .i64 used) := hb_at HF1.out 1 rfl
  have e2 := hb_free HF1.out 1
  go_wp2
  go_ret
  have h7 := (grown_set w1 ⟨F, 1, none⟩ (.int .i64 used)).size
  have h6 := Hw1.out.size
  simp at h6
  have e3 : w1.setCell ⟨F, 1, none⟩ (.int .i64 used) = w1 := setCell_id e1
  rw [e3]
  exact ⟨rfl, ⟨w.heap.size, tv1, HF1.out, HT1.out, HN1.out, HX1.out, Nat.le_refl _, HLoc.out.elim .inl (fun ⟨g2, h1, h2⟩ => .inr ⟨g2, h1, by simp at h2; omega⟩)⟩, by show w.heap.size ≤ w1.heap.size; omega, Hw1.out.rest, fun j x hjN hjF hjT h => Hw1.out.kept j x hjN hjF hjT (hb_alloc (hb_drewN h _) _)⟩
end Go.Proofs.Ytmfphnhdahaooaa
/- Write at a file's end, in a store of at most four files, of whatever length, of whatever bytes, with room or without. -/
namespace Go.Proofs.Ytmfphnhdahaooaa
open Go.RowKit Go.Maps

/-- A file comes to be. -/
theorem room_new {w w' : World} {B F cap nt j k N L X c : Nat} {ao : Option Addr} {sz : Nat → Nat} {tv tv' : Value} {ts ts' : List Value} {es : Array MapEntry} {clock : Nat} {st : Nat → Option Fl} {xs : List Value}
    (hj : j < 4) (hF : w.heap[F]? = some (.cells (fsCells cap (secs (sz 0) + secs (sz 1) + secs (sz 2) + secs (sz 3) : Nat) N L tv) 82 (0, 0))) (hN : w.heap[N]? = some (.map es clock)) (hT : w.ownsRow 0 87 4 tv nt ts)
    (hA : ∀ j, j < 4 → FileIs w B es (nm j) (sz j) (st j)) (hP : ∀ i j, i < 4 → j < 4 → i ≠ j → Apart (sz i) (sz j) (st i) (st j)) (hBN : B ≤ N) (hBT : ∀ g, tv.ownBlock = some g → B ≤ g) (hBF : B ≤ F) (hBw : B ≤ w.heap.size)
    (hst : st j = none) (hfit : secs (sz 0) + secs (sz 1) + secs (sz 2) + secs (sz 3) + secs k ≤ cap)
    (gF : w'.heap[F]? = some (.cells (fsCells cap (secs (sz 0) + secs (sz 1) + secs (sz 2) + secs (sz 3) + secs k : Nat) N L tv') 82 (0, 0))) (gT : w'.ownsRow 0 87 4 tv' (nt + 1) ts')
    (gN : w'.heap[N]? = some (.map (es.push ⟨.string (nm j), .pointer (some ⟨X, 0, none⟩), clock⟩) (clock + 1))) (gX : w'.heap[X]? = some (.cells #[.slice ao k c, .slice none 0 0] 85 (0, 0)))
    (gB : w'.ownsRow 0 5 1 (.slice ao k c) k xs) (gXl : w.heap.size ≤ X) (gbl : ∀ g, (Value.slice ao k c).ownBlock = some g → w.heap.size ≤ g)
    (gtl : tv'.ownBlock = tv.ownBlock ∨ ∃ g, tv'.ownBlock = some g ∧ w.heap.size ≤ g) (gs : w.heap.size ≤ w'.heap.size) (gr : w'.os = w.os ∧ w'.tape = w.tape ∧ w'.output = w.output)
    (gk : ∀ j x, j ≠ N → j ≠ F → some j ≠ tv.ownBlock → w.heap[j]? = some x → w'.heap[j]? = some x) :
    Room w' B F cap (upd sz j k) (nt + 1) ∧ Soft B w w' := by
  have hj0 : Finds es (nm j) none ∧ sz j = 0 := by have := hA j hj; rw [hst] at this; exact this
  have hs0 : secs (sz j) = 0 := by rw [hj0.2]; rfl
  have hsum : secs (upd sz j k 0) + secs (upd sz j k 1) + secs (upd sz j k 2) + secs (upd sz j k 3) = secs (sz 0) + secs (sz 1) + secs (sz 2) + secs (sz 3) + secs k := by
    rw [sum_upd sz j k hj, hs0, hj0.2, Nat.zero_add, Nat.sub_zero]
  refine ⟨⟨⟨N, L, tv', ts', _, _, fun i => if i = j then some ⟨X, ao, c⟩ else st i, ?_, gN, gT, ?_, ?_, hBN, ?_⟩, hBF, by rw [hsum]; exact hfit⟩, gs, gr, ?_, ?_⟩
  · rw [hsum]
    exact gF
  · intro i hi
    by_cases e : i = j
    · subst e
      rw [upd_same, hj0.2, Nat.zero_add]
      simp only [if_true]
      exact ⟨⟨_, hj0.1.push_same _ _⟩, gX, ⟨_, gB⟩, by show B ≤ X; omega, fun g hg => by have := gbl g hg; omega⟩
    · rw [upd_other sz k e]
      simp only [if_neg e]
      have h := hA i hi
      have hn := nm_ne i j hi hj e
      cases es1 : st i with
      | none =>
        rw [es1] at h
        exact ⟨h.1.push_other hn _ _, h.2⟩
      | some g =>
        rw [es1] at h
        obtain ⟨ys, hr⟩ := h.row
        refine Here.stays h (fun r hr => hr.push_other hn _ _) ?_ ?_
        · rw [h.file]
          exact gk g.X _ (fun e => by have h1 := h.file; rw [e, hN] at h1; cases h1) (fun e => by have h1 := h.file; rw [e, hF] at h1; simp [fsCells] at h1) (own_ne hT h.file (by simp [Fl.val])) h.file
        · intro b x hb hx
          refine gk b x (fun e => own_ne hr hN (by simp) (by rw [hb, e])) (fun e => own_ne hr hF (by simp) (by rw [hb, e])) (fun e => ?_) hx
          rcases hr.2 with ⟨h1, _⟩ | ⟨g2, cp, cur, h1, _, h2, _⟩
          · rw [h1] at hb; cases hb
          · rw [h1] at hb
            obtain rfl : g2 = b := by simpa [Value.ownBlock] using hb
            exact own_ne hT h2 (by simp) e
  · intro i l hi hl hne
    have ha := hP i l hi hl hne
    by_cases e1 : i = j
    · subst e1
      have e2 : l ≠ i := Ne.symm hne
      simp only [if_true, if_neg e2, upd_same, upd_other sz k e2, hj0.2, Nat.zero_add]
      cases es1 : st l with
      | none => trivial
      | some g =>
        have hl2 := hA l hl
        rw [es1] at hl2
        obtain ⟨ys, hr⟩ := hl2.row
        refine ⟨by have := hb_lt hl2.file; show X ≠ g.X; omega, fun b hb hb2 => ?_⟩
        have h1 := gbl b hb
        have h2 := (hr.lt b hb2).2
        omega
    · by_cases e2 : l = j
      · subst e2
        simp only [if_true, if_neg e1, upd_same, upd_other sz k e1, hj0.2, Nat.zero_add]
        cases es1 : st i with
        | none => trivial
        | some g =>
          have hl2 := hA i hi
          rw [es1] at hl2
          obtain ⟨ys, hr⟩ := hl2.row
          refine ⟨by have := hb_lt hl2.file; show g.X ≠ X; omega, fun b hb hb2 => ?_⟩
          have h1 := gbl b hb2
          have h2 := (hr.lt b hb).2
          omega
      · simp only [if_neg e1, if_neg e2, upd_other sz k e1, upd_other sz k e2]
        exact ha
  · intro g hg
    rcases gtl with h | ⟨g2, h, h2⟩
    · exact hBT g (by rw [← h]; exact hg)
    · rw [h] at hg
      obtain rfl := Option.some.inj hg
      omega
  · intro b hb
    have hl : b < w.heap.size := by omega
    have hx : w.heap[b]? = some w.heap[b] := Array.getElem?_eq_getElem hl
    rw [hx]
    exact gk b _ (by omega) (by omega) (fun e => by have := hBT b e.symm; omega) hx
  · intro b cs fr hb
    exact gk b _ (fun e => by rw [e, hN] at hb; cases hb) (fun e => by rw [e, hF] at hb; simp at hb) (own_ne hT hb (by simp)) hb
end Go.Proofs.Ytmfphnhdahaooaa
/- Write at a file's end in a store of at most four files: one contract for all cases. -/
namespace Go.Proofs.Ytmfphnhdahaooaa
open Go.RowKit Go.Maps

set_option maxRecDepth 100000 in
set_option maxHeartbeats 1000000 in
theorem put_any (X B cb S c m k : Nat) (lv : Value) (xs news : List Value) (w : World) (hX : w.heap[X]? = some (.cells #[.slice (some ⟨B, 0, none⟩) m cb, lv] 85 (0, 0))) (hB : w.ownsRow 0 5 1 (.slice (some ⟨B, 0, none⟩) m cb) m xs) (hm : m ≤ 1000000) (hmc : m ≤ cb)
    (hk : 0 < k) (hkc : k ≤ c) (hkm : k ≤ 1000000) (hnl : news.length = k) (hnews : ∀ j u, news[j]? = some u → w.cell? ((⟨S, 0, none⟩ : Addr).add j) = some u) (hone : ∀ u ∈ news, u.oneCell' = true) :
    Calls Try.prog 59 #[.pointer (some ⟨X, 0, none⟩), .int .i64 m, .slice (some ⟨S, 0, none⟩) k c] w fun e w' => e = .returned (.tuple #[]) ∧ PutEnd X (.slice (some ⟨B, 0, none⟩) m cb) lv m k xs news w w' := by
  have c0 : w.cell? ⟨X, 0, none⟩ = some (.slice (some ⟨B, 0, none⟩) m cb) := hb_at hX 0 rfl
  have f0 := hb_free hX 0
  have hneB : some X ≠ (Value.slice (some ⟨B, 0, none⟩) m cb).ownBlock := own_ne hB hX (by simp)
  obtain ⟨i0, hi, hz0, hz1, hz2⟩ := info_parts info5
  have HN := Lib.hid hnews
  have HO := Lib.hid hone
  have HL := Lib.hid hnl
  have HX := Lib.hid hX
  have HB := Lib.hid hB
  have HE := Lib.hid hneB
  clear hnews hone hnl hX hB hneB
  go_enter Try.func59, Try.ntmps59
  go_wp2_with (refine wpList_copy_nothing (o := ⟨some 14, _, _, _, _, _⟩) rfl (.tmp 12) (.tmp 13) 45 45 rfl 5 Try.underlying45 size5 _ (some ⟨S, 0, none⟩) 0 _ k c rfl rfl (Nat.min_zero _) ?_)
  all_goals (go_region_law (refine step_append_lies _ rfl (.tmp 19) (.tmp 22) 45 rfl 0 5 i0 _ 1 1 Try.underlying45 hi hz0 hz1 hz2 rfl (by decide) _ m xs (by simp [Act.eval, Act.put] <;> omega) (own_drewN HB.out 1) ⟨S, 0, none⟩ k c news (by simp [Act.eval, Act.put]) (by rw [HL.out]; omega) HN.out HO.out hk (by unfold maxLen; omega) (by omega) (Nat.zero_le _) _ rfl ?_; intro g cap' w2 hown2 hg2 hat2 hlt2; have hX2 := hb_grown (w := w.drew) HX.out hg2 HE.out; have c02 : w2.cell? ⟨X, 0, none⟩ = some (.slice (some ⟨B, 0, none⟩) m cb) := hb_at hX2 0 rfl; have f02 := hb_free hX2 0))
  all_goals
    go_wp2_with fail
    go_end0
    have e1 := hg2.size
    have e2 := (grown_set w2 ⟨X, 0, none⟩ (.slice (some ⟨g, 0, none⟩) (m + k) cap')).size
    exact ⟨rfl, ⟨_, hb_set_same hX2 0 _, hown2.kept (grown_set _ _ _) (.inr fun e => own_ne hown2 hX2 (by simp) e.symm), hat2.elim (fun h => .inl h.symm) (fun h => .inr ⟨g, rfl, Nat.le_of_eq h.symm⟩)⟩,
      Nat.le_trans e1 e2, ⟨hg2.os, hg2.tape, hg2.output⟩, fun j x hj hjb h => hb_set_other (hb_grown (w := w.drew) h hg2 hjb) _ hj⟩

def Wr (B F cap j k nt : Nat) (sz : Nat → Nat) (w : World) (e : Ending) (w' : World) : Prop :=
  (secs (sz 0) + secs (sz 1) + secs (sz 2) + secs (sz 3) - secs (sz j) + secs (sz j + k) ≤ cap ∧ e = .returned (.int .i64 0) ∧ (∃ m, m ≤ nt + 1 ∧ Room w' B F cap (upd sz j k) m) ∧ Soft B w w') ∨
  (cap < secs (sz 0) + secs (sz 1) + secs (sz 2) + secs (sz 3) - secs (sz j) + secs (sz j + k) ∧ e = .returned (.int .i64 5) ∧ Room w' B F cap sz nt ∧ Soft B w w')

theorem zeros_one (k : Nat) : ∀ u ∈ List.replicate k (Value.int .u8 0), u.oneCell' = true := by
  intro u hu
  rw [(List.mem_replicate.1 hu).2]
  rfl

theorem write_room (B F cap j k nt S c : Nat) (fr : Nat × Nat) (sz : Nat → Nat) (w : World) (hR : Room w B F cap sz nt) (hj : j < 4) (hBw : B ≤ w.heap.size) (hc0 : 0 < cap) (hc1 : cap ≤ 40) (hnt : nt ≤ 1000)
    (hsz : sz j ≤ 200000) (hk : k ≤ 3000) (hkc : k ≤ c) (hS : w.heap[S]? = some (.cells (List.replicate k (Value.int .u8 0)).toArray 5 fr)) :
    Calls Try.prog 25 #[.pointer (some ⟨F, 0, none⟩), .string (nm j), .int .i64 (sz j), .slice (some ⟨S, 0, none⟩) k c] w (Wr B F cap j k nt sz w) := by
  have hcells : ∀ n i u, (List.replicate k (Value.int .u8 0))[i]? = some u → (w.drewN n).cell? ((⟨S, 0, none⟩ : Addr).add i) = some u := by
    intro n i u hi
    rw [hb_cell_add (hb_drewN hS n), List.getElem?_toArray]
    exact hi
  obtain ⟨N, L, tv, ts, es, clock, st, hF, hN, hT, hA, hP, hBN, hBT⟩ := hR.all
  have hfits := hR.fits
  have hBF := hR.base
  obtain ⟨U, hU⟩ : ∃ U, U = secs (sz 0) + secs (sz 1) + secs (sz 2) + secs (sz 3) := ⟨_, rfl⟩
  have hum : secs (sz j) ≤ U := by
    have h : j = 0 ∨ j = 1 ∨ j = 2 ∨ j = 3 := by omega
    rcases h with rfl | rfl | rfl | rfl <;> omega
  cases es1 : st j with
  | some f =>
    have hH : Here w B es (nm j) (sz j) f := by have := hA j hj; rw [es1] at this; exact this
    obtain ⟨idx, hfound⟩ := hH.found
    obtain ⟨xs, hrow⟩ := hH.row
    by_cases hfit : U - secs (sz j) + secs (sz j + k) ≤ cap
    · have hput : ∀ n, Calls Try.prog 59 #[.pointer (some ⟨f.X, 0, none⟩), .int .i64 (sz j), .slice (some ⟨S, 0, none⟩) k c] (w.drewN n) fun e w' => e = .returned (.tuple #[]) ∧ PutEnd f.X (f.val (sz j)) (.slice none 0 0) (sz j) k xs (List.replicate k (.int .u8 0)) (w.drewN n) w' := by
        intro n
        obtain ⟨ao, cb, hv, hmc⟩ := own_val hrow
        rcases Nat.eq_zero_or_pos k with rfl | hk0
        · rcases hrow.2 with ⟨h1, h2⟩ | ⟨g, cp, cur, h1, _, _, hcp, _⟩
          · rw [h1, h2]
            have hx := hH.file
            have hr := hrow
            rw [h1] at hx hr
            rw [h2] at hr
            exact put_zero_nil f.X S c _ xs _ (hb_drewN hx n) (own_drewN hr n)
          · rw [h1]
            have hx := hH.file
            have hr := hrow
            rw [h1] at hx hr
            exact put_zero_some f.X g cp (sz j) S c _ xs _ (hb_drewN hx n) (own_drewN hr n) (by omega) hcp
        · rcases hrow.2 with ⟨h1, h2⟩ | ⟨g, cp, cur, h1, _, _, hcp, _⟩
          · obtain rfl : xs = [] := List.eq_nil_of_length_eq_zero (by rw [hrow.1, h2])
            rw [h1, h2]
            have hx := hH.file
            rw [h1] at hx
            exact put_nil f.X S c k _ _ _ (hb_drewN hx n) hk0 hkc (by omega) (by simp) (hcells n) (zeros_one k)
          · rw [h1]
            have hx := hH.file
            have hr := hrow
            rw [h1] at hx hr
            exact put_any f.X g cp S c (sz j) k _ xs _ _ (hb_drewN hx n) (own_drewN hr n) (by omega) hcp hk0 hkc (by omega) (by simp) (hcells n) (zeros_one k)
      have h := write_old F N L S c cap U f.X (sz j) k idx f.ao f.cb (.slice none 0 0) tv (nm j) es clock xs (List.replicate k (.int .u8 0)) w (hU ▸ hF) hN hfound hH.file hrow (by omega) hk (by rw [nm_size]; decide) (by rw [nm_size]; decide) (nm_ok j hj) hc0 (by omega) hum hfit (by omega) hput
      refine h.mono fun e w' h2 => .inl ⟨hU ▸ hfit, h2.1, ?_⟩
      have hg := h2.2
      rw [hU] at hg
      have h3 := room_old hj hF hN hT hA hP hBN hBT hBF hBw es1 hfound hrow (hU ▸ hfit) hg
      exact ⟨⟨nt, by omega, h3.1⟩, h3.2⟩
    · have h := full_old F N L S c cap U f.X (sz j) k idx f.ao f.cb (.slice none 0 0) tv (nm j) es clock w (hU ▸ hF) hN hfound hH.file (by omega) hk (by rw [nm_size]; decide) (by rw [nm_size]; decide) (nm_ok j hj) hc0 (by omega) hum (by unfold secs at hfit; omega) (by omega)
      refine h.mono fun e w' h2 => .inr ⟨by rw [← hU]; omega, h2.1, ?_⟩
      obtain ⟨n, rfl⟩ := h2.2
      exact ⟨hR.drewN n, Soft.drewN B w n⟩
  | none =>
    have hj0 : Finds es (nm j) none ∧ sz j = 0 := by have := hA j hj; rw [es1] at this; exact this
    have hs0 : secs (sz j) = 0 := by rw [hj0.2]; rfl
    have hsj : ((sz j : Nat) : Int) = 0 := by rw [hj0.2]; rfl
    rw [hsj]
    by_cases hfit : U + secs k ≤ cap
    · rcases Nat.eq_zero_or_pos k with rfl | hk0
      · have h := write_new02 F N L S c cap U tv nt ts (nm j) es clock w (hU ▸ hF) hN hT (by omega) (by rw [nm_size]; decide) (by rw [nm_size]; decide) (nm_ok j hj) hc0 (by omega) (by omega) hj0.1
        refine h.mono fun e w' h2 => .inl ⟨by rw [hj0.2, ← hU]; simp [secs]; omega, h2.1, ?_⟩
        obtain ⟨X, tv', g1, g2, g3, g4, g5, g6⟩ := h2.2.all
        have h3 := room_new (k := 0) (c := 0) (ao := none) (xs := []) hj hF hN hT hA hP hBN hBT hBF hBw es1 (by rw [← hU]; exact hfit) (by rw [← hU]; exact g1) g2 g3 g4 (World.ownsRow_nil _ _ _ _) g5 (by simp [Value.ownBlock]) g6 h2.2.size h2.2.rest h2.2.kept
        exact ⟨⟨nt + 1, Nat.le_refl _, h3.1⟩, h3.2⟩
      · have hlen : (List.replicate k (Value.int .u8 0)).length = k := List.length_replicate
        have h := write_new2 F N L S c cap U tv nt ts (nm j) es clock (List.replicate k (.int .u8 0)) fr w (hU ▸ hF) hN hT (by omega) hS (by omega) (by omega) (by omega) (zeros_one k) (by rw [nm_size]; decide) (by rw [nm_size]; decide) (nm_ok j hj) hc0 (by omega) (by rw [hlen]; exact hfit) hj0.1.run
          (fun X w => (hj0.1.push_same (.pointer (some ⟨X, 0, none⟩)) clock).run w)
        rw [hlen] at h
        refine h.mono fun e w' h2 => .inl ⟨by rw [hj0.2, ← hU, Nat.zero_add]; simp [secs] at hfit ⊢; omega, h2.1, ?_⟩
        obtain ⟨X, bv, tv', g, g1, g2, g3, g4, g5, g6, g7, g8, g9⟩ := h2.2.all
        rw [hlen] at g1 g5
        obtain ⟨ao, c2, rfl, _⟩ := own_val g5
        have h3 := room_new (k := k) (c := c2) (ao := ao) hj hF hN hT hA hP hBN hBT hBF hBw es1 (by rw [← hU]; exact hfit) (by rw [← hU]; exact g1) g2 g3 g4 g5 g6 (fun b hb => by rw [g7] at hb; obtain rfl := Option.some.inj hb; exact g8) g9 h2.2.size h2.2.rest h2.2.kept
        exact ⟨⟨nt + 1, Nat.le_refl _, h3.1⟩, h3.2⟩
    · have h := full_new F N L c cap U k (some ⟨S, 0, none⟩) tv (nm j) es clock w (hU ▸ hF) hN (by
        rcases Nat.eq_zero_or_pos k with rfl | h
        · exact absurd (by simp [secs]; omega) hfit
        · exact h) hk (by rw [nm_size]; decide) (by rw [nm_size]; decide) (nm_ok j hj) hc0 (by omega) (by omega) (by unfold secs at hfit; omega) hj0.1
      refine h.mono fun e w' h2 => .inr ⟨by rw [hj0.2, ← hU, Nat.zero_add]; simp [secs] at hfit ⊢; omega, h2.1, ?_⟩
      obtain ⟨n, rfl⟩ := h2.2
      exact ⟨hR.drewN n, Soft.drewN B w n⟩
end Go.Proofs.Ytmfphnhdahaooaa
