/- Write where there is no room: ErrSpace, and nothing is turned. -/
import Derived.Test.YtdaipgeecmngfaaRb
namespace Go.Proofs.Ytdaipgeecmngfaa
open Go.RowKit Go.Maps

set_option maxRecDepth 100000 in
set_option maxHeartbeats 2000000 in
theorem full_old (F N L S c cap used X m k idx : Nat) (ao : Option Addr) (cb : Nat) (lv tv : Value) (s : ByteArray) (es : Array MapEntry) (clock : Nat) (w : World)
    (hF : w.heap[F]? = some (.cells (fsCells cap used N L tv) 82 (0, 0))) (hN : w.heap[N]? = some (.map es clock)) (hf : Finds es s (some (idx, .pointer (some ⟨X, 0, none⟩))))
    (hX : w.heap[X]? = some (.cells #[.slice ao m cb, lv] 85 (0, 0))) 
    (hm : m ≤ 500000) (hk3 : k ≤ 3000) (hs1 : 1 ≤ s.size) (hs2 : s.size ≤ 30) (hs : ∀ (k : Nat) (hk : k < s.size), NameB s[k])
    (hc0 : 0 < cap) (hc1 : cap ≤ 4096) (hum : (m + 511) / 512 ≤ used) (hu : cap < used - (m + 511) / 512 + (m + k + 511) / 512) (hu2 : used ≤ 4096) :
    Calls Try.prog 25 #[.pointer (some ⟨F, 0, none⟩), .string s, .int .i64 m, .slice (some ⟨S, 0, none⟩) k c] w fun e w' => e = .returned (.int .i64 5) ∧ ∃ n, w' = w.drewN n := by
  have c0 : w.cell? ⟨F, 0, none⟩ = some (.int .i64 cap) := hb_at hF 0 rfl
  have c1 : w.cell? ⟨F, 1, none⟩ = some (.int .i64 used) := hb_at hF 1 rfl
  have c2 : w.cell? ⟨F, 2, none⟩ = some (.map (some N)) := hb_at hF 2 rfl
  have st := fun w1 (h : w1.heap = w.heap) => step_ok F w1 (by rw [World.cell?, h]; exact hb_at hF 5 rfl) (by rw [World.cell?, h]; exact hb_at hF 6 rfl) (by rw [World.cell?, h]; exact hb_at hF 7 rfl) (by rw [World.frozen?, h]; exact hb_free hF 5) (by rw [World.frozen?, h]; exact hb_free hF 6) (by rw [World.frozen?, h]; exact hb_free hF 7)
  have Hst := Lib.hid st
  have Hs := Lib.hid hs
  have Hf := Lib.hid hf
  have Hn := Lib.hid hN
  have HF := Lib.hid hF
  have HX := Lib.hid hX
  clear st hs hf hN hF hX
  obtain ⟨u1, hu1⟩ : ∃ u1, u1 = used - (m + 511) / 512 := ⟨_, rfl⟩
  have q1 : IntKind.i64.wrap ((used : Int) - (((m + 511) / 512 : Nat) : Int)) = u1 := by rw [IntWalk.i64_in _ (by omega)]; omega
  have q2 : IntKind.i64.wrap ((m : Int) + (k : Int)) = ((m + k : Nat) : Int) := by rw [IntWalk.i64_in _ (by omega)]; omega
  have q3 : IntKind.i64.wrap ((u1 : Int) + (((m + k + 511) / 512 : Nat) : Int)) = ((u1 + (m + k + 511) / 512 : Nat) : Int) := by rw [IntWalk.i64_in _ (by omega)]; omega
  rw [← hu1] at hu
  have Q1 := Lib.hid q1
  have Q2 := Lib.hid q2
  have Q3 := Lib.hid q3
  have Q4 := Lib.hid hu1
  clear q1 q2 q3 hu1
  go_enter Try.func25, Try.ntmps25
  go_wp2_with (first
    | (go_at_call 46; refine (made_yes F cap hc0 _ (by assumption)).mono ?_; rintro e w' ⟨rfl, rfl⟩)
    | (at_lookup; refine wpList_look_raw _ rfl _ _ 79 false rfl 9 78 Try.underlying79 N es clock rfl Hn.out _ rfl (ck9 _ _ _) _ (Hf.out.run _) _ (zero78 _) (.pointer (some ⟨X, 0, none⟩)) rfl ?_)
    | (go_at_call 57; refine (size_ok X m cb ao lv _ HX.out).mono ?_; rintro e w' ⟨rfl, rfl⟩)
    | (go_at_call 48; refine (isName_ok s _ hs1 hs2 Hs.out).mono ?_; rintro e w' ⟨rfl, rfl⟩)
    | (go_at_call 44; refine (Hst.out _ rfl).mono ?_; rintro e w' ⟨rfl, n1, rfl⟩)
    | go_in)
  have q1 := Q1.out
  have q2 := Q2.out
  have q3 := Q3.out
  go_quiet ((first | (go_at_call 53; exact quiet_sum (sectors_any m (by omega) _)) | (go_at_call 53; exact quiet_sum (sectors_max m k (by omega) _))))
  clear q1 q2 q3
  have hd2 : (cap : Int) < (used : Int) - ((m : Int) + 511) / 512 + ((m : Int) + (k : Int) + 511) / 512 := by have := Q4.out; omega
  go_wp2
  all_goals
    go_ret
    exact ⟨rfl, _, rfl⟩

set_option maxRecDepth 100000 in
set_option maxHeartbeats 2000000 in
theorem full_new (F N L c cap used k : Nat) (ao : Option Addr) (tv : Value) (s : ByteArray) (es : Array MapEntry) (clock : Nat) (w : World)
    (hF : w.heap[F]? = some (.cells (fsCells cap used N L tv) 82 (0, 0))) (hN : w.heap[N]? = some (.map es clock))
    (hk : 0 < k) (hk3 : k ≤ 3000) (hs1 : 1 ≤ s.size) (hs2 : s.size ≤ 30) (hs : ∀ (k : Nat) (hk : k < s.size), NameB s[k])
    (hc0 : 0 < cap) (hc1 : cap ≤ 4096) (hu2 : used ≤ 4096) (hu : cap < used + (k + 511) / 512) (hf : Finds es s none) :
    Calls Try.prog 25 #[.pointer (some ⟨F, 0, none⟩), .string s, .int .i64 0, .slice ao k c] w fun e w' => e = .returned (.int .i64 5) ∧ ∃ n, w' = w.drewN n := by
  have c0 : w.cell? ⟨F, 0, none⟩ = some (.int .i64 cap) := hb_at hF 0 rfl
  have c1 : w.cell? ⟨F, 1, none⟩ = some (.int .i64 used) := hb_at hF 1 rfl
  have c2 : w.cell? ⟨F, 2, none⟩ = some (.map (some N)) := hb_at hF 2 rfl
  have st := fun w1 (h : w1.heap = w.heap) => step_ok F w1 (by rw [World.cell?, h]; exact hb_at hF 5 rfl) (by rw [World.cell?, h]; exact hb_at hF 6 rfl) (by rw [World.cell?, h]; exact hb_at hF 7 rfl) (by rw [World.frozen?, h]; exact hb_free hF 5) (by rw [World.frozen?, h]; exact hb_free hF 6) (by rw [World.frozen?, h]; exact hb_free hF 7)
  have Hst := Lib.hid st
  have Hs := Lib.hid hs
  have Hf := Lib.hid hf
  have Hn := Lib.hid hN
  clear st hs hf hN hF
  have q1 : IntKind.i64.wrap ((used : Int) - 0) = used := IntWalk.i64_in _ (by omega)
  have q2 : IntKind.i64.wrap (0 + (k : Int)) = k := by rw [Int.zero_add]; exact IntWalk.i64_in _ (by omega)
  have q3 : IntKind.i64.wrap ((used : Int) + (((k + 511) / 512 : Nat) : Int)) = ((used + (k + 511) / 512 : Nat) : Int) := by rw [IntWalk.i64_in _ (by omega)]; omega
  have Q1 := Lib.hid q1
  have Q2 := Lib.hid q2
  have Q3 := Lib.hid q3
  clear q1 q2 q3
  go_enter Try.func25, Try.ntmps25
  go_wp2_with (first
    | (go_at_call 46; refine (made_yes F cap hc0 _ (by assumption)).mono ?_; rintro e w' ⟨rfl, rfl⟩)
    | (at_lookup; refine wpList_look_raw _ rfl _ _ 79 false rfl 9 78 Try.underlying79 N es clock rfl Hn.out _ rfl (ck9 _ _ _) none (Hf.out.run _) _ (zero78 _) (.pointer none) rfl ?_)
    | (go_at_call 57; refine (size_nil _).mono ?_; rintro e w' ⟨rfl, rfl⟩)
    | (go_at_call 48; refine (isName_ok s _ hs1 hs2 Hs.out).mono ?_; rintro e w' ⟨rfl, rfl⟩)
    | (go_at_call 44; refine (Hst.out _ rfl).mono ?_; rintro e w' ⟨rfl, n1, rfl⟩)
    | go_in)
  have q1 := Q1.out
  have q2 := Q2.out
  have q3 := Q3.out
  go_quiet ((first | (go_at_call 53; exact quiet_sum (sectors_zero _)) | (go_at_call 53; exact quiet_sum (sectors_any k (by omega) _))))
  clear q1 q2 q3
  have hd2 : (cap : Int) < (used : Int) + ((k : Int) + 511) / 512 := by omega
  go_wp2
  all_goals
    go_ret
    exact ⟨rfl, _, rfl⟩

end Go.Proofs.Ytdaipgeecmngfaa
