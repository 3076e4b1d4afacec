/- Texts in a row: Jb Na Nb. -/
import Derived.Test.YthcpmdgdbceeiaaGreatDoorZ7
import Derived.Test.YthcpmdgdbceeiaaGreatDoorZ17
import Derived.Test.YthcpmdgdbceeiaaGreatDoorZ10
import Derived.Test.YthcpmdgdbceeiaaGreatDoorZ11
import Derived.Test.YthcpmdgdbceeiaaGreatDoorZ16
import Derived.Outline
/- Tokens of a term, as the program judges them. -/
namespace Go.Proofs.YthcpmdgdbceeiaaGreatDoor
open Go.RowKit
set_option linter.unusedSimpArgs false
set_option linter.unusedVariables false
noncomputable def rB (k : Int) (s : ByteArray) (n : Int) : Bool := rightB ⟨k, s, n⟩
def bareB (p n : ByteArray) (N : Int) : Bool := (p.toList == []) && ((n.toList == []) && (N == 0))
noncomputable def qualB (kind : Int) (p n : ByteArray) (N : Int) : Bool := (N == 0) && (rB kind n 0 && ((p.toList == []) || rB 2 p 0))
noncomputable def namedB (kind : Int) (p n : ByteArray) (N : Int) : Bool := (p.toList == []) && qualB kind p n N
noncomputable def numB (p n : ByteArray) (N : Int) : Bool := (p.toList == []) && ((n.toList == []) && rB 4 ⟨#[]⟩ N)
/-- What a call answers: a boolean; what stood below stays. -/
def Ans (b : Bool) (w : World) (e : Ending) (w' : World) : Prop := e = .returned (.bool b) ∧ Below w.heap.size w w'
theorem Ans.eq {a b : Bool} {w : World} {e : Ending} {w' : World} (h : Ans a w e w') (he : a = b) : Ans b w e w' := he ▸ h
theorem isToken_any (k : Int) (s : ByteArray) (hs : s.size ≤ 1000000) (w : World) (hw : LxW w) : Calls Tryz.prog 57 #[.int .i64 k, .string s] w (Ans (rB k s 0) w) := by
  have HR := Lib.hid (right_any ⟨k, s, 0⟩ 0 hs (by unfold Fits; simp) w hw)
  have HR2 : RowKit.Hid (Calls Tryz.prog 58 #[.agg #[.int .i64 k, .string s, .int .i64 0, .int .i64 0]] w fun e w' => e = .returned (.bool (rB k s 0)) ∧ Below w.heap.size w w') := HR
  clear HR
  go_enter Tryz.func57, Tryz.ntmps57
  go_wp2_with (go_at_call 58; ((with_reducible refine HR2.out.mono ?_); rintro e w1 ⟨rfl, hb⟩))
  go_ret
  exact ⟨rfl, hb⟩
theorem LxW.under {w w' : World} {n : Nat} (h : LxW w) (hn : n = w.heap.size) (hb : Below n w w') : LxW w' := h.below (hn ▸ hb)
theorem bare_any (k : Int) (p n : ByteArray) (N : Int) (q : Option Addr) (l c : Nat) (w : World) : Calls Tryz.prog 33 #[tv k p n N (.slice q l c)] w (Ans (bareB p n N) w) := by
  unfold bareB
  cases hp : (p.toList == []) <;> cases hn : (n.toList == [])
  all_goals
    go_enter Tryz.func33, Tryz.ntmps33
    go_wp2
    go_ret
    exact ⟨rfl, below_alloc w _⟩
set_option maxHeartbeats 1000000 in
theorem isNumber_any (k : Int) (p n : ByteArray) (N : Int) (hN : Fits ⟨4, ⟨#[]⟩, N⟩) (q : Option Addr) (l c : Nat) (w : World) (hw : LxW w) : Calls Tryz.prog 40 #[tv k p n N (.slice q l c)] w (Ans (numB p n N) w) := by
  unfold numB
  have HR2 : RowKit.Hid (∀ W, LxW W → Calls Tryz.prog 58 #[.agg #[.int .i64 4, .string ⟨#[]⟩, .int .i64 N, .int .i64 0]] W fun e w' => e = .returned (.bool (rB 4 ⟨#[]⟩ N)) ∧ Below W.heap.size W w') := Lib.hid fun W hW => right_any ⟨4, ⟨#[]⟩, N⟩ 0 (Nat.zero_le _) hN W hW
  have HW := Lib.hid hw
  clear hw hN
  cases hp : (p.toList == []) <;> cases hn : (n.toList == [])
  all_goals
    go_enter Tryz.func40, Tryz.ntmps40
    go_wp2_with (go_at_call 58; ((with_reducible refine (HR2.out _ (HW.out.under rfl (below_alloc _ _))).mono ?_); rintro e w1 ⟨rfl, hb⟩))
    go_ret
    first
    | exact ⟨rfl, below_alloc w _⟩
    | exact ⟨rfl, (below_alloc w _).trans (hb.mono (by simp))⟩
set_option maxHeartbeats 1000000 in
theorem qualified_any (kind k : Int) (p n : ByteArray) (N : Int) (hp' : p.size ≤ 1000000) (hn' : n.size ≤ 1000000) (q : Option Addr) (l c : Nat) (w : World) (hw : LxW w) : Calls Tryz.prog 31 #[tv k p n N (.slice q l c), .int .i64 kind] w (Ans (qualB kind p n N) w) := by
  unfold qualB
  have HT := Lib.hid (fun W hW => isToken_any kind n hn' W hW)
  have HP := Lib.hid (fun W hW => isToken_any 2 p hp' W hW)
  have HW := Lib.hid hw
  clear hw hp' hn'
  generalize rB kind n 0 = b1 at *
  generalize rB 2 p 0 = b2 at *
  cases hN : (N == 0)
  · go_enter Tryz.func31, Tryz.ntmps31
    go_wp2
    go_ret
    exact ⟨rfl, below_alloc w _⟩
  cases b1
  · go_enter Tryz.func31, Tryz.ntmps31
    go_wp2_with (go_at_call 57; ((with_reducible refine (HT.out _ (HW.out.under rfl (below_alloc _ _))).mono ?_); rintro e w1 ⟨rfl, hb⟩; obtain ⟨hc, hf⟩ := bcell hb; have z1 := hb.size; rw [World.size_alloc] at z1; have y1 : w.heap.size < w1.heap.size := (by omega)))
    go_ret
    exact ⟨rfl, (below_alloc w _).trans (hb.mono (by simp))⟩
  cases hp : (p.toList == [])
  · go_enter Tryz.func31, Tryz.ntmps31
    go_wp2_with (first
      | (go_at_call 57; ((with_reducible refine (HT.out _ (HW.out.under rfl (below_alloc _ _))).mono ?_); rintro e w1 ⟨rfl, hb⟩; have HB := Lib.hid hb; obtain ⟨hc, hf⟩ := bcell hb; have z1 := hb.size; rw [World.size_alloc] at z1; have y1 : w.heap.size < w1.heap.size := (by omega); clear hb))
      | (go_at_call 57; ((with_reducible refine (HP.out _ ((HW.out.under rfl (below_alloc _ _)).under rfl HB.out)).mono ?_); rintro e w2 ⟨rfl, hb⟩)))
    go_ret
    exact ⟨rfl, (below_alloc w _).trans ((HB.out.trans (hb.mono HB.out.size)).mono (by simp))⟩
  · go_enter Tryz.func31, Tryz.ntmps31
    go_wp2_with (go_at_call 57; ((with_reducible refine (HT.out _ (HW.out.under rfl (below_alloc _ _))).mono ?_); rintro e w1 ⟨rfl, hb⟩; obtain ⟨hc, hf⟩ := bcell hb; have z1 := hb.size; rw [World.size_alloc] at z1; have y1 : w.heap.size < w1.heap.size := (by omega)))
    go_ret
    exact ⟨rfl, (below_alloc w _).trans (hb.mono (by simp))⟩
theorem named_any (kind k : Int) (p n : ByteArray) (N : Int) (hp' : p.size ≤ 1000000) (hn' : n.size ≤ 1000000) (q : Option Addr) (l c : Nat) (w : World) (hw : LxW w) : Calls Tryz.prog 29 #[tv k p n N (.slice q l c), .int .i64 kind] w (Ans (namedB kind p n N) w) := by
  unfold namedB
  have HT := Lib.hid (fun W hW => qualified_any kind k p n N hp' hn' q l c W hW)
  have HW := Lib.hid hw
  clear hw hp' hn'
  generalize qualB kind p n N = b1 at *
  cases hp : (p.toList == [])
  all_goals
    go_enter Tryz.func29, Tryz.ntmps29
    go_wp2_with (go_at_call 31; ((with_reducible refine (HT.out _ (HW.out.under rfl (below_alloc _ _))).mono ?_); rintro e w1 ⟨rfl, hb⟩))
    go_ret
    first
    | exact ⟨rfl, below_alloc w _⟩
    | exact ⟨rfl, (below_alloc w _).trans (hb.mono (by simp))⟩
end Go.Proofs.YthcpmdgdbceeiaaGreatDoor
/- The document's letters, digits, runs of them. -/
namespace Go.Proofs.YthcpmdgdbceeiaaGreatDoor
open Go.RowKit
set_option linter.unusedSimpArgs false
set_option linter.unusedVariables false
theorem smD_any (c : UInt8) (w : World) : Calls Tryz.prog 87 #[.int .u8 (c.toNat : Nat)] w fun e w' => e = .returned (.bool (smB c)) ∧ w = w' := by
  have hc : c.toNat < 256 := c.toNat_lt
  have hp : smB c = (decide (97 ≤ c.toNat) && decide (c.toNat ≤ 122)) := rfl
  rw [hp]
  clear hp
  generalize c.toNat = n at *
  by_cases h1 : 97 ≤ n
  · have d1 : decide ((97 : Int) ≤ (n : Int)) = true := by simp; omega
    have e1 : decide (97 ≤ n) = true := by simpa using h1
    by_cases h2 : n ≤ 122
    · have d2 : decide ((n : Int) ≤ 122) = true := by simp; omega
      have e2 : decide (n ≤ 122) = true := by simpa using h2
      rw [e1, e2]
      clear e1 e2
      go_enter Tryz.func87, Tryz.ntmps87
      go_wp2
      go_ret
      exact ⟨rfl, rfl⟩
    · have d2 : decide ((n : Int) ≤ 122) = false := by simp; omega
      have e2 : decide (n ≤ 122) = false := by simpa using h2
      rw [e1, e2]
      clear e1 e2
      go_enter Tryz.func87, Tryz.ntmps87
      go_wp2
      go_ret
      exact ⟨rfl, rfl⟩
  · have d1 : decide ((97 : Int) ≤ (n : Int)) = false := by simp; omega
    have e1 : decide (97 ≤ n) = false := by simpa using h1
    rw [e1, Bool.false_and]
    clear e1
    go_enter Tryz.func87, Tryz.ntmps87
    go_wp2
    go_ret
    exact ⟨rfl, rfl⟩
theorem grD_any (c : UInt8) (w : World) : Calls Tryz.prog 88 #[.int .u8 (c.toNat : Nat)] w fun e w' => e = .returned (.bool (grB c)) ∧ w = w' := by
  have hc : c.toNat < 256 := c.toNat_lt
  have hp : grB c = (decide (65 ≤ c.toNat) && decide (c.toNat ≤ 90)) := rfl
  rw [hp]
  clear hp
  generalize c.toNat = n at *
  by_cases h1 : 65 ≤ n
  · have d1 : decide ((65 : Int) ≤ (n : Int)) = true := by simp; omega
    have e1 : decide (65 ≤ n) = true := by simpa using h1
    by_cases h2 : n ≤ 90
    · have d2 : decide ((n : Int) ≤ 90) = true := by simp; omega
      have e2 : decide (n ≤ 90) = true := by simpa using h2
      rw [e1, e2]
      clear e1 e2
      go_enter Tryz.func88, Tryz.ntmps88
      go_wp2
      go_ret
      exact ⟨rfl, rfl⟩
    · have d2 : decide ((n : Int) ≤ 90) = false := by simp; omega
      have e2 : decide (n ≤ 90) = false := by simpa using h2
      rw [e1, e2]
      clear e1 e2
      go_enter Tryz.func88, Tryz.ntmps88
      go_wp2
      go_ret
      exact ⟨rfl, rfl⟩
  · have d1 : decide ((65 : Int) ≤ (n : Int)) = false := by simp; omega
    have e1 : decide (65 ≤ n) = false := by simpa using h1
    rw [e1, Bool.false_and]
    clear e1
    go_enter Tryz.func88, Tryz.ntmps88
    go_wp2
    go_ret
    exact ⟨rfl, rfl⟩
theorem digD_any (c : UInt8) (w : World) : Calls Tryz.prog 92 #[.int .u8 (c.toNat : Nat)] w fun e w' => e = .returned (.bool (dgB c)) ∧ w = w' := by
  have hc : c.toNat < 256 := c.toNat_lt
  have hp : dgB c = (decide (48 ≤ c.toNat) && decide (c.toNat ≤ 57)) := rfl
  rw [hp]
  clear hp
  generalize c.toNat = n at *
  by_cases h1 : 48 ≤ n
  · have d1 : decide ((48 : Int) ≤ (n : Int)) = true := by simp; omega
    have e1 : decide (48 ≤ n) = true := by simpa using h1
    by_cases h2 : n ≤ 57
    · have d2 : decide ((n : Int) ≤ 57) = true := by simp; omega
      have e2 : decide (n ≤ 57) = true := by simpa using h2
      rw [e1, e2]
      clear e1 e2
      go_enter Tryz.func92, Tryz.ntmps92
      go_wp2
      go_ret
      exact ⟨rfl, rfl⟩
    · have d2 : decide ((n : Int) ≤ 57) = false := by simp; omega
      have e2 : decide (n ≤ 57) = false := by simpa using h2
      rw [e1, e2]
      clear e1 e2
      go_enter Tryz.func92, Tryz.ntmps92
      go_wp2
      go_ret
      exact ⟨rfl, rfl⟩
  · have d1 : decide ((48 : Int) ≤ (n : Int)) = false := by simp; omega
    have e1 : decide (48 ≤ n) = false := by simpa using h1
    rw [e1, Bool.false_and]
    clear e1
    go_enter Tryz.func92, Tryz.ntmps92
    go_wp2
    go_ret
    exact ⟨rfl, rfl⟩
set_option maxHeartbeats 4000000 in
set_option maxRecDepth 100000 in
theorem digits_any (s : ByteArray) (hm : s.size ≤ 4194304) (i : Nat) (hi : i ≤ s.size) (w : World) : Calls Tryz.prog 94 #[.string s, .int .i64 i] w fun e w' => e = .returned (.int .i64 (cnt dgB (s.data.toList.drop i) : Nat)) ∧ w = w' := by
  go_enter Tryz.func94, Tryz.ntmps94
  go_wp2
  go_loop [5] (fun n => ∃ k : Nat, i + k ≤ s.size ∧ n = .int .i64 k ∧ ∀ j c, j < k → (s.data.toList.drop i)[j]? = some c → dgB c = true) (fun n => s.size - (intOf n).toNat)
  case atStart => exact ⟨0, hi, rfl, fun j c h => absurd h (by omega)⟩
  case round =>
    obtain ⟨k, hk, rfl, hp⟩ := hrel
    have HP := Lib.hid hp
    clear hp
    by_cases hlt : i + k < s.size
    · have HX := Lib.hid (at_list s (i + k) hlt)
      have hki : (i : Int) + (k : Int) < (s.size : Int) := by omega
      have HC := Lib.hid (fun w => digD_any s[i + k] w)
      cases hb : dgB s[i + k]
      · have HB := Lib.hid hb
        clear hb
        go_wp2_with (go_at_call 92; refine (HC.out _).mono ?_; rintro e w' ⟨rfl, rfl⟩; rw [HB.out])
        go_ret
        exact ⟨ret_int (by rw [cnt_stop (j := k) HP.out (fun c hc => by rw [List.getElem?_drop, HX.out] at hc; cases hc; exact HB.out) (by rw [List.length_drop, len_list]; omega)]), rfl⟩
      · have HB := Lib.hid hb
        clear hb
        go_wp2_with (go_at_call 92; refine (HC.out _).mono ?_; rintro e w' ⟨rfl, rfl⟩; rw [HB.out])
        go_round
        case rel =>
          refine ⟨k + 1, by omega, by go_num, fun j c hj hc => ?_⟩
          by_cases h : j < k
          · exact HP.out j c h hc
          · obtain rfl : j = k := by omega
            rw [List.getElem?_drop, HX.out] at hc
            cases hc
            exact HB.out
        case measure => simp [intOf]; omega
    · have hki : ¬ (i : Int) + (k : Int) < (s.size : Int) := by omega
      go_wp2
      go_ret
      exact ⟨ret_int (by rw [cnt_stop (j := k) HP.out (fun c hc => by have := (List.getElem?_eq_some_iff.1 hc).1; rw [List.length_drop, len_list] at this; omega) (by rw [List.length_drop, len_list]; omega)]), rfl⟩
/-- Names' bytes, apart. -/
theorem bytes_far' (c : UInt8) : (smB c = true → grB c = false ∧ dgB c = false ∧ nmB c = true ∧ vrB c = true) ∧ (grB c = true → dgB c = false ∧ nmB c = true ∧ vrB c = true) ∧ (dgB c = true → nmB c = true ∧ vrB c = true) ∧ True := by
  refine ⟨fun h => ?_, fun h => ?_, fun h => ?_, trivial⟩
  · have h' := h
    unfold smB at h
    simp at h
    exact ⟨by unfold grB; simp; omega, by unfold dgB; simp; omega, by unfold nmB; rw [h']; rfl, by unfold vrB nmB; rw [h']; simp; omega⟩
  · have h' := h
    unfold grB at h
    simp at h
    exact ⟨by unfold dgB; simp; omega, by unfold nmB; rw [h']; simp, by unfold vrB nmB; rw [h']; simp; omega⟩
  · have h' := h
    unfold dgB at h
    simp at h
    exact ⟨by unfold nmB; rw [h']; simp, by unfold vrB nmB; rw [h']; simp; omega⟩
set_option maxHeartbeats 8000000 in
set_option maxRecDepth 100000 in
theorem namedQ_any (s : ByteArray) (hm : s.size ≤ 4194304) (i : Nat) (hi : i ≤ s.size) (w : World) : Calls Tryz.prog 89 #[.string s, .int .i64 i, .bool true] w fun e w' => e = .returned (.int .i64 (cnt nmB (s.data.toList.drop i) : Nat)) ∧ w = w' := by
  go_enter Tryz.func89, Tryz.ntmps89
  go_wp2
  go_loop [7] (fun n => ∃ k : Nat, i + k ≤ s.size ∧ n = .int .i64 k ∧ ∀ j c, j < k → (s.data.toList.drop i)[j]? = some c → nmB c = true) (fun n => s.size - (intOf n).toNat)
  case atStart => exact ⟨0, hi, rfl, fun j c h => absurd h (by omega)⟩
  case round =>
    obtain ⟨k, hk, rfl, hp⟩ := hrel
    have HP := Lib.hid hp
    clear hp
    by_cases hlt : i + k < s.size
    · have HX := Lib.hid (at_list s (i + k) hlt)
      have hki : (i : Int) + (k : Int) < (s.size : Int) := by omega
      have HS := Lib.hid (fun w => smD_any s[i + k] w)
      have HG := Lib.hid (fun w => grD_any s[i + k] w)
      have HD := Lib.hid (fun w => digD_any s[i + k] w)
      have hfar := bytes_far' s[i + k]
      rcases (Bool.eq_false_or_eq_true (smB s[i + k])) with hs | hs
      · have HSB := Lib.hid hs
        have HGB := Lib.hid (hfar.1 hs).1
        have HDB := Lib.hid (hfar.1 hs).2.1
        have HB : RowKit.Hid (nmB s[i + k] = true) := Lib.hid ((hfar.1 hs).2.2.1)
        clear hs hfar
        go_wp2_with (first
          | (go_at_call 87; refine (HS.out _).mono ?_; rintro e w' ⟨rfl, rfl⟩; rw [HSB.out])
          | (go_at_call 88; refine (HG.out _).mono ?_; rintro e w' ⟨rfl, rfl⟩; rw [HGB.out])
          | (go_at_call 92; refine (HD.out _).mono ?_; rintro e w' ⟨rfl, rfl⟩; rw [HDB.out]))
        go_round
        case rel =>
          refine ⟨k + 1, by omega, by go_num, fun j c hj hc => ?_⟩
          by_cases h : j < k
          · exact HP.out j c h hc
          · obtain rfl : j = k := by omega
            rw [List.getElem?_drop, HX.out] at hc
            cases hc
            exact HB.out
        case measure => simp [intOf]; omega
      rcases (Bool.eq_false_or_eq_true (grB s[i + k])) with hg | hg
      · have HSB := Lib.hid hs
        have HGB := Lib.hid hg
        have HDB := Lib.hid (hfar.2.1 hg).1
        have HB : RowKit.Hid (nmB s[i + k] = true) := Lib.hid ((hfar.2.1 hg).2.1)
        clear hs hg hfar
        go_wp2_with (first
          | (go_at_call 87; refine (HS.out _).mono ?_; rintro e w' ⟨rfl, rfl⟩; rw [HSB.out])
          | (go_at_call 88; refine (HG.out _).mono ?_; rintro e w' ⟨rfl, rfl⟩; rw [HGB.out])
          | (go_at_call 92; refine (HD.out _).mono ?_; rintro e w' ⟨rfl, rfl⟩; rw [HDB.out]))
        go_round
        case rel =>
          refine ⟨k + 1, by omega, by go_num, fun j c hj hc => ?_⟩
          by_cases h : j < k
          · exact HP.out j c h hc
          · obtain rfl : j = k := by omega
            rw [List.getElem?_drop, HX.out] at hc
            cases hc
            exact HB.out
        case measure => simp [intOf]; omega
      rcases (Bool.eq_false_or_eq_true (dgB s[i + k])) with hd | hd
      · have HSB := Lib.hid hs
        have HGB := Lib.hid hg
        have HDB := Lib.hid hd
        have HB : RowKit.Hid (nmB s[i + k] = true) := Lib.hid ((hfar.2.2.1 hd).1)
        clear hs hg hd hfar
        go_wp2_with (first
          | (go_at_call 87; refine (HS.out _).mono ?_; rintro e w' ⟨rfl, rfl⟩; rw [HSB.out])
          | (go_at_call 88; refine (HG.out _).mono ?_; rintro e w' ⟨rfl, rfl⟩; rw [HGB.out])
          | (go_at_call 92; refine (HD.out _).mono ?_; rintro e w' ⟨rfl, rfl⟩; rw [HDB.out]))
        go_round
        case rel =>
          refine ⟨k + 1, by omega, by go_num, fun j c hj hc => ?_⟩
          by_cases h : j < k
          · exact HP.out j c h hc
          · obtain rfl : j = k := by omega
            rw [List.getElem?_drop, HX.out] at hc
            cases hc
            exact HB.out
        case measure => simp [intOf]; omega
      have HSB := Lib.hid hs
      have HGB := Lib.hid hg
      have HDB := Lib.hid hd
      by_cases h95 : s[i + k].toNat = 95
      · have d95 : ((s[i + k].toNat : Int) == 95) = true := by rw [h95]; rfl
        have HB : RowKit.Hid (nmB s[i + k] = true) := Lib.hid (by unfold nmB; rw [h95]; simp)
        clear hs hg hd hfar h95
        go_wp2_with (first
          | (go_at_call 87; refine (HS.out _).mono ?_; rintro e w' ⟨rfl, rfl⟩; rw [HSB.out])
          | (go_at_call 88; refine (HG.out _).mono ?_; rintro e w' ⟨rfl, rfl⟩; rw [HGB.out])
          | (go_at_call 92; refine (HD.out _).mono ?_; rintro e w' ⟨rfl, rfl⟩; rw [HDB.out]))
        go_round
        case rel =>
          refine ⟨k + 1, by omega, by go_num, fun j c hj hc => ?_⟩
          by_cases h : j < k
          · exact HP.out j c h hc
          · obtain rfl : j = k := by omega
            rw [List.getElem?_drop, HX.out] at hc
            cases hc
            exact HB.out
        case measure => simp [intOf]; omega
      have d95 : ((s[i + k].toNat : Int) == 95) = false := by rw [beq_eq_false_iff_ne]; omega
      by_cases h39 : s[i + k].toNat = 39
      · have d39 : ((s[i + k].toNat : Int) == 39) = true := by rw [h39]; rfl
        have HB : RowKit.Hid (nmB s[i + k] = true) := Lib.hid (by unfold nmB; rw [h39]; simp)
        clear hs hg hd hfar h95 h39
        go_wp2_with (first
          | (go_at_call 87; refine (HS.out _).mono ?_; rintro e w' ⟨rfl, rfl⟩; rw [HSB.out])
          | (go_at_call 88; refine (HG.out _).mono ?_; rintro e w' ⟨rfl, rfl⟩; rw [HGB.out])
          | (go_at_call 92; refine (HD.out _).mono ?_; rintro e w' ⟨rfl, rfl⟩; rw [HDB.out]))
        go_round
        case rel =>
          refine ⟨k + 1, by omega, by go_num, fun j c hj hc => ?_⟩
          by_cases h : j < k
          · exact HP.out j c h hc
          · obtain rfl : j = k := by omega
            rw [List.getElem?_drop, HX.out] at hc
            cases hc
            exact HB.out
        case measure => simp [intOf]; omega
      have d39 : ((s[i + k].toNat : Int) == 39) = false := by rw [beq_eq_false_iff_ne]; omega
      have HB : RowKit.Hid (nmB s[i + k] = false) := Lib.hid (by unfold nmB; rw [hs, hg, hd]; simp [h95, h39])
      clear hs hg hd hfar h95 h39
      go_wp2_with (first
        | (go_at_call 87; refine (HS.out _).mono ?_; rintro e w' ⟨rfl, rfl⟩; rw [HSB.out])
        | (go_at_call 88; refine (HG.out _).mono ?_; rintro e w' ⟨rfl, rfl⟩; rw [HGB.out])
        | (go_at_call 92; refine (HD.out _).mono ?_; rintro e w' ⟨rfl, rfl⟩; rw [HDB.out]))
      go_ret
      exact ⟨ret_int (by rw [cnt_stop (j := k) HP.out (fun c hc => by rw [List.getElem?_drop, HX.out] at hc; cases hc; exact HB.out) (by rw [List.length_drop, len_list]; omega)]), rfl⟩
    · have hki : ¬ (i : Int) + (k : Int) < (s.size : Int) := by omega
      go_wp2
      go_ret
      exact ⟨ret_int (by rw [cnt_stop (j := k) HP.out (fun c hc => by have := (List.getElem?_eq_some_iff.1 hc).1; rw [List.length_drop, len_list] at this; omega) (by rw [List.length_drop, len_list]; omega)]), rfl⟩
set_option maxHeartbeats 8000000 in
set_option maxRecDepth 100000 in
theorem namedN_any (s : ByteArray) (hm : s.size ≤ 4194304) (i : Nat) (hi : i ≤ s.size) (w : World) : Calls Tryz.prog 89 #[.string s, .int .i64 i, .bool false] w fun e w' => e = .returned (.int .i64 (cnt vrB (s.data.toList.drop i) : Nat)) ∧ w = w' := by
  go_enter Tryz.func89, Tryz.ntmps89
  go_wp2
  go_loop [7] (fun n => ∃ k : Nat, i + k ≤ s.size ∧ n = .int .i64 k ∧ ∀ j c, j < k → (s.data.toList.drop i)[j]? = some c → vrB c = true) (fun n => s.size - (intOf n).toNat)
  case atStart => exact ⟨0, hi, rfl, fun j c h => absurd h (by omega)⟩
  case round =>
    obtain ⟨k, hk, rfl, hp⟩ := hrel
    have HP := Lib.hid hp
    clear hp
    by_cases hlt : i + k < s.size
    · have HX := Lib.hid (at_list s (i + k) hlt)
      have hki : (i : Int) + (k : Int) < (s.size : Int) := by omega
      have HS := Lib.hid (fun w => smD_any s[i + k] w)
      have HG := Lib.hid (fun w => grD_any s[i + k] w)
      have HD := Lib.hid (fun w => digD_any s[i + k] w)
      have hfar := bytes_far' s[i + k]
      rcases (Bool.eq_false_or_eq_true (smB s[i + k])) with hs | hs
      · have HSB := Lib.hid hs
        have HGB := Lib.hid (hfar.1 hs).1
        have HDB := Lib.hid (hfar.1 hs).2.1
        have HB : RowKit.Hid (vrB s[i + k] = true) := Lib.hid ((hfar.1 hs).2.2.2)
        clear hs hfar
        go_wp2_with (first
          | (go_at_call 87; refine (HS.out _).mono ?_; rintro e w' ⟨rfl, rfl⟩; rw [HSB.out])
          | (go_at_call 88; refine (HG.out _).mono ?_; rintro e w' ⟨rfl, rfl⟩; rw [HGB.out])
          | (go_at_call 92; refine (HD.out _).mono ?_; rintro e w' ⟨rfl, rfl⟩; rw [HDB.out]))
        go_round
        case rel =>
          refine ⟨k + 1, by omega, by go_num, fun j c hj hc => ?_⟩
          by_cases h : j < k
          · exact HP.out j c h hc
          · obtain rfl : j = k := by omega
            rw [List.getElem?_drop, HX.out] at hc
            cases hc
            exact HB.out
        case measure => simp [intOf]; omega
      rcases (Bool.eq_false_or_eq_true (grB s[i + k])) with hg | hg
      · have HSB := Lib.hid hs
        have HGB := Lib.hid hg
        have HDB := Lib.hid (hfar.2.1 hg).1
        have HB : RowKit.Hid (vrB s[i + k] = true) := Lib.hid ((hfar.2.1 hg).2.2)
        clear hs hg hfar
        go_wp2_with (first
          | (go_at_call 87; refine (HS.out _).mono ?_; rintro e w' ⟨rfl, rfl⟩; rw [HSB.out])
          | (go_at_call 88; refine (HG.out _).mono ?_; rintro e w' ⟨rfl, rfl⟩; rw [HGB.out])
          | (go_at_call 92; refine (HD.out _).mono ?_; rintro e w' ⟨rfl, rfl⟩; rw [HDB.out]))
        go_round
        case rel =>
          refine ⟨k + 1, by omega, by go_num, fun j c hj hc => ?_⟩
          by_cases h : j < k
          · exact HP.out j c h hc
          · obtain rfl : j = k := by omega
            rw [List.getElem?_drop, HX.out] at hc
            cases hc
            exact HB.out
        case measure => simp [intOf]; omega
      rcases (Bool.eq_false_or_eq_true (dgB s[i + k])) with hd | hd
      · have HSB := Lib.hid hs
        have HGB := Lib.hid hg
        have HDB := Lib.hid hd
        have HB : RowKit.Hid (vrB s[i + k] = true) := Lib.hid ((hfar.2.2.1 hd).2)
        clear hs hg hd hfar
        go_wp2_with (first
          | (go_at_call 87; refine (HS.out _).mono ?_; rintro e w' ⟨rfl, rfl⟩; rw [HSB.out])
          | (go_at_call 88; refine (HG.out _).mono ?_; rintro e w' ⟨rfl, rfl⟩; rw [HGB.out])
          | (go_at_call 92; refine (HD.out _).mono ?_; rintro e w' ⟨rfl, rfl⟩; rw [HDB.out]))
        go_round
        case rel =>
          refine ⟨k + 1, by omega, by go_num, fun j c hj hc => ?_⟩
          by_cases h : j < k
          · exact HP.out j c h hc
          · obtain rfl : j = k := by omega
            rw [List.getElem?_drop, HX.out] at hc
            cases hc
            exact HB.out
        case measure => simp [intOf]; omega
      have HSB := Lib.hid hs
      have HGB := Lib.hid hg
      have HDB := Lib.hid hd
      by_cases h95 : s[i + k].toNat = 95
      · have d95 : ((s[i + k].toNat : Int) == 95) = true := by rw [h95]; rfl
        have HB : RowKit.Hid (vrB s[i + k] = true) := Lib.hid (by unfold vrB nmB; rw [h95]; simp)
        clear hs hg hd hfar h95
        go_wp2_with (first
          | (go_at_call 87; refine (HS.out _).mono ?_; rintro e w' ⟨rfl, rfl⟩; rw [HSB.out])
          | (go_at_call 88; refine (HG.out _).mono ?_; rintro e w' ⟨rfl, rfl⟩; rw [HGB.out])
          | (go_at_call 92; refine (HD.out _).mono ?_; rintro e w' ⟨rfl, rfl⟩; rw [HDB.out]))
        go_round
        case rel =>
          refine ⟨k + 1, by omega, by go_num, fun j c hj hc => ?_⟩
          by_cases h : j < k
          · exact HP.out j c h hc
          · obtain rfl : j = k := by omega
            rw [List.getElem?_drop, HX.out] at hc
            cases hc
            exact HB.out
        case measure => simp [intOf]; omega
      have d95 : ((s[i + k].toNat : Int) == 95) = false := by rw [beq_eq_false_iff_ne]; omega
      have HB : RowKit.Hid (vrB s[i + k] = false) := Lib.hid (by unfold vrB nmB; rw [hs, hg, hd]; simp [h95])
      clear hs hg hd hfar h95
      go_wp2_with (first
        | (go_at_call 87; refine (HS.out _).mono ?_; rintro e w' ⟨rfl, rfl⟩; rw [HSB.out])
        | (go_at_call 88; refine (HG.out _).mono ?_; rintro e w' ⟨rfl, rfl⟩; rw [HGB.out])
        | (go_at_call 92; refine (HD.out _).mono ?_; rintro e w' ⟨rfl, rfl⟩; rw [HDB.out]))
      go_ret
      exact ⟨ret_int (by rw [cnt_stop (j := k) HP.out (fun c hc => by rw [List.getElem?_drop, HX.out] at hc; cases hc; exact HB.out) (by rw [List.length_drop, len_list]; omega)]), rfl⟩
    · have hki : ¬ (i : Int) + (k : Int) < (s.size : Int) := by omega
      go_wp2
      go_ret
      exact ⟨ret_int (by rw [cnt_stop (j := k) HP.out (fun c hc => by have := (List.getElem?_eq_some_iff.1 hc).1; rw [List.length_drop, len_list] at this; omega) (by rw [List.length_drop, len_list]; omega)]), rfl⟩
end Go.Proofs.YthcpmdgdbceeiaaGreatDoor
/- The document's number and Parse; where a number ends. -/
namespace Go.Proofs.YthcpmdgdbceeiaaGreatDoor
open Go.RowKit
set_option linter.unusedSimpArgs false
set_option linter.unusedVariables false
namespace Sv
theorem head_at {l : List UInt8} (h : 0 < l.length) : l.head? = some l[0] := by rw [List.head?_eq_getElem?, List.getElem?_eq_getElem h]
end Sv
theorem data_len (s : ByteArray) : s.data.toList.length = s.size := by simp
theorem data_at (s : ByteArray) (k : Nat) (h : k < s.size) (h2 : k < s.data.toList.length) : s.data.toList[k] = s[k] := by simp; rfl
theorem nonempty {s : ByteArray} (h : 0 < s.size) : s.toList.isEmpty = false := by
  rw [ByteArray.toList_eq]
  cases h : s.data.toList with
  | nil => have : s.size = 0 := by rw [← ByteArray.size_data, ← Array.length_toList, h]; rfl
           omega
  | cons a l => rfl
theorem empty_of {s : ByteArray} (h : s.size = 0) : s = ⟨#[]⟩ := by
  cases s with
  | mk d => congr 1; exact Array.eq_empty_of_size_eq_zero h
namespace Sv
def run (D : List UInt8) : List UInt8 := D.takeWhile isDig
def NumR (D : List UInt8) : Prop := run D ≠ [] ∧ (run D).length ≤ 6 ∧ ¬ (D.head? = some 48 ∧ 1 < (run D).length)
instance (D : List UInt8) : Decidable (NumR D) := by unfold NumR; exact inferInstance
def rv (D : List UInt8) : Int := if NumR D then (val (run D) : Nat) else 0
def rp (i : Nat) (D : List UInt8) : Int := if NumR D then ((i + (run D).length : Nat) : Int) else -1
theorem r_no {D : List UInt8} (h : ¬ NumR D) (i : Nat) : rv D = 0 ∧ rp i D = -1 := by unfold rv rp; rw [if_neg h, if_neg h]; exact ⟨rfl, rfl⟩
theorem r_yes {D : List UInt8} (h : NumR D) (i : Nat) : rv D = (val (run D) : Nat) ∧ rp i D = ((i + (run D).length : Nat) : Int) := by unfold rv rp; rw [if_pos h, if_pos h]; exact ⟨rfl, rfl⟩
theorem run_eq {D : List UInt8} {j : Nat} (h : ∀ c ∈ D.take j, isDig c = true) (hj : j = D.length ∨ ∃ h : j < D.length, isDig D[j] = false) : run D = D.take j := by
  unfold run
  have e : D = D.take j ++ D.drop j := (List.take_append_drop j D).symm
  conv => lhs; rw [e]
  rw [List.takeWhile_append_of_pos h]
  have e2 : (D.drop j).takeWhile isDig = [] := by
    rcases hj with rfl | ⟨hl, hd⟩
    · simp
    · rw [List.drop_eq_getElem_cons hl, List.takeWhile_cons, hd]; rfl
  rw [e2, List.append_nil]
theorem run_ge {D : List UInt8} {j : Nat} (h : ∀ c ∈ D.take j, isDig c = true) (hj : j ≤ D.length) : j ≤ (run D).length := by
  unfold run
  have e : D = D.take j ++ D.drop j := (List.take_append_drop j D).symm
  conv => rhs; rw [e]
  rw [List.takeWhile_append_of_pos h, List.length_append, List.length_take]
  omega
theorem foldl_lt (l : List UInt8) (h : ∀ c ∈ l, isDig c = true) : ∀ a, l.foldl (fun n c => 10 * n + (c.toNat - 48)) a + 1 ≤ (a + 1) * 10 ^ l.length := by
  induction l with
  | nil => intro a; simp
  | cons c l ih =>
    intro a
    have h2 := isDig_yes (h c (by simp))
    have h1 := ih (fun x hx => h x (List.mem_cons_of_mem _ hx)) (10 * a + (c.toNat - 48))
    have h3 : (10 * a + (c.toNat - 48) + 1) * 10 ^ l.length ≤ ((a + 1) * 10) * 10 ^ l.length := Nat.mul_le_mul_right _ (by omega)
    rw [List.length_cons, Nat.pow_succ, Nat.mul_comm (10 ^ l.length) 10, ← Nat.mul_assoc]
    exact Nat.le_trans h1 h3
theorem val_lt (l : List UInt8) (h : ∀ c ∈ l, isDig c = true) : val l + 1 ≤ 10 ^ l.length := by
  have := foldl_lt l h 0
  simpa [val] using this
end Sv
abbrev nr (s : ByteArray) (i : Nat) : Value := .tuple #[.int .i64 (Sv.rv (s.data.toList.drop i)), .int .i64 (Sv.rp i (s.data.toList.drop i))]
set_option maxRecDepth 100000 in
set_option maxHeartbeats 4000000 in
theorem number_any (s : ByteArray) (i : Nat) (hi : i ≤ s.size) (hm : s.size ≤ 4194304) (w : World) : Calls Tryz.prog 134 #[.string s, .int .i64 i] w fun e w' => e = .returned (nr s i) ∧ w = w' := by
  have HL : RowKit.Hid ((s.data.toList.drop i).length = s.size - i) := Lib.hid (by simp)
  have HE : RowKit.Hid (∀ k (h : k < s.size) (h1 : i ≤ k) (h2 : k - i < (s.data.toList.drop i).length), (s.data.toList.drop i)[k - i] = s[k]) := Lib.hid (fun k h h1 h2 => by
    rw [List.getElem_drop]
    have e : i + (k - i) = k := by omega
    have hk : k < s.data.toList.length := by rw [data_len]; exact h
    rw [← data_at s k h hk]
    congr 1)
  have HN : RowKit.Hid (nr s i = .tuple #[.int .i64 (Sv.rv (s.data.toList.drop i)), .int .i64 (Sv.rp i (s.data.toList.drop i))]) := Lib.hid rfl
  generalize hD : s.data.toList.drop i = D at *
  generalize hnr : nr s i = NR at *
  clear hnr hD
  go_enter Tryz.func134, Tryz.ntmps134
  go_wp2
  go_loop [6, 7] (fun n q => ∃ k : Nat, i ≤ k ∧ k ≤ s.size ∧ k ≤ i + 7 ∧ q = .int .i64 k ∧ n = .int .i64 (Sv.val (D.take (k - i)) : Nat) ∧ (∀ c ∈ D.take (k - i), Sv.isDig c = true)) (fun _ q => s.size - (intOf q).toNat)
  case atStart => exact ⟨i, Nat.le_refl _, hi, by omega, rfl, by simp [Sv.val_nil], by simp⟩
  case round =>
    obtain ⟨k, hik, hk, hk7, rfl, rfl, hd⟩ := hrel
    have HD := Lib.hid hd
    clear hd
    have HVL : RowKit.Hid (Sv.val (D.take (k - i)) + 1 ≤ 10 ^ (k - i)) := Lib.hid (by
      have h := Sv.val_lt _ HD.out
      rw [List.length_take, HL.out, Nat.min_eq_left (by omega)] at h
      exact h)
    have HVB : RowKit.Hid (Sv.val (D.take (k - i)) < 10000000) := Lib.hid (by
      have h := HVL.out
      have h2 : 10 ^ (k - i) ≤ 10 ^ 7 := Nat.pow_le_pow_right (by omega) (by omega)
      omega)
    by_cases hlt : k < s.size
    · by_cases h7 : k < i + 7
      · have d2 : decide ((k : Int) < (i : Int) + 7) = true := by simp; omega
        have hcl : s[k].toNat < 256 := s[k].toNat_lt
        rcases Bool.eq_false_or_eq_true (Sv.isDig s[k]) with g | g
        · obtain ⟨g1, g2⟩ := Sv.isDig_yes g
          have G := Lib.hid g
          clear g
          have c1 : decide (48 ≤ (s[k].toNat : Int)) = true := by simp; omega
          have c2 : decide ((s[k].toNat : Int) ≤ 57) = true := by simp; omega
          have HT : RowKit.Hid (D.take (k + 1 - i) = D.take (k - i) ++ [s[k]]) := Lib.hid (by
            have hl : k - i < D.length := by rw [HL.out]; omega
            have e : k + 1 - i = (k - i) + 1 := by omega
            rw [e, Sv.take_snoc _ _ hl, HE.out k hlt hik hl])
          have HV : RowKit.Hid (Sv.val (D.take (k + 1 - i)) = 10 * Sv.val (D.take (k - i)) + (s[k].toNat - 48)) := Lib.hid (by rw [HT.out, Sv.val_snoc])
          have hvb := HVB.out
          generalize hvv : Sv.val (D.take (k - i)) = v at *
          clear hvv HVL HVB
          go_wp2
          go_round
          case rel =>
            refine ⟨k + 1, by omega, by omega, by omega, by go_num, ?_, ?_⟩
            · rw [HV.out]; congr 1; omega
            · intro c hc
              rw [HT.out] at hc
              rcases List.mem_append.1 hc with hc | hc
              · exact HD.out c hc
              · rw [List.mem_singleton.1 hc]; exact G.out
          case measure => simp [intOf]; omega
        · have HRUN : RowKit.Hid (Sv.run D = D.take (k - i)) := Lib.hid (Sv.run_eq HD.out (.inr ⟨by rw [HL.out]; omega, by rw [HE.out k hlt hik]; exact g⟩))
          rcases Sv.isDig_no g with g1 | ⟨g1, g2⟩
          · clear g
            have c1 : decide (48 ≤ (s[k].toNat : Int)) = false := by simp; omega
            have HRL : RowKit.Hid ((Sv.run D).length = k - i) := Lib.hid (by rw [HRUN.out, List.length_take, HL.out]; omega)
            have d6 : decide ((i : Int) + 6 < (k : Int)) = false := by simp; omega
            by_cases hki : k = i
            · have e0 : ((k : Int) == (i : Int)) = true := by simp; omega
              have HKI := Lib.hid hki
              clear hki
              go_wp2
              go_ret2
              have hno := Sv.r_no (D := D) (fun h => h.1 (List.length_eq_zero_iff.1 (by rw [HRL.out]; have := HKI.out; omega))) i
              exact ⟨by rw [HN.out, hno.1, hno.2]; rfl, rfl⟩
            · have e0 : ((k : Int) == (i : Int)) = false := by simp; omega
              have HKI := Lib.hid hki
              clear hki
              have HNE : RowKit.Hid (Sv.run D ≠ []) := Lib.hid (fun h => by have h2 := HRL.out; rw [h] at h2; simp at h2; have := HKI.out; omega)
              by_cases hk1 : k ≤ i + 1
              · have d1 : decide ((i : Int) + 1 < (k : Int)) = false := by simp; omega
                have HK1 := Lib.hid hk1
                clear hk1
                go_wp2
                go_ret2
                have hyes := Sv.r_yes (D := D) ⟨HNE.out, by rw [HRL.out]; have := HK1.out; omega, fun h => by have h2 := h.2; rw [HRL.out] at h2; have := HK1.out; omega⟩ i
                have hp : Sv.rp i D = (k : Int) := by rw [hyes.2, HRL.out]; omega
                have hv : Sv.rv D = (Sv.val (D.take (k - i)) : Nat) := by rw [hyes.1, HRUN.out]
                exact ⟨by rw [HN.out, hp, hv]; rfl, rfl⟩
              · have d1 : decide ((i : Int) + 1 < (k : Int)) = true := by simp; omega
                have HK1 := Lib.hid hk1
                have his : i < s.size := by omega
                have HH : RowKit.Hid (D.head? = some s[i]) := Lib.hid (by
                  have hl : 0 < D.length := by rw [HL.out]; omega
                  have h := HE.out i his (Nat.le_refl _) (by rw [HL.out]; omega)
                  rw [Sv.head_at hl, ← h]
                  congr 2
                  omega)
                clear hk1
                by_cases hz : s[i].toNat = 48
                · have e8 : ((s[i].toNat : Int) == 48) = true := by rw [hz]; rfl
                  have HZ := Lib.hid hz
                  clear hz
                  go_wp2
                  go_ret2
                  have hno := Sv.r_no (D := D) (fun h => h.2.2 ⟨by rw [HH.out]; congr 1; exact UInt8.toNat_inj.1 HZ.out, by rw [HRL.out]; have := HK1.out; omega⟩) i
                  exact ⟨by rw [HN.out, hno.1, hno.2]; rfl, rfl⟩
                · have e8 : ((s[i].toNat : Int) == 48) = false := by simp; omega
                  have HZ := Lib.hid hz
                  clear hz
                  go_wp2
                  go_ret2
                  have hyes := Sv.r_yes (D := D) ⟨HNE.out, by rw [HRL.out]; omega, fun h => by have h2 := h.1; rw [HH.out] at h2; exact HZ.out (by rw [Option.some.inj h2]; rfl)⟩ i
                  have hp : Sv.rp i D = (k : Int) := by rw [hyes.2, HRL.out]; omega
                  have hv : Sv.rv D = (Sv.val (D.take (k - i)) : Nat) := by rw [hyes.1, HRUN.out]
                  exact ⟨by rw [HN.out, hp, hv]; rfl, rfl⟩
          · clear g
            have c1 : decide (48 ≤ (s[k].toNat : Int)) = true := by simp; omega
            have c2 : decide ((s[k].toNat : Int) ≤ 57) = false := by simp; omega
            have HRL : RowKit.Hid ((Sv.run D).length = k - i) := Lib.hid (by rw [HRUN.out, List.length_take, HL.out]; omega)
            have d6 : decide ((i : Int) + 6 < (k : Int)) = false := by simp; omega
            by_cases hki : k = i
            · have e0 : ((k : Int) == (i : Int)) = true := by simp; omega
              have HKI := Lib.hid hki
              clear hki
              go_wp2
              go_ret2
              have hno := Sv.r_no (D := D) (fun h => h.1 (List.length_eq_zero_iff.1 (by rw [HRL.out]; have := HKI.out; omega))) i
              exact ⟨by rw [HN.out, hno.1, hno.2]; rfl, rfl⟩
            · have e0 : ((k : Int) == (i : Int)) = false := by simp; omega
              have HKI := Lib.hid hki
              clear hki
              have HNE : RowKit.Hid (Sv.run D ≠ []) := Lib.hid (fun h => by have h2 := HRL.out; rw [h] at h2; simp at h2; have := HKI.out; omega)
              by_cases hk1 : k ≤ i + 1
              · have d1 : decide ((i : Int) + 1 < (k : Int)) = false := by simp; omega
                have HK1 := Lib.hid hk1
                clear hk1
                go_wp2
                go_ret2
                have hyes := Sv.r_yes (D := D) ⟨HNE.out, by rw [HRL.out]; have := HK1.out; omega, fun h => by have h2 := h.2; rw [HRL.out] at h2; have := HK1.out; omega⟩ i
                have hp : Sv.rp i D = (k : Int) := by rw [hyes.2, HRL.out]; omega
                have hv : Sv.rv D = (Sv.val (D.take (k - i)) : Nat) := by rw [hyes.1, HRUN.out]
                exact ⟨by rw [HN.out, hp, hv]; rfl, rfl⟩
              · have d1 : decide ((i : Int) + 1 < (k : Int)) = true := by simp; omega
                have HK1 := Lib.hid hk1
                have his : i < s.size := by omega
                have HH : RowKit.Hid (D.head? = some s[i]) := Lib.hid (by
                  have hl : 0 < D.length := by rw [HL.out]; omega
                  have h := HE.out i his (Nat.le_refl _) (by rw [HL.out]; omega)
                  rw [Sv.head_at hl, ← h]
                  congr 2
                  omega)
                clear hk1
                by_cases hz : s[i].toNat = 48
                · have e8 : ((s[i].toNat : Int) == 48) = true := by rw [hz]; rfl
                  have HZ := Lib.hid hz
                  clear hz
                  go_wp2
                  go_ret2
                  have hno := Sv.r_no (D := D) (fun h => h.2.2 ⟨by rw [HH.out]; congr 1; exact UInt8.toNat_inj.1 HZ.out, by rw [HRL.out]; have := HK1.out; omega⟩) i
                  exact ⟨by rw [HN.out, hno.1, hno.2]; rfl, rfl⟩
                · have e8 : ((s[i].toNat : Int) == 48) = false := by simp; omega
                  have HZ := Lib.hid hz
                  clear hz
                  go_wp2
                  go_ret2
                  have hyes := Sv.r_yes (D := D) ⟨HNE.out, by rw [HRL.out]; omega, fun h => by have h2 := h.1; rw [HH.out] at h2; exact HZ.out (by rw [Option.some.inj h2]; rfl)⟩ i
                  have hp : Sv.rp i D = (k : Int) := by rw [hyes.2, HRL.out]; omega
                  have hv : Sv.rv D = (Sv.val (D.take (k - i)) : Nat) := by rw [hyes.1, HRUN.out]
                  exact ⟨by rw [HN.out, hp, hv]; rfl, rfl⟩
      · have d2 : decide ((k : Int) < (i : Int) + 7) = false := by simp; omega
        have d6 : decide ((i : Int) + 6 < (k : Int)) = true := by simp; omega
        have e0 : ((k : Int) == (i : Int)) = false := by simp; omega
        have H7 := Lib.hid h7
        clear h7
        go_wp2
        go_ret2
        have hno := Sv.r_no (D := D) (fun h => by
          have h1 := Sv.run_ge (D := D) (j := k - i) HD.out (by rw [HL.out]; omega)
          have h2 := h.2.1
          have := H7.out
          omega) i
        exact ⟨by rw [HN.out, hno.1, hno.2]; rfl, rfl⟩
    · have HRUN : RowKit.Hid (Sv.run D = D.take (k - i)) := Lib.hid (Sv.run_eq HD.out (.inl (by rw [HL.out]; omega)))
      by_cases h7 : k < i + 7
      · have HX := Lib.hid h7
        have HRL : RowKit.Hid ((Sv.run D).length = k - i) := Lib.hid (by rw [HRUN.out, List.length_take, HL.out]; omega)
        have d6 : decide ((i : Int) + 6 < (k : Int)) = false := by simp; omega
        by_cases hki : k = i
        · have e0 : ((k : Int) == (i : Int)) = true := by simp; omega
          have HKI := Lib.hid hki
          clear hki
          go_wp2
          go_ret2
          have hno := Sv.r_no (D := D) (fun h => h.1 (List.length_eq_zero_iff.1 (by rw [HRL.out]; have := HKI.out; omega))) i
          exact ⟨by rw [HN.out, hno.1, hno.2]; rfl, rfl⟩
        · have e0 : ((k : Int) == (i : Int)) = false := by simp; omega
          have HKI := Lib.hid hki
          clear hki
          have HNE : RowKit.Hid (Sv.run D ≠ []) := Lib.hid (fun h => by have h2 := HRL.out; rw [h] at h2; simp at h2; have := HKI.out; omega)
          by_cases hk1 : k ≤ i + 1
          · have d1 : decide ((i : Int) + 1 < (k : Int)) = false := by simp; omega
            have HK1 := Lib.hid hk1
            clear hk1
            go_wp2
            go_ret2
            have hyes := Sv.r_yes (D := D) ⟨HNE.out, by rw [HRL.out]; have := HK1.out; omega, fun h => by have h2 := h.2; rw [HRL.out] at h2; have := HK1.out; omega⟩ i
            have hp : Sv.rp i D = (k : Int) := by rw [hyes.2, HRL.out]; omega
            have hv : Sv.rv D = (Sv.val (D.take (k - i)) : Nat) := by rw [hyes.1, HRUN.out]
            exact ⟨by rw [HN.out, hp, hv]; rfl, rfl⟩
          · have d1 : decide ((i : Int) + 1 < (k : Int)) = true := by simp; omega
            have HK1 := Lib.hid hk1
            have his : i < s.size := by omega
            have HH : RowKit.Hid (D.head? = some s[i]) := Lib.hid (by
              have hl : 0 < D.length := by rw [HL.out]; omega
              have h := HE.out i his (Nat.le_refl _) (by rw [HL.out]; omega)
              rw [Sv.head_at hl, ← h]
              congr 2
              omega)
            clear hk1
            by_cases hz : s[i].toNat = 48
            · have e8 : ((s[i].toNat : Int) == 48) = true := by rw [hz]; rfl
              have HZ := Lib.hid hz
              clear hz
              go_wp2
              go_ret2
              have hno := Sv.r_no (D := D) (fun h => h.2.2 ⟨by rw [HH.out]; congr 1; exact UInt8.toNat_inj.1 HZ.out, by rw [HRL.out]; have := HK1.out; omega⟩) i
              exact ⟨by rw [HN.out, hno.1, hno.2]; rfl, rfl⟩
            · have e8 : ((s[i].toNat : Int) == 48) = false := by simp; omega
              have HZ := Lib.hid hz
              clear hz
              go_wp2
              go_ret2
              have hyes := Sv.r_yes (D := D) ⟨HNE.out, by rw [HRL.out]; omega, fun h => by have h2 := h.1; rw [HH.out] at h2; exact HZ.out (by rw [Option.some.inj h2]; rfl)⟩ i
              have hp : Sv.rp i D = (k : Int) := by rw [hyes.2, HRL.out]; omega
              have hv : Sv.rv D = (Sv.val (D.take (k - i)) : Nat) := by rw [hyes.1, HRUN.out]
              exact ⟨by rw [HN.out, hp, hv]; rfl, rfl⟩
      · have d6 : decide ((i : Int) + 6 < (k : Int)) = true := by simp; omega
        have e0 : ((k : Int) == (i : Int)) = false := by simp; omega
        have H7 := Lib.hid h7
        clear h7
        go_wp2
        go_ret2
        have hno := Sv.r_no (D := D) (fun h => by
          have h1 := Sv.run_ge (D := D) (j := k - i) HD.out (by rw [HL.out]; omega)
          have h2 := h.2.1
          have := H7.out
          omega) i
        exact ⟨by rw [HN.out, hno.1, hno.2]; rfl, rfl⟩
namespace Sv
theorem not_dig46 : isDig 46 = false := by decide
theorem len_six {T : List UInt8} (h : NumP T) : T.length ≤ 6 := by
  obtain ⟨h1, h2, h3, h4⟩ := h
  cases T with
  | nil => simp
  | cons c l =>
    by_cases hl : l.length = 0
    · simp [hl]
    · have hc : c ≠ 48 := fun e => h2 ⟨by simp [e], by simp; omega⟩
      have hd := isDig_yes (h3 c (by simp))
      have hn : c.toNat ≠ 48 := fun e => hc (UInt8.toNat_inj.1 e)
      have h5 := foldl_le l (10 * 0 + (c.toNat - 48))
      have h6 : val (c :: l) = l.foldl (fun n c => 10 * n + (c.toNat - 48)) (10 * 0 + (c.toNat - 48)) := rfl
      by_cases h7 : l.length ≤ 5
      · simp; omega
      · have h8 : 10 ^ 6 ≤ 10 ^ l.length := Nat.pow_le_pow_right (by omega) (by omega)
        have h9 : 1 * 10 ^ l.length ≤ (10 * 0 + (c.toNat - 48)) * 10 ^ l.length := Nat.mul_le_mul_right _ (by omega)
        omega
theorem run_self {T : List UInt8} (h : ∀ c ∈ T, isDig c = true) : run T = T := by
  have := run_eq (D := T) (j := T.length) (by simpa using h) (.inl rfl)
  simpa using this
theorem run_take (X : List UInt8) : run X = X.take (run X).length := List.prefix_iff_eq_take.1 (List.takeWhile_prefix isDig)
theorem run_le (X : List UInt8) : (run X).length ≤ X.length := (List.takeWhile_prefix (l := X) isDig).length_le
theorem run_dig {X : List UInt8} : ∀ c ∈ run X, isDig c = true := fun c hc => by
  unfold run at hc
  induction X with
  | nil => cases hc
  | cons x l ih =>
    rw [List.takeWhile_cons] at hc
    cases hx : isDig x with
    | false => rw [hx] at hc; cases hc
    | true =>
      rw [hx] at hc
      rcases List.mem_cons.1 hc with rfl | hc
      · exact hx
      · exact ih hc
theorem head_take {X : List UInt8} {j : Nat} (h : 0 < j) : (X.take j).head? = X.head? := by
  cases X with
  | nil => simp
  | cons c l => cases j with
    | zero => omega
    | succ j => rfl
/-- A number's digits, whatever follows. -/
theorem numR_of {X : List UInt8} {j : Nat} (hj : j ≤ X.length) (h : NumP (X.take j)) (hr : run X = X.take j) : NumR X := by
  have h6 := len_six h
  obtain ⟨h1, h2, h3, h4⟩ := h
  have hp : 0 < j := Nat.pos_of_ne_zero fun e => h1 (by rw [e]; rfl)
  exact ⟨by rw [hr]; exact h1, by rw [hr]; exact h6, by rw [hr]; rw [head_take hp] at h2; exact h2⟩
theorem numP_of {X : List UInt8} (h : NumR X) : NumP (run X) := by
  obtain ⟨h1, h2, h3⟩ := h
  have hp : 0 < (run X).length := List.length_pos_iff.2 h1
  refine ⟨h1, fun q => h3 ⟨?_, q.2⟩, run_dig, ?_⟩
  · have := q.1; rw [run_take X, head_take hp] at this; exact this
  · have h5 := val_lt (run X) run_dig
    have h6 : 10 ^ (run X).length ≤ 10 ^ 6 := Nat.pow_le_pow_right (by omega) h2
    omega
theorem ext_data (s : ByteArray) (a b : Nat) : (s.extract a b).data.toList = (s.data.toList.drop a).take (b - a) := by
  rw [ByteArray.data_extract, Array.toList_extract, List.extract_eq_take_drop]
theorem cut_no {s : ByteArray} {c : UInt8} (h : Lib.indexByte s.data.toList c = -1) : cutS s c = (s, ⟨#[]⟩, false) := by unfold cutS; rw [if_pos h]
theorem cut_at {s : ByteArray} {c : UInt8} {j : Nat} (h : Lib.indexByte s.data.toList c = j) : (cutS s c).1.data.toList = s.data.toList.take j ∧ (cutS s c).2.1.data.toList = s.data.toList.drop (j + 1) ∧ (cutS s c).2.2 = true := by
  have hn : ¬ Lib.indexByte s.data.toList c = -1 := by omega
  unfold cutS
  rw [if_neg hn, h]
  refine ⟨?_, ?_, rfl⟩
  · show (s.extract 0 ((j : Int).toNat)).data.toList = _
    rw [ext_data]; simp
  · show (s.extract ((j : Int).toNat + 1) s.size).data.toList = _
    rw [ext_data, List.take_of_length_le (by simp)]
    simp
theorem index_cases (l : List UInt8) (c : UInt8) : Lib.indexByte l c = -1 ∨ ∃ j : Nat, Lib.indexByte l c = j := by
  have := Lib.indexByte_ge l c
  by_cases h : Lib.indexByte l c = -1
  · exact .inl h
  · exact .inr ⟨(Lib.indexByte l c).toNat, by omega⟩
theorem num_at {s : ByteArray} {j : Nat} (h : Lib.indexByte s.data.toList 46 = j) (hn : NumP (s.data.toList.take j)) : NumR s.data.toList ∧ run s.data.toList = s.data.toList.take j := by
  obtain ⟨h1, h2⟩ := Lib.indexByte_some h
  have hl : j < s.data.toList.length := (List.getElem?_eq_some_iff.1 h1).1
  have e : s.data.toList[j] = 46 := (List.getElem?_eq_some_iff.1 h1).2
  have hr : run s.data.toList = s.data.toList.take j := run_eq hn.2.2.1 (.inr ⟨hl, by rw [e]; exact not_dig46⟩)
  exact ⟨numR_of (Nat.le_of_lt hl) hn hr, hr⟩
theorem stepA {s : ByteArray} (h : ¬ (NumR s.data.toList ∧ s.data.toList[(run s.data.toList).length]? = some 46)) : (nb s && m s) = false := by
  rcases index_cases s.data.toList 46 with hi | ⟨j, hi⟩
  · have : m s = false := by unfold m; rw [cut_no hi]
    rw [this]; simp
  · have hc := cut_at hi
    cases hb : nb s with
    | false => rfl
    | true =>
      have hn : NumP (s.data.toList.take j) := by
        unfold nb t at hb
        rw [hc.1] at hb
        exact of_decide_eq_true hb
      obtain ⟨h1, h2⟩ := num_at hi hn
      obtain ⟨g1, _⟩ := Lib.indexByte_some hi
      have hl : j < s.data.toList.length := (List.getElem?_eq_some_iff.1 g1).1
      exact absurd ⟨h1, by rw [h2, List.length_take, Nat.min_eq_left (by omega)]; exact g1⟩ h
theorem stepB {s : ByteArray} (h : NumR s.data.toList) (h2 : s.data.toList[(run s.data.toList).length]? = some 46) : nb s = true ∧ m s = true ∧ nv s = val (run s.data.toList) ∧ (r s).data.toList = s.data.toList.drop ((run s.data.toList).length + 1) := by
  rcases index_cases s.data.toList 46 with hi | ⟨j, hi⟩
  · exact absurd h2 (Lib.indexByte_none hi _)
  · obtain ⟨g1, g2⟩ := Lib.indexByte_some hi
    have hj : j = (run s.data.toList).length := by
      rcases Nat.lt_trichotomy j (run s.data.toList).length with hlt | rfl | hlt
      · exfalso
        have hm : (run s.data.toList)[j] ∈ run s.data.toList := List.getElem_mem hlt
        have hd := run_dig _ hm
        have e : (run s.data.toList)[j]? = s.data.toList[j]? := by
          conv => lhs; rw [run_take s.data.toList]
          rw [List.getElem?_take, if_pos hlt]
        rw [g1, List.getElem?_eq_getElem hlt] at e
        rw [Option.some.inj e, not_dig46] at hd
        cases hd
      · rfl
      · exact absurd h2 (g2 _ hlt)
    have hc := cut_at hi
    have hT : (t s).data.toList = run s.data.toList := by unfold t; rw [hc.1, hj, ← run_take]
    have hy := num_yes (numP_of h)
    refine ⟨by unfold nb; rw [hT, hy.1], by unfold m; exact hc.2.2, by unfold nv; rw [hT, hy.2], by unfold r; rw [hc.2.1, hj]⟩
theorem lastA {s : ByteArray} (h : ¬ (NumR s.data.toList ∧ (run s.data.toList).length = s.data.toList.length)) : (nb s && !m s) = false := by
  rcases index_cases s.data.toList 46 with hi | ⟨j, hi⟩
  · cases hb : nb s with
    | false => rfl
    | true =>
      have ht : t s = s := by unfold t; rw [cut_no hi]
      have hn : NumP s.data.toList := by
        unfold nb at hb
        rw [ht] at hb
        exact of_decide_eq_true hb
      have hr := run_self hn.2.2.1
      exact absurd ⟨numR_of (j := s.data.toList.length) (Nat.le_refl _) (by rw [List.take_length]; exact hn) (by rw [List.take_length]; exact hr), by rw [hr]⟩ h
  · have : m s = true := by unfold m; exact (cut_at hi).2.2
    rw [this]; simp
theorem lastB {s : ByteArray} (h : NumR s.data.toList) (h2 : (run s.data.toList).length = s.data.toList.length) : nb s = true ∧ m s = false ∧ nv s = val (run s.data.toList) := by
  have hr : run s.data.toList = s.data.toList := by
    have := run_take s.data.toList
    rw [h2, List.take_length] at this
    exact this
  rcases index_cases s.data.toList 46 with hi | ⟨j, hi⟩
  · have ht : t s = s := by unfold t; rw [cut_no hi]
    have hy := num_yes (numP_of h)
    rw [hr] at hy
    exact ⟨by unfold nb; rw [ht, hy.1], by unfold m; rw [cut_no hi], by unfold nv; rw [ht, hy.2, hr]⟩
  · exfalso
    obtain ⟨g1, _⟩ := Lib.indexByte_some hi
    have hm := List.mem_of_getElem? g1
    rw [← hr] at hm
    have := run_dig _ hm
    rw [not_dig46] at this
    cases this
end Sv
theorem num_bad (s : ByteArray) (i : Nat) (hi : i ≤ s.size) (hm : s.size ≤ 4194304) (h : ¬ Sv.NumR (s.data.toList.drop i)) (w : World) : Calls Tryz.prog 134 #[.string s, .int .i64 i] w fun e w' => e = .returned (.tuple #[.int .i64 0, .int .i64 (-1)]) ∧ w = w' :=
  (number_any s i hi hm w).mono fun e w' ⟨he, hw⟩ => ⟨by rw [he, nr, (Sv.r_no h i).1, (Sv.r_no h i).2], hw⟩
theorem num_good (s : ByteArray) (i k v : Nat) (hi : i ≤ s.size) (hm : s.size ≤ 4194304) (h : Sv.NumR (s.data.toList.drop i)) (hk : i + (Sv.run (s.data.toList.drop i)).length = k) (hv : Sv.val (Sv.run (s.data.toList.drop i)) = v) (w : World) : Calls Tryz.prog 134 #[.string s, .int .i64 i] w fun e w' => e = .returned (.tuple #[.int .i64 (v : Nat), .int .i64 (k : Nat)]) ∧ w = w' :=
  (number_any s i hi hm w).mono fun e w' ⟨he, hw⟩ => ⟨by rw [he, nr, (Sv.r_yes h i).1, (Sv.r_yes h i).2, hk, hv], hw⟩
namespace Sv
theorem okA {s : ByteArray} (h : (nb s && m s) = false) : okS s = false := by unfold okS; rw [h]; rfl
theorem okB {s : ByteArray} (h0 : nb s = true) (h1 : m s = true) (h : (nb (r s) && m (r s)) = false) : okS s = false := by
  unfold okS; rw [h0, h1]
  cases hb : nb (r s) with
  | false => rfl
  | true => rw [hb] at h; simp at h; rw [h]; rfl
theorem okC {s : ByteArray} (h0 : nb s = true) (h1 : m s = true) (h2 : nb (r s) = true) (h3 : m (r s) = true) : okS s = (nb (r (r s)) && !m (r (r s))) := by
  unfold okS; rw [h0, h1, h2, h3]; rfl
end Sv
set_option maxRecDepth 100000 in
set_option maxHeartbeats 4000000 in
theorem refParse_any (s : ByteArray) (hm : s.size ≤ 4194304) (w : World) : Calls Tryz.prog 120 #[.string s] w fun e w' => e = .returned (nx (Sv.parseS s)) ∧ Below w.heap.size w w' := by
  have hb1 := hb_new w (.cells #[.int .i64 0, .int .i64 0, .int .i64 0] 114)
  have q0 := hb_at hb1 0 rfl
  have q1 := hb_at hb1 1 rfl
  have q2 := hb_at hb1 2 rfl
  have g0 := hb_free hb1 0
  have g1 := hb_free hb1 1
  have g2 := hb_free hb1 2
  clear hb1
  have HL : RowKit.Hid (s.data.toList.length = s.size) := Lib.hid (data_len s)
  have HQ : RowKit.Hid (∀ k (h : k < s.size), s.data.toList[k]? = some s[k]) := Lib.hid (fun k h => by
    have hk : k < s.data.toList.length := by rw [data_len]; exact h
    rw [List.getElem?_eq_getElem hk, data_at s k h hk])
  have hd0 : s.data.toList.drop 0 = s.data.toList := rfl
  have HD0 := Lib.hid hd0
  clear hd0
  have X0 : RowKit.Hid (s.data.toList = s.data.toList.drop 0) := Lib.hid rfl
  by_cases hn0 : Sv.NumR (s.data.toList.drop 0)
  rotate_left
  · have HA : RowKit.Hid (¬ (Sv.NumR s.data.toList ∧ s.data.toList[(Sv.run s.data.toList).length]? = some 46)) := Lib.hid (by rw [X0.out]; exact fun h => hn0 h.1)
    have C0 : RowKit.Hid (∀ w, Calls Tryz.prog 134 #[.string s, .int .i64 0] w fun e w' => e = .returned (.tuple #[.int .i64 0, .int .i64 (-1)]) ∧ w = w') := Lib.hid (fun w => by have h := num_bad s 0 (by omega) hm hn0 w; rwa [show ((0 : Nat) : Int) = 0 from by omega] at h)
    clear hn0
    go_enter Tryz.func120, Tryz.ntmps120
    go_wp2_with (first | (go_at_call 134; ((with_reducible refine (C0.out _).mono ?_); rintro e w1 ⟨rfl, rfl⟩)))
    have ok : Sv.okS s = false := Sv.okA (Sv.stepA HA.out)
    exact bodyPost_ret (v := .tuple #[.agg #[.int .i64 0, .int .i64 0, .int .i64 0], .int .i64 10]) (by simp [results, Tryz.results120, go_sem, q0, q1, q2]) rfl ⟨by rw [parse_fail ok]; rfl, below_alloc w _⟩
  obtain ⟨k0, hk0⟩ : ∃ k, 0 + (Sv.run (s.data.toList.drop 0)).length = k := ⟨_, rfl⟩
  obtain ⟨v0, hv0⟩ : ∃ v, Sv.val (Sv.run (s.data.toList.drop 0)) = v := ⟨_, rfl⟩
  have C0 : RowKit.Hid (∀ w, Calls Tryz.prog 134 #[.string s, .int .i64 0] w fun e w' => e = .returned (.tuple #[.int .i64 (v0 : Nat), .int .i64 (k0 : Nat)]) ∧ w = w') := Lib.hid (fun w => by have h := num_good s 0 k0 v0 (by omega) hm hn0 hk0 hv0 w; rwa [show ((0 : Nat) : Int) = 0 from by omega] at h)
  have HN0 := Lib.hid hn0
  have HV0 := Lib.hid hv0
  have HK0 := Lib.hid hk0
  have hle0 : k0 ≤ s.size := by have h := Sv.run_le (s.data.toList.drop 0); rw [List.length_drop, HL.out] at h; omega
  clear hn0 hv0 hk0
  by_cases hlt0 : k0 < s.size
  rotate_left
  · have HA : RowKit.Hid (¬ (Sv.NumR s.data.toList ∧ s.data.toList[(Sv.run s.data.toList).length]? = some 46)) := Lib.hid (by
      rw [X0.out]
      intro h
      have h2 := h.2
      rw [List.getElem?_drop, HK0.out, List.getElem?_eq_none (by rw [HL.out]; omega)] at h2
      cases h2)
    have d0 : decide ((s.size : Int) ≤ (k0 : Int)) = true := by simp; omega
    go_enter Tryz.func120, Tryz.ntmps120
    go_wp2_with (first | (go_at_call 134; ((with_reducible refine (C0.out _).mono ?_); rintro e w1 ⟨rfl, rfl⟩)))
    have ok : Sv.okS s = false := Sv.okA (Sv.stepA HA.out)
    exact bodyPost_ret (v := .tuple #[.agg #[.int .i64 0, .int .i64 0, .int .i64 0], .int .i64 10]) (by simp [results, Tryz.results120, go_sem, q0, q1, q2]) rfl ⟨by rw [parse_fail ok]; rfl, below_alloc w _⟩
  by_cases hp0 : s[k0].toNat = 46
  rotate_left
  · have HA : RowKit.Hid (¬ (Sv.NumR s.data.toList ∧ s.data.toList[(Sv.run s.data.toList).length]? = some 46)) := Lib.hid (by
      rw [X0.out]
      intro h
      have h2 := h.2
      rw [List.getElem?_drop, HK0.out, HQ.out k0 hlt0] at h2
      exact hp0 (by rw [Option.some.inj h2]; rfl))
    have d0 : decide ((s.size : Int) ≤ (k0 : Int)) = false := by simp; omega
    have p0 : ((s[k0].toNat : Int) != 46) = true := by simp; omega
    clear hp0
    go_enter Tryz.func120, Tryz.ntmps120
    go_wp2_with (first | (go_at_call 134; ((with_reducible refine (C0.out _).mono ?_); rintro e w1 ⟨rfl, rfl⟩)))
    have ok : Sv.okS s = false := Sv.okA (Sv.stepA HA.out)
    exact bodyPost_ret (v := .tuple #[.agg #[.int .i64 0, .int .i64 0, .int .i64 0], .int .i64 10]) (by simp [results, Tryz.results120, go_sem, q0, q1, q2]) rfl ⟨by rw [parse_fail ok]; rfl, below_alloc w _⟩
  have P0 : RowKit.Hid (s.data.toList[k0]? = some 46) := Lib.hid (by rw [HQ.out k0 hlt0]; congr 1; exact UInt8.toNat_inj.1 hp0)
  have d0 : decide ((s.size : Int) ≤ (k0 : Int)) = false := by simp; omega
  have p0 : ((s[k0].toNat : Int) != 46) = false := by rw [hp0]; rfl
  clear hp0
  have HS0 : RowKit.Hid (_ ∧ _ ∧ _ ∧ _) := Lib.hid (Sv.stepB (s := s) (by rw [X0.out]; exact HN0.out) (by rw [X0.out, List.getElem?_drop, HK0.out]; exact P0.out))
  have B0 := Lib.hid HS0.out.1
  have M0 := Lib.hid HS0.out.2.1
  have N0 : RowKit.Hid (Sv.nv s = v0) := Lib.hid (by rw [HS0.out.2.2.1, X0.out]; exact HV0.out)
  have X1 : RowKit.Hid ((Sv.r s).data.toList = s.data.toList.drop (k0 + 1)) := Lib.hid (by rw [HS0.out.2.2.2, X0.out, List.drop_drop, ← HK0.out]; rfl)
  by_cases hn1 : Sv.NumR (s.data.toList.drop (k0 + 1))
  rotate_left
  · have HA : RowKit.Hid (¬ (Sv.NumR (Sv.r s).data.toList ∧ (Sv.r s).data.toList[(Sv.run (Sv.r s).data.toList).length]? = some 46)) := Lib.hid (by rw [X1.out]; exact fun h => hn1 h.1)
    have C1 : RowKit.Hid (∀ w, Calls Tryz.prog 134 #[.string s, .int .i64 ((k0 : Int) + 1)] w fun e w' => e = .returned (.tuple #[.int .i64 0, .int .i64 (-1)]) ∧ w = w') := Lib.hid (fun w => by have h := num_bad s (k0 + 1) (by omega) hm hn1 w; rwa [show (((k0 + 1) : Nat) : Int) = ((k0 : Int) + 1) from by omega] at h)
    clear hn1
    go_enter Tryz.func120, Tryz.ntmps120
    go_wp2_with (first | (go_at_call 134; ((with_reducible refine (C0.out _).mono ?_); rintro e w1 ⟨rfl, rfl⟩)) | (go_at_call 134; ((with_reducible refine (C1.out _).mono ?_); rintro e w1 ⟨rfl, rfl⟩)))
    have ok : Sv.okS s = false := Sv.okB B0.out M0.out (Sv.stepA HA.out)
    exact bodyPost_ret (v := .tuple #[.agg #[.int .i64 0, .int .i64 0, .int .i64 0], .int .i64 10]) (by simp [results, Tryz.results120, go_sem, q0, q1, q2]) rfl ⟨by rw [parse_fail ok]; rfl, below_alloc w _⟩
  obtain ⟨k1, hk1⟩ : ∃ k, (k0 + 1) + (Sv.run (s.data.toList.drop (k0 + 1))).length = k := ⟨_, rfl⟩
  obtain ⟨v1, hv1⟩ : ∃ v, Sv.val (Sv.run (s.data.toList.drop (k0 + 1))) = v := ⟨_, rfl⟩
  have C1 : RowKit.Hid (∀ w, Calls Tryz.prog 134 #[.string s, .int .i64 ((k0 : Int) + 1)] w fun e w' => e = .returned (.tuple #[.int .i64 (v1 : Nat), .int .i64 (k1 : Nat)]) ∧ w = w') := Lib.hid (fun w => by have h := num_good s (k0 + 1) k1 v1 (by omega) hm hn1 hk1 hv1 w; rwa [show (((k0 + 1) : Nat) : Int) = ((k0 : Int) + 1) from by omega] at h)
  have HN1 := Lib.hid hn1
  have HV1 := Lib.hid hv1
  have HK1 := Lib.hid hk1
  have hle1 : k1 ≤ s.size := by have h := Sv.run_le (s.data.toList.drop (k0 + 1)); rw [List.length_drop, HL.out] at h; omega
  clear hn1 hv1 hk1
  by_cases hlt1 : k1 < s.size
  rotate_left
  · have HA : RowKit.Hid (¬ (Sv.NumR (Sv.r s).data.toList ∧ (Sv.r s).data.toList[(Sv.run (Sv.r s).data.toList).length]? = some 46)) := Lib.hid (by
      rw [X1.out]
      intro h
      have h2 := h.2
      rw [List.getElem?_drop, HK1.out, List.getElem?_eq_none (by rw [HL.out]; omega)] at h2
      cases h2)
    have d1 : decide ((s.size : Int) ≤ (k1 : Int)) = true := by simp; omega
    go_enter Tryz.func120, Tryz.ntmps120
    go_wp2_with (first | (go_at_call 134; ((with_reducible refine (C0.out _).mono ?_); rintro e w1 ⟨rfl, rfl⟩)) | (go_at_call 134; ((with_reducible refine (C1.out _).mono ?_); rintro e w1 ⟨rfl, rfl⟩)))
    have ok : Sv.okS s = false := Sv.okB B0.out M0.out (Sv.stepA HA.out)
    exact bodyPost_ret (v := .tuple #[.agg #[.int .i64 0, .int .i64 0, .int .i64 0], .int .i64 10]) (by simp [results, Tryz.results120, go_sem, q0, q1, q2]) rfl ⟨by rw [parse_fail ok]; rfl, below_alloc w _⟩
  by_cases hp1 : s[k1].toNat = 46
  rotate_left
  · have HA : RowKit.Hid (¬ (Sv.NumR (Sv.r s).data.toList ∧ (Sv.r s).data.toList[(Sv.run (Sv.r s).data.toList).length]? = some 46)) := Lib.hid (by
      rw [X1.out]
      intro h
      have h2 := h.2
      rw [List.getElem?_drop, HK1.out, HQ.out k1 hlt1] at h2
      exact hp1 (by rw [Option.some.inj h2]; rfl))
    have d1 : decide ((s.size : Int) ≤ (k1 : Int)) = false := by simp; omega
    have p1 : ((s[k1].toNat : Int) != 46) = true := by simp; omega
    clear hp1
    go_enter Tryz.func120, Tryz.ntmps120
    go_wp2_with (first | (go_at_call 134; ((with_reducible refine (C0.out _).mono ?_); rintro e w1 ⟨rfl, rfl⟩)) | (go_at_call 134; ((with_reducible refine (C1.out _).mono ?_); rintro e w1 ⟨rfl, rfl⟩)))
    have ok : Sv.okS s = false := Sv.okB B0.out M0.out (Sv.stepA HA.out)
    exact bodyPost_ret (v := .tuple #[.agg #[.int .i64 0, .int .i64 0, .int .i64 0], .int .i64 10]) (by simp [results, Tryz.results120, go_sem, q0, q1, q2]) rfl ⟨by rw [parse_fail ok]; rfl, below_alloc w _⟩
  have P1 : RowKit.Hid (s.data.toList[k1]? = some 46) := Lib.hid (by rw [HQ.out k1 hlt1]; congr 1; exact UInt8.toNat_inj.1 hp1)
  have d1 : decide ((s.size : Int) ≤ (k1 : Int)) = false := by simp; omega
  have p1 : ((s[k1].toNat : Int) != 46) = false := by rw [hp1]; rfl
  clear hp1
  have HS1 : RowKit.Hid (_ ∧ _ ∧ _ ∧ _) := Lib.hid (Sv.stepB (s := (Sv.r s)) (by rw [X1.out]; exact HN1.out) (by rw [X1.out, List.getElem?_drop, HK1.out]; exact P1.out))
  have B1 := Lib.hid HS1.out.1
  have M1 := Lib.hid HS1.out.2.1
  have N1 : RowKit.Hid (Sv.nv (Sv.r s) = v1) := Lib.hid (by rw [HS1.out.2.2.1, X1.out]; exact HV1.out)
  have X2 : RowKit.Hid ((Sv.r (Sv.r s)).data.toList = s.data.toList.drop (k1 + 1)) := Lib.hid (by rw [HS1.out.2.2.2, X1.out, List.drop_drop, ← HK1.out]; rfl)
  by_cases hn2 : Sv.NumR (s.data.toList.drop (k1 + 1))
  rotate_left
  · have HA : RowKit.Hid (¬ (Sv.NumR (Sv.r (Sv.r s)).data.toList ∧ (Sv.run (Sv.r (Sv.r s)).data.toList).length = (Sv.r (Sv.r s)).data.toList.length)) := Lib.hid (by rw [X2.out]; exact fun h => hn2 h.1)
    have C2 : RowKit.Hid (∀ w, Calls Tryz.prog 134 #[.string s, .int .i64 ((k1 : Int) + 1)] w fun e w' => e = .returned (.tuple #[.int .i64 0, .int .i64 (-1)]) ∧ w = w') := Lib.hid (fun w => by have h := num_bad s (k1 + 1) (by omega) hm hn2 w; rwa [show (((k1 + 1) : Nat) : Int) = ((k1 : Int) + 1) from by omega] at h)
    clear hn2
    have e9 : ((-1 : Int) != (s.size : Int)) = true := by simp
    go_enter Tryz.func120, Tryz.ntmps120
    go_wp2_with (first | (go_at_call 134; ((with_reducible refine (C0.out _).mono ?_); rintro e w1 ⟨rfl, rfl⟩)) | (go_at_call 134; ((with_reducible refine (C1.out _).mono ?_); rintro e w1 ⟨rfl, rfl⟩)) | (go_at_call 134; ((with_reducible refine (C2.out _).mono ?_); rintro e w1 ⟨rfl, rfl⟩)))
    have ok : Sv.okS s = false := (Sv.okC B0.out M0.out B1.out M1.out).trans (Sv.lastA HA.out)
    exact bodyPost_ret (v := .tuple #[.agg #[.int .i64 0, .int .i64 0, .int .i64 0], .int .i64 10]) (by simp [results, Tryz.results120, go_sem, q0, q1, q2]) rfl ⟨by rw [parse_fail ok]; rfl, below_alloc w _⟩
  obtain ⟨k2, hk2⟩ : ∃ k, (k1 + 1) + (Sv.run (s.data.toList.drop (k1 + 1))).length = k := ⟨_, rfl⟩
  obtain ⟨v2, hv2⟩ : ∃ v, Sv.val (Sv.run (s.data.toList.drop (k1 + 1))) = v := ⟨_, rfl⟩
  have C2 : RowKit.Hid (∀ w, Calls Tryz.prog 134 #[.string s, .int .i64 ((k1 : Int) + 1)] w fun e w' => e = .returned (.tuple #[.int .i64 (v2 : Nat), .int .i64 (k2 : Nat)]) ∧ w = w') := Lib.hid (fun w => by have h := num_good s (k1 + 1) k2 v2 (by omega) hm hn2 hk2 hv2 w; rwa [show (((k1 + 1) : Nat) : Int) = ((k1 : Int) + 1) from by omega] at h)
  have HN2 := Lib.hid hn2
  have HV2 := Lib.hid hv2
  have HK2 := Lib.hid hk2
  have hle2 : k2 ≤ s.size := by have h := Sv.run_le (s.data.toList.drop (k1 + 1)); rw [List.length_drop, HL.out] at h; omega
  clear hn2 hv2 hk2
  by_cases hlt2 : k2 = s.size
  rotate_left
  · have HA : RowKit.Hid (¬ (Sv.NumR (Sv.r (Sv.r s)).data.toList ∧ (Sv.run (Sv.r (Sv.r s)).data.toList).length = (Sv.r (Sv.r s)).data.toList.length)) := Lib.hid (by
      rw [X2.out]
      intro h
      have h2 := h.2
      rw [List.length_drop, HL.out] at h2
      have := HK2.out
      omega)
    have e9 : ((k2 : Int) != (s.size : Int)) = true := by simp; omega
    have HLT := Lib.hid hlt2
    clear hlt2
    go_enter Tryz.func120, Tryz.ntmps120
    go_wp2_with (first | (go_at_call 134; ((with_reducible refine (C0.out _).mono ?_); rintro e w1 ⟨rfl, rfl⟩)) | (go_at_call 134; ((with_reducible refine (C1.out _).mono ?_); rintro e w1 ⟨rfl, rfl⟩)) | (go_at_call 134; ((with_reducible refine (C2.out _).mono ?_); rintro e w1 ⟨rfl, rfl⟩)))
    have ok : Sv.okS s = false := (Sv.okC B0.out M0.out B1.out M1.out).trans (Sv.lastA HA.out)
    exact bodyPost_ret (v := .tuple #[.agg #[.int .i64 0, .int .i64 0, .int .i64 0], .int .i64 10]) (by simp [results, Tryz.results120, go_sem, q0, q1, q2]) rfl ⟨by rw [parse_fail ok]; rfl, below_alloc w _⟩
  have HS2 : RowKit.Hid (_ ∧ _ ∧ _) := Lib.hid (Sv.lastB (s := (Sv.r (Sv.r s))) (by rw [X2.out]; exact HN2.out) (by rw [X2.out, List.length_drop, HL.out]; have := HK2.out; omega))
  have N2 : RowKit.Hid (Sv.nv (Sv.r (Sv.r s)) = v2) := Lib.hid (by rw [HS2.out.2.2, X2.out]; exact HV2.out)
  have e9 : ((k2 : Int) != (s.size : Int)) = false := by simp; omega
  have HLT := Lib.hid hlt2
  clear hlt2
  go_enter Tryz.func120, Tryz.ntmps120
  go_wp2_with (first | (go_at_call 134; ((with_reducible refine (C0.out _).mono ?_); rintro e w1 ⟨rfl, rfl⟩)) | (go_at_call 134; ((with_reducible refine (C1.out _).mono ?_); rintro e w1 ⟨rfl, rfl⟩)) | (go_at_call 134; ((with_reducible refine (C2.out _).mono ?_); rintro e w1 ⟨rfl, rfl⟩)))
  have ok : Sv.okS s = true := by rw [Sv.okC B0.out M0.out B1.out M1.out, HS2.out.1, HS2.out.2.1]; rfl
  exact bodyPost_ret (v := .tuple #[.agg #[.int .i64 (v0 : Nat), .int .i64 (v1 : Nat), .int .i64 (v2 : Nat)], .int .i64 0]) (by simp [results, Tryz.results120, go_sem, q0, q1, q2]) rfl ⟨by rw [parse_good ok, N0.out, N1.out, N2.out], below_alloc w _⟩
end Go.Proofs.YthcpmdgdbceeiaaGreatDoor
