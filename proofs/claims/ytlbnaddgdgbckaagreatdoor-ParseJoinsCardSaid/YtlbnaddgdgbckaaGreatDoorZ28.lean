/- Texts in a row: Lt Lu. -/
import Derived.Test.YtlbnaddgdgbckaaGreatDoorZ27
import Derived.Test.YtlbnaddgdgbckaaGreatDoorZ5
import Derived.Test.YtlbnaddgdgbckaaGreatDoorZ26
/- Tokens that Lex tells, in memory, and how long they are. -/
namespace Go.Proofs.YtlbnaddgdgbckaaGreatDoor
open Go.RowKit
set_option linter.unusedSimpArgs false
set_option linter.unusedVariables false
def Fits (t : Tk) : Prop := -9223372036854775808 ≤ t.n ∧ t.n ≤ 9223372036854775807
theorem cellsT_at : ∀ (l : List (Tk × Nat)) (i : Nat) (x : Tk × Nat), l[i]? = some x → (cellsT l)[i * 4]? = some (.int .i64 x.1.k) ∧ (cellsT l)[i * 4 + 1]? = some (.string x.1.s) ∧ (cellsT l)[i * 4 + 2]? = some (.int .i64 x.1.n) ∧ (cellsT l)[i * 4 + 3]? = some (.int .i64 (x.2 : Nat)) := by
  intro l
  induction l with
  | nil => intro i x h; cases h
  | cons y l ih =>
    intro i x h
    have hc : cellsT (y :: l) = .int .i64 y.1.k :: .string y.1.s :: .int .i64 y.1.n :: .int .i64 (y.2 : Nat) :: cellsT l := by unfold cellsT; rw [List.flatMap_cons]; rfl
    rw [hc]
    cases i with
    | zero => cases h; exact ⟨rfl, rfl, rfl, rfl⟩
    | succ i =>
      have h' : l[i]? = some x := h
      obtain ⟨h0, h1, h2, h3⟩ := ih i x h'
      have e0 : (i + 1) * 4 = i * 4 + 1 + 1 + 1 + 1 := by omega
      have e1 : (i + 1) * 4 + 1 = i * 4 + 1 + 1 + 1 + 1 + 1 := by omega
      have e2 : (i + 1) * 4 + 2 = i * 4 + 2 + 1 + 1 + 1 + 1 := by omega
      have e3 : (i + 1) * 4 + 3 = i * 4 + 3 + 1 + 1 + 1 + 1 := by omega
      rw [e3, e2, e1, e0]
      simp only [List.getElem?_cons_succ]
      exact ⟨h0, h1, h2, h3⟩
theorem tk0_fits : Fits tk0 := by unfold Fits tk0; simp
theorem int_fits {l : List UInt8} (h : intM l ≠ 0) : -9223372036854775808 ≤ intV l ∧ intV l ≤ 9223372036854775807 := by
  cases hp : Lib.hasPrefix l [45]
  · obtain ⟨e1, e2, e3⟩ := intM_plain hp h
    obtain ⟨m, hm, hs⟩ := intD_dec e2 e3
    have hV : intV l = (m : Int) := by unfold intV; rw [hp, hm]; rfl
    omega
  · obtain ⟨e1, e0, e2, e3⟩ := intM_neg hp h
    obtain ⟨m, hm, hs⟩ := intD_dec e2 e3
    have hV : intV l = -(m : Int) := by unfold intV; rw [hp, hm]; rfl
    omega
theorem nameT_fits (kind : Int) (l : List UInt8) : Fits (nameT kind (ofL l)).1 ∧ (nameT kind (ofL l)).1.s.size ≤ l.length := by
  rw [nameT_ofL]
  split
  · exact ⟨tk0_fits, Nat.zero_le _⟩
  · refine ⟨by unfold Fits; simp, ?_⟩
    show (ofL _).size ≤ _
    rw [ofL_size, List.length_take]; omega
theorem txF_said (L : List UInt8) : ∀ (f i : Nat) (said r : List UInt8) (n : Nat), txF L f i said = some (r, n) → r.length ≤ said.length + (L.length - i) := by
  intro f
  induction f with
  | zero => intro i said r n h; cases h
  | succ f ih =>
    intro i said r n h
    unfold txF at h
    split at h
    · cases h
    · cases hc : L[i]? with
      | none => rw [hc] at h; cases h
      | some c =>
        have hi := (List.getElem?_eq_some_iff.1 hc).1
        rw [hc] at h
        simp only [] at h
        split at h
        · cases h; omega
        · split at h
          · cases h
          · split at h
            · cases hd : L[i + 1]? with
              | none => rw [hd] at h; cases h
              | some d =>
                rw [hd] at h
                simp only [] at h
                split at h
                · have := ih _ _ _ _ h
                  rw [List.length_append, List.length_singleton] at this
                  omega
                · cases h
            · have := ih _ _ _ _ h
              rw [List.length_append, List.length_singleton] at this
              omega
/-- A token that is read says no more bytes than the text has. -/
theorem first_fits (l : List UInt8) : Fits (firstT (ofL l)).1 ∧ (firstT (ofL l)).1.s.size ≤ l.length := by
  have hz : ∀ k, Fits tk0 ∧ tk0.s.size ≤ k := fun k => ⟨tk0_fits, Nat.zero_le _⟩
  cases hc : l[0]? with
  | none => rw [firstT_none hc]; exact hz _
  | some c =>
    rw [firstT_at hc]
    split
    · exact nameT_fits _ _
    · split
      · exact nameT_fits _ _
      · split
        · rw [varT_ofL]
          split
          · exact hz _
          · refine ⟨by unfold Fits; simp, ?_⟩
            show (ofL _).size ≤ _
            rw [ofL_size, List.length_take, List.length_drop]; omega
        · split
          · unfold textT
            rw [ofL_list]
            cases h : txM l 1 [] with
            | none => exact hz _
            | some x =>
              obtain ⟨r, n⟩ := x
              refine ⟨by unfold Fits txR; simp, ?_⟩
              show (ofL r).size ≤ _
              rw [ofL_size]
              have := txF_said _ _ _ _ _ _ h
              simp at this
              omega
          · split
            · rw [numT_ofL]
              split
              · refine ⟨by unfold Fits; simp, ?_⟩
                show (ofL _).size ≤ _
                rw [ofL_size, List.length_take]; omega
              · split
                · exact hz _
                · rename_i hi
                  exact ⟨int_fits hi, Nat.zero_le _⟩
            · rw [signT_ofL]
              split
              · refine ⟨by unfold Fits; simp, ?_⟩
                show (ofL _).size ≤ _
                rw [ofL_size, List.length_take]; omega
              · split
                · refine ⟨by unfold Fits; simp, ?_⟩
                  show (ofL _).size ≤ _
                  rw [ofL_size, List.length_take]; omega
                · exact hz _
theorem Lexed.fits {l : List UInt8} {i : Nat} {r : List (Tk × Nat)} (h : Lexed l i r) : ∀ x ∈ r, Fits x.1 ∧ x.1.s.size ≤ l.length := by
  induction h with
  | nil i => intro x hx; cases hx
  | cons l i n m t r h h0 hm hr ih =>
    intro x hx
    cases hx with
    | head =>
      have := first_fits l
      rw [h] at this
      exact this
    | tail _ hx =>
      have := ih x hx
      rw [List.length_drop] at this
      exact ⟨this.1, by omega⟩
/-- What Lex tells is such that it can be told, and may be. -/

theorem lexM_small {s : ByteArray} (h : (lexM s).2.2 = 0) : s.size ≤ 20000 ∧ (lexM s).1.length ≤ 6000 ∧ ∀ x ∈ (lexM s).1, Fits x.1 ∧ x.1.s.size ≤ 20000 := by
  obtain ⟨h1, h2, h3, _⟩ := lexM_lexed h
  refine ⟨h1, h3, fun x hx => ?_⟩
  obtain ⟨e1, e2⟩ := h2.fits x hx
  refine ⟨e1, Nat.le_trans e2 ?_⟩
  rw [List.length_drop, len_list]
  omega
theorem TkRow.tok {B r : Nat} {w : World} {v : Value} {l : List (Tk × Nat)} (h : TkRow B w v l) (hr : w.heap.size ≤ r) (hl : l.length ≤ 6000) (hz : ∀ x ∈ l, x.1.s.size ≤ 4194304) : TokS r w v l := by
  rcases h.2 with ⟨hv, h0⟩ | ⟨g, cap, cur, hv, hb, hg, hn, hc, _⟩
  · have := List.eq_nil_of_length_eq_zero h0
    subst this
    exact ⟨Option.none, 0, hv, Nat.le_refl _, Nat.zero_le _, hl, fun i x hx => by cases hx⟩
  · subst hv
    have hgl := hb_lt hg
    refine ⟨some ⟨g, 0, Option.none⟩, cap, rfl, hn, hc, hl, fun i x hx => ⟨hz x (List.mem_of_getElem? hx), g, 0, rfl, by omega, ?_⟩⟩
    obtain ⟨h0, h1, h2, h3⟩ := cellsT_at l i x hx
    have hc := World.ownsRow.cells h (g := g) rfl
    refine ⟨?_, ?_, ?_, ?_⟩
    · have := hc _ _ h0; rw [add_zero_none] at this; rw [Nat.zero_add]; exact this
    · have := hc _ _ h1; rw [add_zero_none] at this; rw [Nat.zero_add]; exact this
    · have := hc _ _ h2; rw [add_zero_none] at this; rw [Nat.zero_add]; exact this
    · have := hc _ _ h3; rw [add_zero_none] at this; rw [Nat.zero_add]; exact this
end Go.Proofs.YtlbnaddgdgbckaaGreatDoor
/- Lex, of the program. -/
namespace Go.Proofs.YtlbnaddgdgbckaaGreatDoor
open Go.RowKit
set_option linter.unusedSimpArgs false
set_option linter.unusedVariables false
theorem isBlank_any (c : UInt8) (w : World) : Calls Tryz.prog 82 #[.int .u8 (c.toNat : Nat)] w fun e w' => e = .returned (.bool (blB c)) ∧ w = w' := by
  have hp : blB c = (decide (c.toNat = 32) || decide (c.toNat = 9) || decide (c.toNat = 10)) := rfl
  rw [hp]
  clear hp
  generalize c.toNat = n at *
  by_cases h1 : n = 32
  · subst h1
    go_enter Tryz.func82, Tryz.ntmps82
    go_wp2
    go_ret
    exact ⟨rfl, rfl⟩
  have d1 : ((n : Int) == 32) = false := by rw [beq_eq_false_iff_ne]; omega
  have e1 : decide (n = 32) = false := by simpa using h1
  rw [e1, Bool.false_or]
  clear e1 h1
  by_cases h2 : n = 9
  · subst h2
    go_enter Tryz.func82, Tryz.ntmps82
    go_wp2
    go_ret
    exact ⟨rfl, rfl⟩
  have d2 : ((n : Int) == 9) = false := by rw [beq_eq_false_iff_ne]; omega
  have e2 : decide (n = 9) = false := by simpa using h2
  rw [e2, Bool.false_or]
  clear e2 h2
  by_cases h3 : n = 10
  · subst h3
    go_enter Tryz.func82, Tryz.ntmps82
    go_wp2
    go_ret
    exact ⟨rfl, rfl⟩
  have d3 : ((n : Int) == 10) = false := by rw [beq_eq_false_iff_ne]; omega
  have e3 : decide (n = 10) = false := by simpa using h3
  rw [e3]
  clear e3 h3
  go_enter Tryz.func82, Tryz.ntmps82
  go_wp2
  go_ret
  exact ⟨rfl, rfl⟩
theorem notNl_any (c : UInt8) (w : World) : Calls Tryz.prog 84 #[.int .u8 (c.toNat : Nat)] w fun e w' => e = .returned (.bool (notNl c)) ∧ w = w' := by
  have hp : notNl c = !decide (c.toNat = 10) := rfl
  rw [hp]
  clear hp
  generalize c.toNat = n at *
  by_cases h1 : n = 10
  · subst h1
    go_enter Tryz.func84, Tryz.ntmps84
    go_wp2
    go_ret
    exact ⟨rfl, rfl⟩
  have d1 : ((n : Int) != 10) = true := by simp; omega
  have e1 : decide (n = 10) = false := by simpa using h1
  rw [e1]
  clear e1 h1
  go_enter Tryz.func84, Tryz.ntmps84
  go_wp2
  go_ret
  exact ⟨rfl, rfl⟩
set_option maxRecDepth 100000 in
theorem countBlank (s : ByteArray) (hm : s.size ≤ 4194304) (w : World) : Calls Tryz.prog 81 #[.string s, .func (.func 82) #[] #[]] w fun e w' => e = .returned (.int .i64 (cnt blB s.data.toList : Nat)) ∧ w = w' := by
  go_enter Tryz.func81, Tryz.ntmps81
  go_wp2
  go_loop [5] (fun i => ∃ k : Nat, k ≤ s.size ∧ i = .int .i64 k ∧ ∀ i c, i < k → s.data.toList[i]? = some c → blB c = true) (fun i => s.size - (intOf i).toNat)
  case atStart => exact ⟨0, Nat.zero_le _, rfl, fun i c h => absurd h (by omega)⟩
  case round =>
    obtain ⟨k, hk, rfl, hp⟩ := hrel
    have HP := Lib.hid hp
    clear hp
    by_cases hlt : k < s.size
    · have HX := Lib.hid (at_list s k hlt)
      have hki : (k : Int) < (s.size : Int) := by omega
      have HC := Lib.hid (fun w => isBlank_any s[k] w)
      cases hb : blB s[k]
      · have HB := Lib.hid hb
        clear hb
        go_wp2_with (go_at_call 82; refine (HC.out _).mono ?_; rintro e w' ⟨rfl, rfl⟩; rw [HB.out])
        go_ret
        exact ⟨ret_int (by rw [cnt_stop (j := k) HP.out (fun c hc => by rw [HX.out] at hc; cases hc; exact HB.out) (by rw [len_list]; omega)]), rfl⟩
      · have HB := Lib.hid hb
        clear hb
        go_wp2_with (go_at_call 82; refine (HC.out _).mono ?_; rintro e w' ⟨rfl, rfl⟩; rw [HB.out])
        go_round
        case rel =>
          refine ⟨k + 1, by omega, by go_num, fun i c hi hc => ?_⟩
          by_cases h : i < k
          · exact HP.out i c h hc
          · obtain rfl : i = k := by omega
            rw [HX.out] at hc
            cases hc
            exact HB.out
        case measure => simp [intOf]; omega
    · have hki : ¬ (k : Int) < (s.size : Int) := by omega
      obtain rfl : k = s.size := by omega
      go_wp2
      go_ret
      exact ⟨ret_int (by rw [cnt_stop (j := s.size) HP.out (fun c hc => by have := (List.getElem?_eq_some_iff.1 hc).1; rw [len_list] at this; omega) (by rw [len_list]; omega)]), rfl⟩
set_option maxRecDepth 100000 in
theorem countRem (s : ByteArray) (hm : s.size ≤ 4194304) (w : World) : Calls Tryz.prog 81 #[.string s, .func (.func 84) #[] #[]] w fun e w' => e = .returned (.int .i64 (cnt notNl s.data.toList : Nat)) ∧ w = w' := by
  go_enter Tryz.func81, Tryz.ntmps81
  go_wp2
  go_loop [5] (fun i => ∃ k : Nat, k ≤ s.size ∧ i = .int .i64 k ∧ ∀ i c, i < k → s.data.toList[i]? = some c → notNl c = true) (fun i => s.size - (intOf i).toNat)
  case atStart => exact ⟨0, Nat.zero_le _, rfl, fun i c h => absurd h (by omega)⟩
  case round =>
    obtain ⟨k, hk, rfl, hp⟩ := hrel
    have HP := Lib.hid hp
    clear hp
    by_cases hlt : k < s.size
    · have HX := Lib.hid (at_list s k hlt)
      have hki : (k : Int) < (s.size : Int) := by omega
      have HC := Lib.hid (fun w => notNl_any s[k] w)
      cases hb : notNl s[k]
      · have HB := Lib.hid hb
        clear hb
        go_wp2_with (go_at_call 84; refine (HC.out _).mono ?_; rintro e w' ⟨rfl, rfl⟩; rw [HB.out])
        go_ret
        exact ⟨ret_int (by rw [cnt_stop (j := k) HP.out (fun c hc => by rw [HX.out] at hc; cases hc; exact HB.out) (by rw [len_list]; omega)]), rfl⟩
      · have HB := Lib.hid hb
        clear hb
        go_wp2_with (go_at_call 84; refine (HC.out _).mono ?_; rintro e w' ⟨rfl, rfl⟩; rw [HB.out])
        go_round
        case rel =>
          refine ⟨k + 1, by omega, by go_num, fun i c hi hc => ?_⟩
          by_cases h : i < k
          · exact HP.out i c h hc
          · obtain rfl : i = k := by omega
            rw [HX.out] at hc
            cases hc
            exact HB.out
        case measure => simp [intOf]; omega
    · have hki : ¬ (k : Int) < (s.size : Int) := by omega
      obtain rfl : k = s.size := by omega
      go_wp2
      go_ret
      exact ⟨ret_int (by rw [cnt_stop (j := s.size) HP.out (fun c hc => by have := (List.getElem?_eq_some_iff.1 hc).1; rw [len_list] at this; omega) (by rw [len_list]; omega)]), rfl⟩
set_option maxHeartbeats 1000000 in
set_option maxRecDepth 100000 in
theorem lexSkip_any (s : ByteArray) (hm : s.size ≤ 4194304) (k : Nat) (hk : k ≤ s.size) (w : World) :
    Calls Tryz.prog 57 #[.string s, .int .i64 (k : Nat)] w fun e w' => e = .returned (.int .i64 (k + skM (s.data.toList.drop k) : Nat)) ∧ w = w' := by
  go_enter Tryz.func57, Tryz.ntmps57
  go_wp2
  go_loop [1] (fun i => ∃ j : Nat, j ≤ s.size ∧ i = .int .i64 j ∧ j + skM (s.data.toList.drop j) = k + skM (s.data.toList.drop k)) (fun i => s.size - (intOf i).toNat)
  case atStart => exact ⟨k, hk, rfl, rfl⟩
  case round =>
    obtain ⟨j, hj, rfl, hp⟩ := hrel
    have HP := Lib.hid hp
    clear hp
    have hji : (j : Int) ≤ (s.size : Int) := by omega
    have HC := Lib.hid (fun w => countBlank (s.extract j s.size) (by rw [sfx_size]; omega) w)
    have HD := Lib.hid (fun w => countRem (s.extract j s.size) (by rw [sfx_size]; omega) w)
    have HL := Lib.hid (sfx_list s j)
    cases hb : Lib.hasPrefix (s.data.toList.drop j) [45, 45]
    · have hsn : sn (s.data.toList.drop j) = cnt blB (s.data.toList.drop j) := by unfold sn; rw [hb]; rfl
      have hle := sn_le (s.data.toList.drop j)
      rw [List.length_drop, len_list] at hle
      obtain ⟨N, hN⟩ : ∃ N, cnt blB (s.data.toList.drop j) = N := ⟨_, rfl⟩
      have HZ : N = 0 → skM (s.data.toList.drop j) = 0 := fun h => skM_zero (by rw [hsn, hN, h])
      have HY : N ≠ 0 → skM (s.data.toList.drop j) = N + skM (s.data.toList.drop (j + N)) := fun h => by
        have := skM_step (l := s.data.toList.drop j) (by rw [hsn, hN]; exact h)
        rw [hsn, hN, List.drop_drop] at this
        exact this
      rw [hsn, hN] at hle
      have HB := Lib.hid hb
      have HN := Lib.hid hN
      clear hN hsn hb
      by_cases hz : N = 0
      · have H0 := Lib.hid (HZ hz)
        clear HZ HY
        subst hz
        go_wp2_with (first
          | (go_at_call 81; refine (HC.out _).mono ?_; rintro e w' ⟨rfl, rfl⟩; rw [HL.out, HN.out])
          | (go_at_call 83; refine (Tryz.strings_HasPrefix (s.extract j s.size) _ _).mono ?_; rintro e w' ⟨rfl, rfl⟩; rw [HL.out, HB.out]))
        go_ret
        have h0 := H0.out
        have h1 := HP.out
        rw [h0] at h1
        exact ⟨ret_int (by omega), rfl⟩
      · have H0 := Lib.hid (HY hz)
        clear HZ HY
        have hni : ((N : Int) == 0) = false := by rw [beq_eq_false_iff_ne]; omega
        go_wp2_with (first
          | (go_at_call 81; refine (HC.out _).mono ?_; rintro e w' ⟨rfl, rfl⟩; rw [HL.out, HN.out])
          | (go_at_call 83; refine (Tryz.strings_HasPrefix (s.extract j s.size) _ _).mono ?_; rintro e w' ⟨rfl, rfl⟩; rw [HL.out, HB.out]))
        go_round
        case rel =>
          refine ⟨j + N, by omega, by go_num, ?_⟩
          have h0 := H0.out
          have h1 := HP.out
          rw [h0] at h1
          omega
        case measure => simp [intOf]; omega
    · have hsn : sn (s.data.toList.drop j) = cnt notNl (s.data.toList.drop j) := by unfold sn; rw [hb]; rfl
      have hle := sn_le (s.data.toList.drop j)
      rw [List.length_drop, len_list] at hle
      obtain ⟨N, hN⟩ : ∃ N, cnt notNl (s.data.toList.drop j) = N := ⟨_, rfl⟩
      have HZ : N = 0 → skM (s.data.toList.drop j) = 0 := fun h => skM_zero (by rw [hsn, hN, h])
      have HY : N ≠ 0 → skM (s.data.toList.drop j) = N + skM (s.data.toList.drop (j + N)) := fun h => by
        have := skM_step (l := s.data.toList.drop j) (by rw [hsn, hN]; exact h)
        rw [hsn, hN, List.drop_drop] at this
        exact this
      rw [hsn, hN] at hle
      have HB := Lib.hid hb
      have HN := Lib.hid hN
      clear hN hsn hb
      by_cases hz : N = 0
      · have H0 := Lib.hid (HZ hz)
        clear HZ HY
        subst hz
        go_wp2_with (first
          | (go_at_call 81; with_reducible refine (HC.out _).mono ?_; rintro e w' ⟨rfl, rfl⟩; rw [HL.out]; generalize cnt blB (List.drop j s.data.toList) = M)
          | (go_at_call 81; with_reducible refine (HD.out _).mono ?_; rintro e w' ⟨rfl, rfl⟩; rw [HL.out, HN.out])
          | (go_at_call 83; refine (Tryz.strings_HasPrefix (s.extract j s.size) _ _).mono ?_; rintro e w' ⟨rfl, rfl⟩; rw [HL.out, HB.out]))
        go_ret
        have h0 := H0.out
        have h1 := HP.out
        rw [h0] at h1
        exact ⟨ret_int (by omega), rfl⟩
      · have H0 := Lib.hid (HY hz)
        clear HZ HY
        have hni : ((N : Int) == 0) = false := by rw [beq_eq_false_iff_ne]; omega
        go_wp2_with (first
          | (go_at_call 81; with_reducible refine (HC.out _).mono ?_; rintro e w' ⟨rfl, rfl⟩; rw [HL.out]; generalize cnt blB (List.drop j s.data.toList) = M)
          | (go_at_call 81; with_reducible refine (HD.out _).mono ?_; rintro e w' ⟨rfl, rfl⟩; rw [HL.out, HN.out])
          | (go_at_call 83; refine (Tryz.strings_HasPrefix (s.extract j s.size) _ _).mono ?_; rintro e w' ⟨rfl, rfl⟩; rw [HL.out, HB.out]))
        go_round
        case rel =>
          refine ⟨j + N, by omega, by go_num, ?_⟩
          have h0 := H0.out
          have h1 := HP.out
          rw [h0] at h1
          omega
        case measure => simp [intOf]; omega
set_option maxHeartbeats 8000000 in
set_option maxRecDepth 100000 in
theorem lex_any (s : ByteArray) (hm : s.size ≤ 4194304) (w : World) (hw : EscW w) : Calls Tryz.prog 30 #[.string s] w (LexR s w) := by
  have hpos : 0 < w.heap.size := hw.pos
  have HE := Lib.hid hw
  clear hw
  by_cases hbig : 20000 < s.size
  · have db : decide ((20000 : Int) < (s.size : Int)) = true := by simp; omega
    have hR : lexM s = ([], 0, 9) := by unfold lexM; rw [if_pos hbig]
    unfold LexR
    rw [hR]
    go_enter Tryz.func30, Tryz.ntmps30
    go_wp2
    exact bodyPost_ret (v := .tuple #[.slice none 0 0, .int .i64 0, .int .i64 9]) (by simp [results, Tryz.results30, go_sem]) rfl ⟨_, rfl, TkRow.none _ _, Below.refl _ _⟩
  have db : decide ((20000 : Int) < (s.size : Int)) = false := by simp; omega
  obtain ⟨R, hR⟩ : ∃ R, lxM s (skM s.data.toList) [] = R := ⟨_, rfl⟩
  have hL : lexM s = R := by unfold lexM; rw [if_neg hbig, hR]
  unfold LexR
  rw [hL]
  clear hL
  have hsk0 := skM_le _ s.data.toList rfl
  rw [len_list] at hsk0
  have HK0 := Lib.hid (fun W => lexSkip_any s hm 0 (Nat.zero_le _) W)
  rw [List.drop_zero, Nat.zero_add] at HK0
  obtain ⟨z, hz, hzc⟩ := info34
  obtain ⟨i0, hi, hz0, hz1, hz2⟩ := info_parts hz
  have HI := Lib.hid hi
  have HZ0 := Lib.hid hz0
  have HZ1 := Lib.hid hz1
  have HZ2 := Lib.hid hz2
  have HZC := Lib.hid hzc
  clear hi hz0 hz1 hz2 hzc hz
  go_enter Tryz.func30, Tryz.ntmps30
  go_wp2_with (go_at_call 57; refine (HK0.out _).mono ?_; rintro e w1 ⟨rfl, rfl⟩)
  go_loopw [5, 6] (fun v i wr => ∃ (k : Nat) (acc : List (Tk × Nat)), i = .int .i64 k ∧ k ≤ s.size ∧ lxM s k acc = R ∧ acc.length ≤ 6000 ∧ Below w.heap.size w wr ∧ TkRow w.heap.size wr v acc) (fun _ i _ => s.size - (intOf i).toNat)
  case atStart => exact ⟨_, [], rfl, hsk0, hR, by simp, Below.refl _ _, TkRow.none _ _⟩
  case round =>
    obtain ⟨k, acc, rfl, hk, hT, hacc, hb, hrow⟩ := hrel
    have hbs := hb.size
    have HB := Lib.hid hb
    have HROW := Lib.hid hrow
    have HS := Lib.hid (lxM_step s k acc)
    rw [hT] at HS
    obtain ⟨ao, cap, rfl⟩ := hrow.shape
    clear hb hrow hT
    by_cases hlt : k < s.size
    · have hki : (k : Int) < (s.size : Int) := by omega
      have hle := firstT_le (s.extract k s.size)
      rw [sfx_size] at hle
      have HF := Lib.hid (fun W hW => first_any (s.extract k s.size) (by rw [sfx_size]; omega) W hW)
      have hQ : R = (if (firstT (s.extract k s.size)).2 = 0 then ([], k, 10)
        else if acc.length = 6000 then ([], k, 9)
        else lxM s (k + (firstT (s.extract k s.size)).2 + skM (s.data.toList.drop (k + (firstT (s.extract k s.size)).2))) (acc ++ [((firstT (s.extract k s.size)).1, k)])) := by
        rw [HS.out, if_neg (by omega)]
      clear HS
      generalize firstT (s.extract k s.size) = T at *
      obtain ⟨⟨tk, ts, tn⟩, m⟩ := T
      have HF2 : RowKit.Hid (∀ W, EscW W → Calls Tryz.prog 58 #[.string (s.extract k s.size)] W fun e w' => e = .returned (.tuple #[.agg #[.int .i64 tk, .string ts, .int .i64 tn, .int .i64 0], .int .i64 (m : Nat)]) ∧ Below W.heap.size W w') := HF
      clear HF
      have HEW : RowKit.Hid (EscW wr) := Lib.hid (HE.out.below HB.out hpos)
      simp only [] at hQ hle
      by_cases hm0 : m = 0
      · rw [if_pos hm0] at hQ
        subst hm0
        subst hQ
        go_wp2_with (go_at_call 58; refine (HF2.out _ HEW.out).mono ?_; rintro e w1 ⟨rfl, hb1⟩; have HB1 := Lib.hid hb1; have HZ3 := hb1.size; clear hb1)
        have hB1 := HB.out.trans (HB1.out.mono HB.out.size)
        exact bodyPost_ret (v := .tuple #[.slice none 0 0, .int .i64 (k : Nat), .int .i64 10]) (by simp [results, Tryz.results30, go_sem]) rfl ⟨_, rfl, TkRow.none _ _, hB1.alloc hB1.size _⟩
      · rw [if_neg hm0] at hQ
        have nm0 : ((m : Int) == 0) = false := by rw [beq_eq_false_iff_ne]; omega
        by_cases h6 : acc.length = 6000
        · rw [if_pos h6] at hQ
          have e6 : ((acc.length : Int) == 6000) = true := by rw [h6]; rfl
          subst hQ
          go_wp2_with (go_at_call 58; refine (HF2.out _ HEW.out).mono ?_; rintro e w1 ⟨rfl, hb1⟩; have HB1 := Lib.hid hb1; have HZ3 := hb1.size; clear hb1)
          have hB1 := HB.out.trans (HB1.out.mono HB.out.size)
          exact bodyPost_ret (v := .tuple #[.slice none 0 0, .int .i64 (k : Nat), .int .i64 9]) (by simp [results, Tryz.results30, go_sem]) rfl ⟨_, rfl, TkRow.none _ _, hB1.alloc hB1.size _⟩
        · rw [if_neg h6] at hQ
          have e6 : ((acc.length : Int) == 6000) = false := by rw [beq_eq_false_iff_ne]; omega
          have HKN := Lib.hid (fun W => lexSkip_any s hm (k + m) (by omega) W)
          have hskn := skM_le _ (s.data.toList.drop (k + m)) rfl
          rw [List.length_drop, len_list] at hskn
          generalize skM (s.data.toList.drop (k + m)) = S at *
          have HQ := Lib.hid hQ
          clear hQ
          go_wp2_with (first
            | (go_at_call 58; refine (HF2.out _ HEW.out).mono ?_; rintro e w1 ⟨rfl, hb1⟩; have HB1 := Lib.hid hb1; have HR1 := Lib.hid (HROW.out.below hb1); have HZ3 := hb1.size; clear hb1)
            | (go_at_call 57; refine (HKN.out _).mono ?_; rintro e w5 ⟨rfl, rfl⟩)
            | (at_builtin; refine (fun h : True → _ => h trivial) ?_))
          intro _
          refine wpList_append_own_at _ rfl _ _ 44 rfl w.heap.size 49 i0 z 4 40 Tryz.underlying44 HI.out HZ0.out HZ1.out HZ2.out HZC.out (by decide) _ acc.length (cellsT acc) rfl (HR1.out.below ((below_alloc w1 _).alloc (by simp) _)) ⟨w1.heap.size + 1, 0, none⟩ 1 1 [.int .i64 tk, .string ts, .int .i64 tn, .int .i64 (k : Nat)] rfl (by simp) (fun j u hu => (by
            rw [add_zero_none]
            have hN := hb_new (w1.alloc (.cells #[.int .i64 tk, .string ts, .int .i64 tn, .int .i64 (k : Nat)] 49)) (.cells #[.int .i64 tk, .string ts, .int .i64 tn, .int .i64 (k : Nat)] 49)
            rw [World.size_alloc] at hN
            match j, hu with
            | 0, hu => cases hu; exact hb_at hN 0 rfl
            | 1, hu => cases hu; exact hb_at hN 1 rfl
            | 2, hu => cases hu; exact hb_at hN 2 rfl
            | 3, hu => cases hu; exact hb_at hN 3 rfl
            | j + 4, hu => simp at hu)) (by simp [Value.oneCell']) (by unfold maxLen; omega) (by omega) (by have := HZ3; simp; omega) ?_
          intro v4 w4 ho4 hg4 _ hblk4
          have HO4 := Lib.hid ho4
          have HG4 := Lib.hid hg4
          clear ho4 hg4 hblk4
          go_wp2_with (go_at_call 57; refine (HKN.out _).mono ?_; rintro e w5 ⟨rfl, rfl⟩)
          have hB1 := HB.out.trans (HB1.out.mono HB.out.size)
          have hB2 := hB1.alloc hB1.size (.cells #[.int .i64 tk, .string ts, .int .i64 tn, .int .i64 (k : Nat)] 49)
          have hB3 := hB2.alloc hB2.size (.cells #[.int .i64 tk, .string ts, .int .i64 tn, .int .i64 (k : Nat)] 49)
          have hB4 := hB3.grown HG4.out hB3.size (fun g hg => by have := (HR1.out.lt g hg).1; omega)
          refine ⟨⟨k + m + S, acc ++ [(⟨tk, ts, tn⟩, k)], rfl, by omega, HQ.out.symm, by simp; omega, hB4, ?_⟩, by simp [intOf]; omega⟩
          unfold TkRow
          rw [cellsT_snoc]
          simpa using HO4.out
    · have hki : ¬ (k : Int) < (s.size : Int) := by omega
      have hRn : R = (acc, 0, 0) := by rw [HS.out, if_pos (by omega)]
      subst hRn
      go_wp2
      exact bodyPost_ret (v := .tuple #[.slice ao acc.length cap, .int .i64 0, .int .i64 0]) (by simp [results, Tryz.results30, go_sem]) rfl ⟨_, rfl, HROW.out, HB.out⟩
end Go.Proofs.YtlbnaddgdgbckaaGreatDoor
