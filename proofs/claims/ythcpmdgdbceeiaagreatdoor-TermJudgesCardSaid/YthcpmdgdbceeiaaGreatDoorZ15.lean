/- Texts in a row: Lm Ln Lo. -/
import Derived.Test.YthcpmdgdbceeiaaGreatDoorZ14
/- Variables, as they are read. -/
namespace Go.Proofs.YthcpmdgdbceeiaaGreatDoor
open Go.RowKit
set_option linter.unusedSimpArgs false
set_option linter.unusedVariables false
def headS : Option UInt8 → Bool
  | none => false
  | some c => smB c
/-- What the variable behind a mark is. -/
def varT (s : ByteArray) : Tk × Nat :=
  if cnt vrB (s.data.toList.drop 1) = 0 ∨ 29 < cnt vrB (s.data.toList.drop 1) ∨ headS s.data.toList[1]? = false then (tk0, 0)
  else (⟨3, ⟨((s.data.toList.drop 1).take (cnt vrB (s.data.toList.drop 1))).toArray⟩, 0⟩, 1 + cnt vrB (s.data.toList.drop 1))
theorem trim_mark {s : ByteArray} (h : s.data.toList[0]? = some 39) : Lib.trimPrefix s.data.toList [39] = s.data.toList.drop 1 := by
  unfold Lib.trimPrefix Lib.hasPrefix
  cases e : s.data.toList with
  | nil => rw [e] at h; simp at h
  | cons c l => rw [e] at h; simp at h; subst h; simp
set_option maxHeartbeats 4000000 in
set_option maxRecDepth 100000 in
theorem firstVar_any (s : ByteArray) (hm : s.size ≤ 4194304) (h39 : s.data.toList[0]? = some 39) (w : World) :
    Calls Tryz.prog 79 #[.string s] w fun e w' => e = .returned (.tuple #[(varT s).1.v 0, .int .i64 (varT s).2]) ∧ Below w.heap.size w w' := by
  have HT := Lib.hid (fun W => (Tryz.strings_TrimPrefix s ⟨#[39]⟩ W).mono fun e w' (h : _ ∧ _) => (⟨by rw [h.1]; exact congrArg (fun l : List UInt8 => Ending.returned (.string ⟨l.toArray⟩)) (trim_mark h39), h.2.symm⟩ : e = .returned (.string ⟨(s.data.toList.drop 1).toArray⟩) ∧ W = w'))
  have hln : s.data.toList.length = 1 + (s.data.toList.drop 1).length := by
    have := (List.getElem?_eq_some_iff.1 h39).1
    rw [List.length_drop]
    omega
  rw [len_list] at hln
  have hd1 : s.data.toList[1]? = (s.data.toList.drop 1)[0]? := by rw [List.getElem?_drop]
  obtain ⟨D, hD⟩ : ∃ D : ByteArray, D.data.toList = s.data.toList.drop 1 := ⟨⟨(s.data.toList.drop 1).toArray⟩, rfl⟩
  have hDD : (⟨(s.data.toList.drop 1).toArray⟩ : ByteArray) = D := by rw [← hD]
  rw [hDD] at HT
  have hV : varT s = (if cnt vrB D.data.toList = 0 ∨ 29 < cnt vrB D.data.toList ∨ headS D.data.toList[0]? = false then (tk0, 0) else (⟨3, D.extract 0 (cnt vrB D.data.toList), 0⟩, 1 + cnt vrB D.data.toList)) := by
    unfold varT
    rw [hd1, ← hD]
    have h1 : (⟨(D.data.toList.take (cnt vrB D.data.toList)).toArray⟩ : ByteArray) = D.extract 0 (cnt vrB D.data.toList) := by
      apply toList_injX
      rw [take_list, ByteArray.toList_eq]
    rw [h1]
  rw [hV]
  rw [← hD, len_list] at hln
  clear hV hDD hD hd1 h39
  have hDm : D.size ≤ 4194304 := by omega
  have hle := cnt_le vrB D.data.toList
  rw [len_list] at hle
  have HC := Lib.hid (fun W => countVar D hDm W)
  obtain ⟨N, hN⟩ : ∃ N, cnt vrB D.data.toList = N := ⟨_, rfl⟩
  rw [hN] at hle HC ⊢
  clear hN
  have hNi : (N : Int) ≤ (D.size : Int) := by omega
  obtain ⟨E, hE⟩ : ∃ E, D.extract 0 N = E := ⟨_, rfl⟩
  have hEs : E.size = N := by rw [← hE, ByteArray.size_extract]; omega
  have hEL : E.data.toList = D.data.toList.take N := by rw [← hE, ← ByteArray.toList_eq, take_list]
  by_cases h0 : N = 0
  · rw [if_pos (.inl h0)]
    subst h0
    have q0 : (E.toList == ([] : List UInt8)) = true := by rw [ByteArray.toList_eq, hEL]; rfl
    clear hEL
    go_enter Tryz.func79, Tryz.ntmps79
    go_wp2_with (first
      | (go_at_call 110; ((with_reducible refine (HT.out _).mono ?_); rintro e w1 ⟨rfl, rfl⟩))
      | (go_at_call 75; ((with_reducible refine (HC.out _).mono ?_); rintro e w1 ⟨rfl, rfl⟩)))
    have hB := below_alloc w (.cells #[.int .i64 0, .string ⟨#[]⟩, .int .i64 0, .int .i64 0] 67)
    have k0 := hb_new w (.cells #[.int .i64 0, .string ⟨#[]⟩, .int .i64 0, .int .i64 0] 67)
    have r0 := hb_at k0 0 rfl
    have r1 := hb_at k0 1 rfl
    have r2 := hb_at k0 2 rfl
    have r3 := hb_at k0 3 rfl
    exact bodyPost_ret (v := .tuple #[tk0.v 0, .int .i64 0]) (by simp [results, Tryz.results79, go_sem, r0, r1, r2, r3, tk0, Tk.v]) rfl ⟨rfl, by first | exact hB | exact (((hB.setCell (by simp) _).setCell (by simp) _).setCell (by simp) _).setCell (by simp) _⟩
  rw [hE]
  have q0 : (E.toList == ([] : List UInt8)) = false := by
    rw [beq_eq_false_iff_ne]
    intro e
    have e1 := congrArg List.length e
    rw [ByteArray.toList_eq, len_list, hEs] at e1
    exact h0 e1
  by_cases h30 : 29 < N
  · rw [if_pos (.inr (.inl h30))]
    have d30 : decide ((30 : Int) < 1 + (N : Int)) = true := by simp; omega
    clear hEL
    go_enter Tryz.func79, Tryz.ntmps79
    go_wp2_with (first
      | (go_at_call 110; ((with_reducible refine (HT.out _).mono ?_); rintro e w1 ⟨rfl, rfl⟩))
      | (go_at_call 75; ((with_reducible refine (HC.out _).mono ?_); rintro e w1 ⟨rfl, rfl⟩)))
    have hB := below_alloc w (.cells #[.int .i64 0, .string ⟨#[]⟩, .int .i64 0, .int .i64 0] 67)
    have k0 := hb_new w (.cells #[.int .i64 0, .string ⟨#[]⟩, .int .i64 0, .int .i64 0] 67)
    have r0 := hb_at k0 0 rfl
    have r1 := hb_at k0 1 rfl
    have r2 := hb_at k0 2 rfl
    have r3 := hb_at k0 3 rfl
    exact bodyPost_ret (v := .tuple #[tk0.v 0, .int .i64 0]) (by simp [results, Tryz.results79, go_sem, r0, r1, r2, r3, tk0, Tk.v]) rfl ⟨rfl, by first | exact hB | exact (((hB.setCell (by simp) _).setCell (by simp) _).setCell (by simp) _).setCell (by simp) _⟩
  have d30 : decide ((30 : Int) < 1 + (N : Int)) = false := by simp; omega
  have hsz : 0 < E.size := by omega
  have hsi : (0 : Int) < (E.size : Int) := by omega
  have HS := Lib.hid (fun W => isSmall_any E[0] W)
  have hH : D.data.toList[0]? = some E[0] := by
    have h1 := at_list E 0 hsz
    rw [hEL, List.getElem?_take, if_pos (by omega)] at h1
    exact h1
  rw [hH]
  rw [show headS (some E[0]) = smB E[0] from rfl]
  clear hH hEL
  rcases (Bool.eq_false_or_eq_true (smB E[0])).symm with hb | hb
  · rw [if_pos (.inr (.inr hb))]
    rw [hb] at HS
    clear hb
    go_enter Tryz.func79, Tryz.ntmps79
    go_wp2_with (first
      | (go_at_call 110; ((with_reducible refine (HT.out _).mono ?_); rintro e w1 ⟨rfl, rfl⟩))
      | (go_at_call 75; ((with_reducible refine (HC.out _).mono ?_); rintro e w1 ⟨rfl, rfl⟩))
      | (go_at_call 74; ((with_reducible refine (HS.out _).mono ?_); rintro e w1 ⟨rfl, rfl⟩)))
    have hB := below_alloc w (.cells #[.int .i64 0, .string ⟨#[]⟩, .int .i64 0, .int .i64 0] 67)
    have k0 := hb_new w (.cells #[.int .i64 0, .string ⟨#[]⟩, .int .i64 0, .int .i64 0] 67)
    have r0 := hb_at k0 0 rfl
    have r1 := hb_at k0 1 rfl
    have r2 := hb_at k0 2 rfl
    have r3 := hb_at k0 3 rfl
    exact bodyPost_ret (v := .tuple #[tk0.v 0, .int .i64 0]) (by simp [results, Tryz.results79, go_sem, r0, r1, r2, r3, tk0, Tk.v]) rfl ⟨rfl, by first | exact hB | exact (((hB.setCell (by simp) _).setCell (by simp) _).setCell (by simp) _).setCell (by simp) _⟩
  · rw [if_neg (by rw [hb]; simp; omega)]
    rw [hb] at HS
    clear hb
    have HL := Lib.hid (fun W => clone_anyX E (by omega) W)
    go_enter Tryz.func79, Tryz.ntmps79
    go_wp2_with (first
      | (go_at_call 110; ((with_reducible refine (HT.out _).mono ?_); rintro e w1 ⟨rfl, rfl⟩))
      | (go_at_call 75; ((with_reducible refine (HC.out _).mono ?_); rintro e w1 ⟨rfl, rfl⟩))
      | (go_at_call 74; ((with_reducible refine (HS.out _).mono ?_); rintro e w1 ⟨rfl, rfl⟩))
      | (go_at_call 109; ((with_reducible refine (HL.out _).mono ?_); rintro e w2 ⟨rfl, hb⟩; obtain ⟨hc, hf⟩ := bcellX hb; have z2 := hb.size; rw [World.size_alloc] at z2; have y2 : w.heap.size < w2.heap.size := (by omega))))
    have hB : Below w.heap.size w w2 := (below_alloc w _).trans (hb.mono (by simp))
    have k0 := (hb_below (hb_new w (.cells #[.int .i64 0, .string ⟨#[]⟩, .int .i64 0, .int .i64 0] 67)) hb (by simp))
    have r0 := hb_at k0 0 rfl
    have r1 := hb_at k0 1 rfl
    have r2 := hb_at k0 2 rfl
    have r3 := hb_at k0 3 rfl
    exact bodyPost_ret (v := .tuple #[Tk.v ⟨3, E, 0⟩ 0, .int .i64 (1 + (N : Int))]) (by simp [results, Tryz.results79, go_sem, r0, r1, r2, r3, Tk.v]) rfl ⟨rfl, (((hB.setCell (by simp) _).setCell (by simp) _).setCell (by simp) _).setCell (by simp) _⟩
end Go.Proofs.YthcpmdgdbceeiaaGreatDoor
/- The first token. -/
namespace Go.Proofs.YthcpmdgdbceeiaaGreatDoor
open Go.RowKit
set_option linter.unusedSimpArgs false
set_option linter.unusedVariables false
/-- What the token at the beginning is. -/
def firstT (s : ByteArray) : Tk × Nat := match s.data.toList[0]? with
  | none => (tk0, 0)
  | some c =>
    if (smB c || (decide (c.toNat = 95) && decide (1 < cnt nmB s.data.toList))) = true then nameT 1 s
    else if grB c = true then nameT 2 s
    else if c.toNat = 39 then varT s
    else if c.toNat = 34 then textT s
    else if (dgB c || (decide (c.toNat = 45) && !Lib.hasPrefix s.data.toList [45, 62])) = true then numT s
    else signT s c.toNat
theorem bytes_far {c : UInt8} : (c.toNat = 39 ∨ c.toNat = 34 ∨ c.toNat = 45 ∨ c.toNat = 95 → smB c = false ∧ grB c = false ∧ dgB c = false) ∧ (grB c = true → smB c = false ∧ dgB c = false) ∧ (dgB c = true → smB c = false ∧ grB c = false) := by
  unfold smB grB dgB
  generalize c.toNat = n
  simp only [Bool.and_eq_true, Bool.and_eq_false_iff, decide_eq_true_eq, decide_eq_false_iff_not]
  omega
set_option maxHeartbeats 8000000 in
set_option maxRecDepth 100000 in
theorem first_any (s : ByteArray) (hm : s.size ≤ 4194304) (w : World) (hw : EscW w) :
    Calls Tryz.prog 65 #[.string s] w fun e w' => e = .returned (.tuple #[(firstT s).1.v 0, .int .i64 (firstT s).2]) ∧ Below w.heap.size w w' := by
  have HE := Lib.hid hw
  clear hw
  by_cases hz : 0 < s.size
  · have hci : (0 : Int) < (s.size : Int) := by omega
    have hne := ne_nil hz
    have hat := at_list s 0 hz
    have hF : firstT s = (if (smB s[0] || (decide (s[0].toNat = 95) && decide (1 < cnt nmB s.data.toList))) = true then nameT 1 s
        else if grB s[0] = true then nameT 2 s
        else if s[0].toNat = 39 then varT s
        else if s[0].toNat = 34 then textT s
        else if (dgB s[0] || (decide (s[0].toNat = 45) && !Lib.hasPrefix s.data.toList [45, 62])) = true then numT s
        else signT s s[0].toNat) := by unfold firstT; rw [hat]
    rw [hF]
    clear hF
    have h39s : s[0].toNat = 39 → s.data.toList[0]? = some 39 := fun h => by rw [hat]; exact congrArg some (UInt8.toNat_inj.1 h)
    have HS := Lib.hid (fun W => isSmall_any s[0] W)
    have HG := Lib.hid (fun W => isGreat_any s[0] W)
    have HD := Lib.hid (fun W => lexDigit_any s[0] W)
    have HN := Lib.hid (fun W => countName s hm W)
    have far := bytes_far (c := s[0])
    clear hat
    rcases (Bool.eq_false_or_eq_true (smB s[0])) with hs | hs
    · rw [if_pos (by rw [hs]; rfl)]
      rw [hs] at HS
      clear hs far
      have HX0 : ∀ W, EscW W → Calls Tryz.prog 77 #[.string s, .int .i64 1] W fun e w' => e = .returned (.tuple #[(nameT 1 s).1.v 0, .int .i64 (nameT 1 s).2]) ∧ Below W.heap.size W w' := fun W hW => firstName_anyX s 1 hm W
      generalize nameT 1 s = T at HX0 ⊢
      obtain ⟨⟨tk, ts, tn⟩, m⟩ := T
      have HX : RowKit.Hid (∀ W, EscW W → Calls Tryz.prog 77 #[.string s, .int .i64 1] W fun e w' => e = .returned (.tuple #[.agg #[.int .i64 tk, .string ts, .int .i64 tn, .int .i64 0], .int .i64 (m : Nat)]) ∧ Below W.heap.size W w') := Lib.hid HX0
      clear HX0
      go_enter Tryz.func65, Tryz.ntmps65
      go_wp2_with (first
        | (go_at_call 77; refine (HX.out _ (HE.out.alloc _)).mono ?_; rintro e w2 ⟨rfl, hb⟩; obtain ⟨hc, hf⟩ := bcellX hb; have z2 := hb.size; rw [World.size_alloc] at z2; have y2 : w.heap.size < w2.heap.size := (by omega))
        | (go_at_call 74; ((with_reducible refine (HS.out _).mono ?_); rintro e w1 ⟨rfl, rfl⟩)))
      have hB : Below w.heap.size w w2 := (below_alloc w _).trans (hb.mono (by simp))
      have k0 := (hb_below (hb_new w (.cells #[.int .i64 0, .string ⟨#[]⟩, .int .i64 0, .int .i64 0] 67)) hb (by simp))
      have r0 := hb_at k0 0 rfl
      have r1 := hb_at k0 1 rfl
      have r2 := hb_at k0 2 rfl
      have r3 := hb_at k0 3 rfl
      exact bodyPost_ret (v := .tuple #[.agg #[.int .i64 tk, .string ts, .int .i64 tn, .int .i64 0], .int .i64 (m : Nat)]) (by simp [results, Tryz.results65, go_sem, r0, r1, r2, r3]) rfl ⟨rfl, (((hB.setCell (by simp) _).setCell (by simp) _).setCell (by simp) _).setCell (by simp) _⟩
    by_cases h95 : s[0].toNat = 95
    · have e95 : ((s[0].toNat : Int) == 95) = true := by rw [h95]; rfl
      have f39 : ((s[0].toNat : Int) == (((⟨#[39]⟩ : ByteArray)[0]'(by show 0 < 1; omega)).toNat : Int)) = false := by rw [h95]; rfl
      have f34 : ((s[0].toNat : Int) == 34) = false := by rw [h95]; rfl
      have f45 : ((s[0].toNat : Int) == (((⟨#[45]⟩ : ByteArray)[0]'(by show 0 < 1; omega)).toNat : Int)) = false := by rw [h95]; rfl
      have hgd := far.1 (.inr (.inr (.inr h95)))
      rw [hs] at HS
      rw [hgd.2.1] at HG
      rw [hgd.2.2] at HD
      by_cases hc1 : 1 < cnt nmB s.data.toList
      · rw [if_pos (by rw [hs, h95]; simp [hc1])]
        have d1 : decide ((1 : Int) < (cnt nmB s.data.toList : Nat)) = true := by simp; omega
        clear hs far hgd h39s h95
        have HX0 : ∀ W, EscW W → Calls Tryz.prog 77 #[.string s, .int .i64 1] W fun e w' => e = .returned (.tuple #[(nameT 1 s).1.v 0, .int .i64 (nameT 1 s).2]) ∧ Below W.heap.size W w' := fun W hW => firstName_anyX s 1 hm W
        generalize nameT 1 s = T at HX0 ⊢
        obtain ⟨⟨tk, ts, tn⟩, m⟩ := T
        have HX : RowKit.Hid (∀ W, EscW W → Calls Tryz.prog 77 #[.string s, .int .i64 1] W fun e w' => e = .returned (.tuple #[.agg #[.int .i64 tk, .string ts, .int .i64 tn, .int .i64 0], .int .i64 (m : Nat)]) ∧ Below W.heap.size W w') := Lib.hid HX0
        clear HX0
        go_enter Tryz.func65, Tryz.ntmps65
        go_wp2_with (first
          | (go_at_call 77; refine (HX.out _ (HE.out.alloc _)).mono ?_; rintro e w2 ⟨rfl, hb⟩; obtain ⟨hc, hf⟩ := bcellX hb; have z2 := hb.size; rw [World.size_alloc] at z2; have y2 : w.heap.size < w2.heap.size := (by omega))
          | (go_at_call 74; ((with_reducible refine (HS.out _).mono ?_); rintro e w1 ⟨rfl, rfl⟩))
          | (go_at_call 75; ((with_reducible refine (HN.out _).mono ?_); rintro e w1 ⟨rfl, rfl⟩)))
        have hB : Below w.heap.size w w2 := (below_alloc w _).trans (hb.mono (by simp))
        have k0 := (hb_below (hb_new w (.cells #[.int .i64 0, .string ⟨#[]⟩, .int .i64 0, .int .i64 0] 67)) hb (by simp))
        have r0 := hb_at k0 0 rfl
        have r1 := hb_at k0 1 rfl
        have r2 := hb_at k0 2 rfl
        have r3 := hb_at k0 3 rfl
        exact bodyPost_ret (v := .tuple #[.agg #[.int .i64 tk, .string ts, .int .i64 tn, .int .i64 0], .int .i64 (m : Nat)]) (by simp [results, Tryz.results65, go_sem, r0, r1, r2, r3]) rfl ⟨rfl, (((hB.setCell (by simp) _).setCell (by simp) _).setCell (by simp) _).setCell (by simp) _⟩
      · rw [if_neg (by rw [hs, h95]; simp [hc1]), if_neg (by rw [hgd.2.1]; simp), if_neg (by omega), if_neg (by omega), if_neg (by rw [hgd.2.2, h95]; simp)]
        have d1 : decide ((1 : Int) < (cnt nmB s.data.toList : Nat)) = false := by simp; omega
        have hsg : s[0].toNat = 45 → 2 ≤ s.size := by omega
        clear hs far hgd h39s h95
        have HX0 : ∀ W, EscW W → Calls Tryz.prog 84 #[.string s] W fun e w' => e = .returned (.tuple #[(signT s s[0].toNat).1.v 0, .int .i64 (signT s s[0].toNat).2]) ∧ Below W.heap.size W w' := fun W hW => firstSign_any s hm hz hsg W
        generalize signT s s[0].toNat = T at HX0 ⊢
        obtain ⟨⟨tk, ts, tn⟩, m⟩ := T
        have HX : RowKit.Hid (∀ W, EscW W → Calls Tryz.prog 84 #[.string s] W fun e w' => e = .returned (.tuple #[.agg #[.int .i64 tk, .string ts, .int .i64 tn, .int .i64 0], .int .i64 (m : Nat)]) ∧ Below W.heap.size W w') := Lib.hid HX0
        clear HX0
        go_enter Tryz.func65, Tryz.ntmps65
        go_wp2_with (first
          | (go_at_call 84; refine (HX.out _ (HE.out.alloc _)).mono ?_; rintro e w2 ⟨rfl, hb⟩; obtain ⟨hc, hf⟩ := bcellX hb; have z2 := hb.size; rw [World.size_alloc] at z2; have y2 : w.heap.size < w2.heap.size := (by omega))
          | (go_at_call 74; ((with_reducible refine (HS.out _).mono ?_); rintro e w1 ⟨rfl, rfl⟩))
          | (go_at_call 75; ((with_reducible refine (HN.out _).mono ?_); rintro e w1 ⟨rfl, rfl⟩))
          | (go_at_call 78; ((with_reducible refine (HG.out _).mono ?_); rintro e w1 ⟨rfl, rfl⟩))
          | (go_at_call 81; ((with_reducible refine (HD.out _).mono ?_); rintro e w1 ⟨rfl, rfl⟩)))
        have hB : Below w.heap.size w w2 := (below_alloc w _).trans (hb.mono (by simp))
        have k0 := (hb_below (hb_new w (.cells #[.int .i64 0, .string ⟨#[]⟩, .int .i64 0, .int .i64 0] 67)) hb (by simp))
        have r0 := hb_at k0 0 rfl
        have r1 := hb_at k0 1 rfl
        have r2 := hb_at k0 2 rfl
        have r3 := hb_at k0 3 rfl
        exact bodyPost_ret (v := .tuple #[.agg #[.int .i64 tk, .string ts, .int .i64 tn, .int .i64 0], .int .i64 (m : Nat)]) (by simp [results, Tryz.results65, go_sem, r0, r1, r2, r3]) rfl ⟨rfl, (((hB.setCell (by simp) _).setCell (by simp) _).setCell (by simp) _).setCell (by simp) _⟩
    have e95 : ((s[0].toNat : Int) == 95) = false := by rw [beq_eq_false_iff_ne]; omega
    rw [if_neg (by rw [hs]; simp [h95])]
    rw [hs] at HS
    rcases (Bool.eq_false_or_eq_true (grB s[0])) with hg | hg
    · rw [if_pos hg]
      rw [hg] at HG
      clear hs far hg h39s h95
      have HX0 : ∀ W, EscW W → Calls Tryz.prog 77 #[.string s, .int .i64 2] W fun e w' => e = .returned (.tuple #[(nameT 2 s).1.v 0, .int .i64 (nameT 2 s).2]) ∧ Below W.heap.size W w' := fun W hW => firstName_anyX s 2 hm W
      generalize nameT 2 s = T at HX0 ⊢
      obtain ⟨⟨tk, ts, tn⟩, m⟩ := T
      have HX : RowKit.Hid (∀ W, EscW W → Calls Tryz.prog 77 #[.string s, .int .i64 2] W fun e w' => e = .returned (.tuple #[.agg #[.int .i64 tk, .string ts, .int .i64 tn, .int .i64 0], .int .i64 (m : Nat)]) ∧ Below W.heap.size W w') := Lib.hid HX0
      clear HX0
      go_enter Tryz.func65, Tryz.ntmps65
      go_wp2_with (first
        | (go_at_call 77; refine (HX.out _ (HE.out.alloc _)).mono ?_; rintro e w2 ⟨rfl, hb⟩; obtain ⟨hc, hf⟩ := bcellX hb; have z2 := hb.size; rw [World.size_alloc] at z2; have y2 : w.heap.size < w2.heap.size := (by omega))
        | (go_at_call 74; ((with_reducible refine (HS.out _).mono ?_); rintro e w1 ⟨rfl, rfl⟩))
        | (go_at_call 78; ((with_reducible refine (HG.out _).mono ?_); rintro e w1 ⟨rfl, rfl⟩)))
      have hB : Below w.heap.size w w2 := (below_alloc w _).trans (hb.mono (by simp))
      have k0 := (hb_below (hb_new w (.cells #[.int .i64 0, .string ⟨#[]⟩, .int .i64 0, .int .i64 0] 67)) hb (by simp))
      have r0 := hb_at k0 0 rfl
      have r1 := hb_at k0 1 rfl
      have r2 := hb_at k0 2 rfl
      have r3 := hb_at k0 3 rfl
      exact bodyPost_ret (v := .tuple #[.agg #[.int .i64 tk, .string ts, .int .i64 tn, .int .i64 0], .int .i64 (m : Nat)]) (by simp [results, Tryz.results65, go_sem, r0, r1, r2, r3]) rfl ⟨rfl, (((hB.setCell (by simp) _).setCell (by simp) _).setCell (by simp) _).setCell (by simp) _⟩
    rw [if_neg (by rw [hg]; simp)]
    rw [hg] at HG
    by_cases h39 : s[0].toNat = 39
    · have e39 : ((s[0].toNat : Int) == (((⟨#[39]⟩ : ByteArray)[0]'(by show 0 < 1; omega)).toNat : Int)) = true := by rw [h39]; rfl
      have h39' := h39s h39
      rw [if_pos h39]
      clear hs far hg h39s h95 h39
      have HX0 : ∀ W, EscW W → Calls Tryz.prog 79 #[.string s] W fun e w' => e = .returned (.tuple #[(varT s).1.v 0, .int .i64 (varT s).2]) ∧ Below W.heap.size W w' := fun W hW => firstVar_any s hm h39' W
      generalize varT s = T at HX0 ⊢
      obtain ⟨⟨tk, ts, tn⟩, m⟩ := T
      have HX : RowKit.Hid (∀ W, EscW W → Calls Tryz.prog 79 #[.string s] W fun e w' => e = .returned (.tuple #[.agg #[.int .i64 tk, .string ts, .int .i64 tn, .int .i64 0], .int .i64 (m : Nat)]) ∧ Below W.heap.size W w') := Lib.hid HX0
      clear HX0
      go_enter Tryz.func65, Tryz.ntmps65
      go_wp2_with (first
        | (go_at_call 79; refine (HX.out _ (HE.out.alloc _)).mono ?_; rintro e w2 ⟨rfl, hb⟩; obtain ⟨hc, hf⟩ := bcellX hb; have z2 := hb.size; rw [World.size_alloc] at z2; have y2 : w.heap.size < w2.heap.size := (by omega))
        | (go_at_call 74; ((with_reducible refine (HS.out _).mono ?_); rintro e w1 ⟨rfl, rfl⟩))
        | (go_at_call 78; ((with_reducible refine (HG.out _).mono ?_); rintro e w1 ⟨rfl, rfl⟩)))
      have hB : Below w.heap.size w w2 := (below_alloc w _).trans (hb.mono (by simp))
      have k0 := (hb_below (hb_new w (.cells #[.int .i64 0, .string ⟨#[]⟩, .int .i64 0, .int .i64 0] 67)) hb (by simp))
      have r0 := hb_at k0 0 rfl
      have r1 := hb_at k0 1 rfl
      have r2 := hb_at k0 2 rfl
      have r3 := hb_at k0 3 rfl
      exact bodyPost_ret (v := .tuple #[.agg #[.int .i64 tk, .string ts, .int .i64 tn, .int .i64 0], .int .i64 (m : Nat)]) (by simp [results, Tryz.results65, go_sem, r0, r1, r2, r3]) rfl ⟨rfl, (((hB.setCell (by simp) _).setCell (by simp) _).setCell (by simp) _).setCell (by simp) _⟩
    have e39 : ((s[0].toNat : Int) == (((⟨#[39]⟩ : ByteArray)[0]'(by show 0 < 1; omega)).toNat : Int)) = false := by rw [beq_eq_false_iff_ne]; intro e; exact h39 (by have e1 : (s[0].toNat : Int) = 39 := e; omega)
    rw [if_neg h39]
    by_cases h34 : s[0].toNat = 34
    · have e34 : ((s[0].toNat : Int) == 34) = true := by rw [h34]; rfl
      rw [if_pos h34]
      clear hs far hg h39s h95 h39 h34
      have HX0 : ∀ W, EscW W → Calls Tryz.prog 80 #[.string s] W fun e w' => e = .returned (.tuple #[(textT s).1.v 0, .int .i64 (textT s).2]) ∧ Below W.heap.size W w' := fun W hW => firstText_any s hm W hW
      generalize textT s = T at HX0 ⊢
      obtain ⟨⟨tk, ts, tn⟩, m⟩ := T
      have HX : RowKit.Hid (∀ W, EscW W → Calls Tryz.prog 80 #[.string s] W fun e w' => e = .returned (.tuple #[.agg #[.int .i64 tk, .string ts, .int .i64 tn, .int .i64 0], .int .i64 (m : Nat)]) ∧ Below W.heap.size W w') := Lib.hid HX0
      clear HX0
      go_enter Tryz.func65, Tryz.ntmps65
      go_wp2_with (first
        | (go_at_call 80; refine (HX.out _ (HE.out.alloc _)).mono ?_; rintro e w2 ⟨rfl, hb⟩; obtain ⟨hc, hf⟩ := bcellX hb; have z2 := hb.size; rw [World.size_alloc] at z2; have y2 : w.heap.size < w2.heap.size := (by omega))
        | (go_at_call 74; ((with_reducible refine (HS.out _).mono ?_); rintro e w1 ⟨rfl, rfl⟩))
        | (go_at_call 78; ((with_reducible refine (HG.out _).mono ?_); rintro e w1 ⟨rfl, rfl⟩)))
      have hB : Below w.heap.size w w2 := (below_alloc w _).trans (hb.mono (by simp))
      have k0 := (hb_below (hb_new w (.cells #[.int .i64 0, .string ⟨#[]⟩, .int .i64 0, .int .i64 0] 67)) hb (by simp))
      have r0 := hb_at k0 0 rfl
      have r1 := hb_at k0 1 rfl
      have r2 := hb_at k0 2 rfl
      have r3 := hb_at k0 3 rfl
      exact bodyPost_ret (v := .tuple #[.agg #[.int .i64 tk, .string ts, .int .i64 tn, .int .i64 0], .int .i64 (m : Nat)]) (by simp [results, Tryz.results65, go_sem, r0, r1, r2, r3]) rfl ⟨rfl, (((hB.setCell (by simp) _).setCell (by simp) _).setCell (by simp) _).setCell (by simp) _⟩
    have e34 : ((s[0].toNat : Int) == 34) = false := by rw [beq_eq_false_iff_ne]; omega
    rw [if_neg h34]
    rcases (Bool.eq_false_or_eq_true (dgB s[0])) with hd | hd
    · rw [if_pos (by rw [hd]; rfl)]
      rw [hd] at HD
      clear hs far hg h39s h95 h39 h34 hd
      have HX0 : ∀ W, EscW W → Calls Tryz.prog 83 #[.string s] W fun e w' => e = .returned (.tuple #[(numT s).1.v 0, .int .i64 (numT s).2]) ∧ Below W.heap.size W w' := fun W hW => firstNumber_any s hm W
      generalize numT s = T at HX0 ⊢
      obtain ⟨⟨tk, ts, tn⟩, m⟩ := T
      have HX : RowKit.Hid (∀ W, EscW W → Calls Tryz.prog 83 #[.string s] W fun e w' => e = .returned (.tuple #[.agg #[.int .i64 tk, .string ts, .int .i64 tn, .int .i64 0], .int .i64 (m : Nat)]) ∧ Below W.heap.size W w') := Lib.hid HX0
      clear HX0
      go_enter Tryz.func65, Tryz.ntmps65
      go_wp2_with (first
        | (go_at_call 83; refine (HX.out _ (HE.out.alloc _)).mono ?_; rintro e w2 ⟨rfl, hb⟩; obtain ⟨hc, hf⟩ := bcellX hb; have z2 := hb.size; rw [World.size_alloc] at z2; have y2 : w.heap.size < w2.heap.size := (by omega))
        | (go_at_call 74; ((with_reducible refine (HS.out _).mono ?_); rintro e w1 ⟨rfl, rfl⟩))
        | (go_at_call 78; ((with_reducible refine (HG.out _).mono ?_); rintro e w1 ⟨rfl, rfl⟩))
        | (go_at_call 81; ((with_reducible refine (HD.out _).mono ?_); rintro e w1 ⟨rfl, rfl⟩)))
      have hB : Below w.heap.size w w2 := (below_alloc w _).trans (hb.mono (by simp))
      have k0 := (hb_below (hb_new w (.cells #[.int .i64 0, .string ⟨#[]⟩, .int .i64 0, .int .i64 0] 67)) hb (by simp))
      have r0 := hb_at k0 0 rfl
      have r1 := hb_at k0 1 rfl
      have r2 := hb_at k0 2 rfl
      have r3 := hb_at k0 3 rfl
      exact bodyPost_ret (v := .tuple #[.agg #[.int .i64 tk, .string ts, .int .i64 tn, .int .i64 0], .int .i64 (m : Nat)]) (by simp [results, Tryz.results65, go_sem, r0, r1, r2, r3]) rfl ⟨rfl, (((hB.setCell (by simp) _).setCell (by simp) _).setCell (by simp) _).setCell (by simp) _⟩
    rw [hd] at HD
    by_cases h45 : s[0].toNat = 45
    · have e45 : ((s[0].toNat : Int) == (((⟨#[45]⟩ : ByteArray)[0]'(by show 0 < 1; omega)).toNat : Int)) = true := by rw [h45]; rfl
      rcases (Bool.eq_false_or_eq_true (Lib.hasPrefix s.data.toList [45, 62])) with hp | hp
      · rw [if_neg (by rw [hd, hp]; simp)]
        have h2 : 2 ≤ s.size := by
          have h3 := len_list s
          unfold Lib.hasPrefix at hp
          cases e : s.data.toList with
          | nil => rw [e] at hp; simp at hp
          | cons a l =>
            cases l with
            | nil => rw [e] at hp; simp at hp
            | cons b l => rw [e] at h3; simp at h3; omega
        have hsg : s[0].toNat = 45 → 2 ≤ s.size := fun _ => h2
        have HP := Lib.hid hp
        clear hs far hg h39s h95 h39 h34 hd hp h45
        have HX0 : ∀ W, EscW W → Calls Tryz.prog 84 #[.string s] W fun e w' => e = .returned (.tuple #[(signT s s[0].toNat).1.v 0, .int .i64 (signT s s[0].toNat).2]) ∧ Below W.heap.size W w' := fun W hW => firstSign_any s hm hz hsg W
        generalize signT s s[0].toNat = T at HX0 ⊢
        obtain ⟨⟨tk, ts, tn⟩, m⟩ := T
        have HX : RowKit.Hid (∀ W, EscW W → Calls Tryz.prog 84 #[.string s] W fun e w' => e = .returned (.tuple #[.agg #[.int .i64 tk, .string ts, .int .i64 tn, .int .i64 0], .int .i64 (m : Nat)]) ∧ Below W.heap.size W w') := Lib.hid HX0
        clear HX0
        go_enter Tryz.func65, Tryz.ntmps65
        go_wp2_with (first
          | (go_at_call 84; refine (HX.out _ (HE.out.alloc _)).mono ?_; rintro e w2 ⟨rfl, hb⟩; obtain ⟨hc, hf⟩ := bcellX hb; have z2 := hb.size; rw [World.size_alloc] at z2; have y2 : w.heap.size < w2.heap.size := (by omega))
          | (go_at_call 74; ((with_reducible refine (HS.out _).mono ?_); rintro e w1 ⟨rfl, rfl⟩))
          | (go_at_call 78; ((with_reducible refine (HG.out _).mono ?_); rintro e w1 ⟨rfl, rfl⟩))
          | (go_at_call 81; ((with_reducible refine (HD.out _).mono ?_); rintro e w1 ⟨rfl, rfl⟩))
          | (go_at_call 82; refine (Tryz.strings_HasPrefix s ⟨#[45, 62]⟩ _).mono ?_; rintro e w1 ⟨rfl, rfl⟩; rw [HP.out]))
        have hB : Below w.heap.size w w2 := (below_alloc w _).trans (hb.mono (by simp))
        have k0 := (hb_below (hb_new w (.cells #[.int .i64 0, .string ⟨#[]⟩, .int .i64 0, .int .i64 0] 67)) hb (by simp))
        have r0 := hb_at k0 0 rfl
        have r1 := hb_at k0 1 rfl
        have r2 := hb_at k0 2 rfl
        have r3 := hb_at k0 3 rfl
        exact bodyPost_ret (v := .tuple #[.agg #[.int .i64 tk, .string ts, .int .i64 tn, .int .i64 0], .int .i64 (m : Nat)]) (by simp [results, Tryz.results65, go_sem, r0, r1, r2, r3]) rfl ⟨rfl, (((hB.setCell (by simp) _).setCell (by simp) _).setCell (by simp) _).setCell (by simp) _⟩
      · rw [if_pos (by rw [hd, hp, h45]; rfl)]
        have HP := Lib.hid hp
        clear hs far hg h39s h95 h39 h34 hd hp h45
        have HX0 : ∀ W, EscW W → Calls Tryz.prog 83 #[.string s] W fun e w' => e = .returned (.tuple #[(numT s).1.v 0, .int .i64 (numT s).2]) ∧ Below W.heap.size W w' := fun W hW => firstNumber_any s hm W
        generalize numT s = T at HX0 ⊢
        obtain ⟨⟨tk, ts, tn⟩, m⟩ := T
        have HX : RowKit.Hid (∀ W, EscW W → Calls Tryz.prog 83 #[.string s] W fun e w' => e = .returned (.tuple #[.agg #[.int .i64 tk, .string ts, .int .i64 tn, .int .i64 0], .int .i64 (m : Nat)]) ∧ Below W.heap.size W w') := Lib.hid HX0
        clear HX0
        go_enter Tryz.func65, Tryz.ntmps65
        go_wp2_with (first
          | (go_at_call 83; refine (HX.out _ (HE.out.alloc _)).mono ?_; rintro e w2 ⟨rfl, hb⟩; obtain ⟨hc, hf⟩ := bcellX hb; have z2 := hb.size; rw [World.size_alloc] at z2; have y2 : w.heap.size < w2.heap.size := (by omega))
          | (go_at_call 74; ((with_reducible refine (HS.out _).mono ?_); rintro e w1 ⟨rfl, rfl⟩))
          | (go_at_call 78; ((with_reducible refine (HG.out _).mono ?_); rintro e w1 ⟨rfl, rfl⟩))
          | (go_at_call 81; ((with_reducible refine (HD.out _).mono ?_); rintro e w1 ⟨rfl, rfl⟩))
          | (go_at_call 82; refine (Tryz.strings_HasPrefix s ⟨#[45, 62]⟩ _).mono ?_; rintro e w1 ⟨rfl, rfl⟩; rw [HP.out]))
        have hB : Below w.heap.size w w2 := (below_alloc w _).trans (hb.mono (by simp))
        have k0 := (hb_below (hb_new w (.cells #[.int .i64 0, .string ⟨#[]⟩, .int .i64 0, .int .i64 0] 67)) hb (by simp))
        have r0 := hb_at k0 0 rfl
        have r1 := hb_at k0 1 rfl
        have r2 := hb_at k0 2 rfl
        have r3 := hb_at k0 3 rfl
        exact bodyPost_ret (v := .tuple #[.agg #[.int .i64 tk, .string ts, .int .i64 tn, .int .i64 0], .int .i64 (m : Nat)]) (by simp [results, Tryz.results65, go_sem, r0, r1, r2, r3]) rfl ⟨rfl, (((hB.setCell (by simp) _).setCell (by simp) _).setCell (by simp) _).setCell (by simp) _⟩
    · have e45 : ((s[0].toNat : Int) == (((⟨#[45]⟩ : ByteArray)[0]'(by show 0 < 1; omega)).toNat : Int)) = false := by rw [beq_eq_false_iff_ne]; intro e; exact h45 (by have e1 : (s[0].toNat : Int) = 45 := e; omega)
      rw [if_neg (by rw [hd]; simp [h45])]
      have hsg : s[0].toNat = 45 → 2 ≤ s.size := fun h => absurd h h45
      clear hs far hg h39s h95 h39 h34 hd h45
      have HX0 : ∀ W, EscW W → Calls Tryz.prog 84 #[.string s] W fun e w' => e = .returned (.tuple #[(signT s s[0].toNat).1.v 0, .int .i64 (signT s s[0].toNat).2]) ∧ Below W.heap.size W w' := fun W hW => firstSign_any s hm hz hsg W
      generalize signT s s[0].toNat = T at HX0 ⊢
      obtain ⟨⟨tk, ts, tn⟩, m⟩ := T
      have HX : RowKit.Hid (∀ W, EscW W → Calls Tryz.prog 84 #[.string s] W fun e w' => e = .returned (.tuple #[.agg #[.int .i64 tk, .string ts, .int .i64 tn, .int .i64 0], .int .i64 (m : Nat)]) ∧ Below W.heap.size W w') := Lib.hid HX0
      clear HX0
      go_enter Tryz.func65, Tryz.ntmps65
      go_wp2_with (first
        | (go_at_call 84; refine (HX.out _ (HE.out.alloc _)).mono ?_; rintro e w2 ⟨rfl, hb⟩; obtain ⟨hc, hf⟩ := bcellX hb; have z2 := hb.size; rw [World.size_alloc] at z2; have y2 : w.heap.size < w2.heap.size := (by omega))
        | (go_at_call 74; ((with_reducible refine (HS.out _).mono ?_); rintro e w1 ⟨rfl, rfl⟩))
        | (go_at_call 78; ((with_reducible refine (HG.out _).mono ?_); rintro e w1 ⟨rfl, rfl⟩))
        | (go_at_call 81; ((with_reducible refine (HD.out _).mono ?_); rintro e w1 ⟨rfl, rfl⟩)))
      have hB : Below w.heap.size w w2 := (below_alloc w _).trans (hb.mono (by simp))
      have k0 := (hb_below (hb_new w (.cells #[.int .i64 0, .string ⟨#[]⟩, .int .i64 0, .int .i64 0] 67)) hb (by simp))
      have r0 := hb_at k0 0 rfl
      have r1 := hb_at k0 1 rfl
      have r2 := hb_at k0 2 rfl
      have r3 := hb_at k0 3 rfl
      exact bodyPost_ret (v := .tuple #[.agg #[.int .i64 tk, .string ts, .int .i64 tn, .int .i64 0], .int .i64 (m : Nat)]) (by simp [results, Tryz.results65, go_sem, r0, r1, r2, r3]) rfl ⟨rfl, (((hB.setCell (by simp) _).setCell (by simp) _).setCell (by simp) _).setCell (by simp) _⟩
  · have hs0 : s = ⟨#[]⟩ := by
      apply ByteArray.ext
      apply Array.eq_empty_of_size_eq_zero
      have h : s.data.size = s.size := rfl
      omega
    subst hs0
    go_enter Tryz.func65, Tryz.ntmps65
    go_wp2
    have hB := below_alloc w (.cells #[.int .i64 0, .string ⟨#[]⟩, .int .i64 0, .int .i64 0] 67)
    have k0 := hb_new w (.cells #[.int .i64 0, .string ⟨#[]⟩, .int .i64 0, .int .i64 0] 67)
    have r0 := hb_at k0 0 rfl
    have r1 := hb_at k0 1 rfl
    have r2 := hb_at k0 2 rfl
    have r3 := hb_at k0 3 rfl
    exact bodyPost_ret (v := .tuple #[tk0.v 0, .int .i64 0]) (by simp [results, Tryz.results65, go_sem, r0, r1, r2, r3, tk0, Tk.v]) rfl ⟨rfl, by first | exact hB | exact (((hB.setCell (by simp) _).setCell (by simp) _).setCell (by simp) _).setCell (by simp) _⟩
end Go.Proofs.YthcpmdgdbceeiaaGreatDoor
/- Lex. -/
namespace Go.Proofs.YthcpmdgdbceeiaaGreatDoor
open Go.RowKit
set_option linter.unusedSimpArgs false
set_option linter.unusedVariables false
theorem nameT_le (k : Int) (s : ByteArray) : (nameT k s).2 ≤ s.size := by
  have h := cnt_le nmB s.data.toList
  rw [len_list] at h
  unfold nameT
  split
  · exact Nat.zero_le _
  · exact h
theorem varT_le (s : ByteArray) : (varT s).2 ≤ s.size := by
  have h1 := cnt_le vrB (s.data.toList.drop 1)
  rw [List.length_drop, len_list] at h1
  have h1 := cnt_le vrB (s.data.toList.drop 1)
  rw [List.length_drop, len_list] at h1
  unfold varT
  by_cases h : cnt vrB (s.data.toList.drop 1) = 0 ∨ 29 < cnt vrB (s.data.toList.drop 1) ∨ headS s.data.toList[1]? = false
  · rw [if_pos h]
    exact Nat.zero_le _
  · rw [if_neg h]
    show 1 + cnt vrB (s.data.toList.drop 1) ≤ s.size
    omega
theorem txF_le (L : List UInt8) : ∀ (f i : Nat) (said r : List UInt8) (n : Nat), txF L f i said = some (r, n) → n ≤ L.length := by
  intro f
  induction f with
  | zero => intro i said r n h; cases h
  | succ f ih =>
    intro i said r n h
    unfold txF at h
    split at h
    · cases h
    · cases hc : L[i]? with
      | none => rw [hc] at h; cases h
      | some c =>
        have hi := (List.getElem?_eq_some_iff.1 hc).1
        rw [hc] at h
        simp only [] at h
        split at h
        · cases h; omega
        · split at h
          · cases h
          · split at h
            · cases hd : L[i + 1]? with
              | none => rw [hd] at h; cases h
              | some d =>
                rw [hd] at h
                simp only [] at h
                split at h
                · exact ih _ _ _ _ h
                · cases h
            · exact ih _ _ _ _ h
theorem textT_le (s : ByteArray) : (textT s).2 ≤ s.size := by
  unfold textT
  cases h : txM s.data.toList 1 [] with
  | none => exact Nat.zero_le _
  | some x =>
    have := txF_le _ _ _ _ x.1 x.2 h
    rw [len_list] at this
    exact this
theorem numT_le (s : ByteArray) : (numT s).2 ≤ s.size := by
  unfold numT
  split
  · exact verM_le s
  · split
    · exact Nat.zero_le _
    · have := intM_le s.data.toList
      rw [len_list] at this
      exact this
theorem firstT_le (s : ByteArray) : (firstT s).2 ≤ s.size := by
  unfold firstT
  cases hc : s.data.toList[0]? with
  | none => exact Nat.zero_le _
  | some c =>
    have hi := (List.getElem?_eq_some_iff.1 hc).1
    rw [len_list] at hi
    simp only []
    split
    · exact nameT_le _ _
    · split
      · exact nameT_le _ _
      · split
        · exact varT_le _
        · split
          · exact textT_le _
          · split
            · exact numT_le _
            · rename_i h
              unfold signT
              split
              · rename_i h45
                have hp : Lib.hasPrefix s.data.toList [45, 62] = true := by
                  cases hp : Lib.hasPrefix s.data.toList [45, 62]
                  · exact absurd (by rw [hp, h45]; simp) h
                  · rfl
                have h3 := len_list s
                unfold Lib.hasPrefix at hp
                show 2 ≤ s.size
                cases e : s.data.toList with
                | nil => rw [e] at hp; simp at hp
                | cons a l =>
                  cases l with
                  | nil => rw [e] at hp; simp at hp
                  | cons b l => rw [e] at h3; simp at h3; omega
              · split
                · exact hi
                · exact Nat.zero_le _
/-- Tokens, laid in a row. -/
def cellsT (l : List (Tk × Nat)) : List Value := l.flatMap fun x => [.int .i64 x.1.k, .string x.1.s, .int .i64 x.1.n, .int .i64 (x.2 : Nat)]
theorem cellsT_snoc (l : List (Tk × Nat)) (x : Tk × Nat) : cellsT (l ++ [x]) = cellsT l ++ [.int .i64 x.1.k, .string x.1.s, .int .i64 x.1.n, .int .i64 (x.2 : Nat)] := by
  unfold cellsT
  rw [List.flatMap_append]
  simp
def lxF (s : ByteArray) : Nat → Nat → List (Tk × Nat) → List (Tk × Nat) × Nat × Nat
  | 0, _, _ => ([], 0, 0)
  | f + 1, i, acc =>
    if s.size ≤ i then (acc, 0, 0)
    else if (firstT (s.extract i s.size)).2 = 0 then ([], i, 10)
    else if acc.length = 6000 then ([], i, 9)
    else lxF s f (i + (firstT (s.extract i s.size)).2 + skM (s.data.toList.drop (i + (firstT (s.extract i s.size)).2))) (acc ++ [((firstT (s.extract i s.size)).1, i)])
theorem lxF_any (s : ByteArray) : ∀ (f g i : Nat) (acc : List (Tk × Nat)), s.size - i < f → s.size - i < g → lxF s f i acc = lxF s g i acc := by
  intro f
  induction f with
  | zero => intro g i acc h; omega
  | succ f ih =>
    intro g i acc h1 h2
    cases g with
    | zero => omega
    | succ g =>
      unfold lxF
      split
      · rfl
      · split
        · rfl
        · split
          · rfl
          · exact ih g _ _ (by omega) (by omega)
def lxM (s : ByteArray) (i : Nat) (acc : List (Tk × Nat)) : List (Tk × Nat) × Nat × Nat := lxF s (s.size + 1) i acc
theorem lxM_step (s : ByteArray) (i : Nat) (acc : List (Tk × Nat)) : lxM s i acc =
    if s.size ≤ i then (acc, 0, 0)
    else if (firstT (s.extract i s.size)).2 = 0 then ([], i, 10)
    else if acc.length = 6000 then ([], i, 9)
    else lxM s (i + (firstT (s.extract i s.size)).2 + skM (s.data.toList.drop (i + (firstT (s.extract i s.size)).2))) (acc ++ [((firstT (s.extract i s.size)).1, i)]) := by
  unfold lxM
  rw [lxF]
  split
  · rfl
  · split
    · rfl
    · split
      · rfl
      · exact lxF_any s _ _ _ _ (by omega) (by omega)
/-- What Lex tells: the tokens, a byte, an error. -/
def lexM (s : ByteArray) : List (Tk × Nat) × Nat × Nat := if 20000 < s.size then ([], 0, 9) else lxM s (skM s.data.toList) []
/-- Tokens as a slice of one's own. -/
def TkRow (B : Nat) (w : World) (v : Value) (l : List (Tk × Nat)) : Prop := w.ownsRow B 67 4 v l.length (cellsT l)
theorem TkRow.below {B : Nat} {w w' : World} {v : Value} {l : List (Tk × Nat)} (h : TkRow B w v l) (hb : Below w.heap.size w w') : TkRow B w' v l := by
  have hg : w.grownBy w' none := ⟨hb.os, hb.tape, hb.output, hb.size, fun k hk _ => hb.block k hk⟩
  exact World.ownsRow.kept h hg (by cases e : v.ownBlock <;> simp)
theorem TkRow.shape {B : Nat} {w : World} {v : Value} {l : List (Tk × Nat)} (h : TkRow B w v l) : ∃ ao cap, v = .slice ao l.length cap := by
  rcases h.2 with ⟨hv, h0⟩ | ⟨g, cap, cur, hv, _⟩
  · exact ⟨none, 0, by rw [hv, h0]⟩
  · exact ⟨_, _, hv⟩
theorem info34 : ∃ z, (Tryz.prog.info? 67).map (fun i => (i.zero, i.size, i.bytes)) = some (some z, 4, 40) ∧ z.cells.size = 4 := ⟨.agg #[.int .i64 0, .string ⟨#[]⟩, .int .i64 0, .int .i64 0], by kernel_rfl, rfl⟩
def LexR (s : ByteArray) (w : World) (e : Ending) (w' : World) : Prop :=
  ∃ v, e = .returned (.tuple #[v, .int .i64 ((lexM s).2.1 : Nat), .int .i64 ((lexM s).2.2 : Nat)]) ∧ TkRow w.heap.size w' v (lexM s).1 ∧ Below w.heap.size w w'
theorem TkRow.none (B : Nat) (w : World) : TkRow B w (.slice none 0 0) [] := World.ownsRow_nil w B 67 4
end Go.Proofs.YthcpmdgdbceeiaaGreatDoor
