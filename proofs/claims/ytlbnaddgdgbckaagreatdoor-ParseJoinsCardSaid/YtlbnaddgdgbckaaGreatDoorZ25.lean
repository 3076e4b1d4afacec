/- Texts in a row: Lm Ln. -/
import Derived.Test.YtlbnaddgdgbckaaGreatDoorZ24
/- Variables, as they are read. -/
namespace Go.Proofs.YtlbnaddgdgbckaaGreatDoor
open Go.RowKit
set_option linter.unusedSimpArgs false
set_option linter.unusedVariables false
def headS : Option UInt8 → Bool
  | none => false
  | some c => smB c
/-- What the variable behind a mark is. -/
def varT (s : ByteArray) : Tk × Nat :=
  if cnt vrB (s.data.toList.drop 1) = 0 ∨ 29 < cnt vrB (s.data.toList.drop 1) ∨ headS s.data.toList[1]? = false then (tk0, 0)
  else (⟨3, ⟨((s.data.toList.drop 1).take (cnt vrB (s.data.toList.drop 1))).toArray⟩, 0⟩, 1 + cnt vrB (s.data.toList.drop 1))
theorem trim_mark {s : ByteArray} (h : s.data.toList[0]? = some 39) : Lib.trimPrefix s.data.toList [39] = s.data.toList.drop 1 := by
  unfold Lib.trimPrefix Lib.hasPrefix
  cases e : s.data.toList with
  | nil => rw [e] at h; simp at h
  | cons c l => rw [e] at h; simp at h; subst h; simp
set_option maxHeartbeats 4000000 in
set_option maxRecDepth 100000 in
theorem firstVar_any (s : ByteArray) (hm : s.size ≤ 4194304) (h39 : s.data.toList[0]? = some 39) (w : World) :
    Calls Tryz.prog 89 #[.string s] w fun e w' => e = .returned (.tuple #[(varT s).1.v 0, .int .i64 (varT s).2]) ∧ Below w.heap.size w w' := by
  have HT := Lib.hid (fun W => (Tryz.strings_TrimPrefix s ⟨#[39]⟩ W).mono fun e w' (h : _ ∧ _) => (⟨by rw [h.1]; exact congrArg (fun l : List UInt8 => Ending.returned (.string ⟨l.toArray⟩)) (trim_mark h39), h.2.symm⟩ : e = .returned (.string ⟨(s.data.toList.drop 1).toArray⟩) ∧ W = w'))
  have hln : s.data.toList.length = 1 + (s.data.toList.drop 1).length := by
    have := (List.getElem?_eq_some_iff.1 h39).1
    rw [List.length_drop]
    omega
  rw [len_list] at hln
  have hd1 : s.data.toList[1]? = (s.data.toList.drop 1)[0]? := by rw [List.getElem?_drop]
  obtain ⟨D, hD⟩ : ∃ D : ByteArray, D.data.toList = s.data.toList.drop 1 := ⟨⟨(s.data.toList.drop 1).toArray⟩, rfl⟩
  have hDD : (⟨(s.data.toList.drop 1).toArray⟩ : ByteArray) = D := by rw [← hD]
  rw [hDD] at HT
  have hV : varT s = (if cnt vrB D.data.toList = 0 ∨ 29 < cnt vrB D.data.toList ∨ headS D.data.toList[0]? = false then (tk0, 0) else (⟨3, D.extract 0 (cnt vrB D.data.toList), 0⟩, 1 + cnt vrB D.data.toList)) := by
    unfold varT
    rw [hd1, ← hD]
    have h1 : (⟨(D.data.toList.take (cnt vrB D.data.toList)).toArray⟩ : ByteArray) = D.extract 0 (cnt vrB D.data.toList) := by
      apply toList_injX
      rw [take_list, ByteArray.toList_eq]
    rw [h1]
  rw [hV]
  rw [← hD, len_list] at hln
  clear hV hDD hD hd1 h39
  have hDm : D.size ≤ 4194304 := by omega
  have hle := cnt_le vrB D.data.toList
  rw [len_list] at hle
  have HC := Lib.hid (fun W => countVar D hDm W)
  obtain ⟨N, hN⟩ : ∃ N, cnt vrB D.data.toList = N := ⟨_, rfl⟩
  rw [hN] at hle HC ⊢
  clear hN
  have hNi : (N : Int) ≤ (D.size : Int) := by omega
  obtain ⟨E, hE⟩ : ∃ E, D.extract 0 N = E := ⟨_, rfl⟩
  have hEs : E.size = N := by rw [← hE, ByteArray.size_extract]; omega
  have hEL : E.data.toList = D.data.toList.take N := by rw [← hE, ← ByteArray.toList_eq, take_list]
  by_cases h0 : N = 0
  · rw [if_pos (.inl h0)]
    subst h0
    have q0 : (E.toList == ([] : List UInt8)) = true := by rw [ByteArray.toList_eq, hEL]; rfl
    clear hEL
    go_enter Tryz.func89, Tryz.ntmps89
    go_wp2_with (first
      | (go_at_call 105; ((with_reducible refine (HT.out _).mono ?_); rintro e w1 ⟨rfl, rfl⟩))
      | (go_at_call 81; ((with_reducible refine (HC.out _).mono ?_); rintro e w1 ⟨rfl, rfl⟩)))
    have hB := below_alloc w (.cells #[.int .i64 0, .string ⟨#[]⟩, .int .i64 0, .int .i64 0] 49)
    have k0 := hb_new w (.cells #[.int .i64 0, .string ⟨#[]⟩, .int .i64 0, .int .i64 0] 49)
    have r0 := hb_at k0 0 rfl
    have r1 := hb_at k0 1 rfl
    have r2 := hb_at k0 2 rfl
    have r3 := hb_at k0 3 rfl
    exact bodyPost_ret (v := .tuple #[tk0.v 0, .int .i64 0]) (by simp [results, Tryz.results89, go_sem, r0, r1, r2, r3, tk0, Tk.v]) rfl ⟨rfl, by first | exact hB | exact (((hB.setCell (by simp) _).setCell (by simp) _).setCell (by simp) _).setCell (by simp) _⟩
  rw [hE]
  have q0 : (E.toList == ([] : List UInt8)) = false := by
    rw [beq_eq_false_iff_ne]
    intro e
    have e1 := congrArg List.length e
    rw [ByteArray.toList_eq, len_list, hEs] at e1
    exact h0 e1
  by_cases h30 : 29 < N
  · rw [if_pos (.inr (.inl h30))]
    have d30 : decide ((30 : Int) < 1 + (N : Int)) = true := by simp; omega
    clear hEL
    go_enter Tryz.func89, Tryz.ntmps89
    go_wp2_with (first
      | (go_at_call 105; ((with_reducible refine (HT.out _).mono ?_); rintro e w1 ⟨rfl, rfl⟩))
      | (go_at_call 81; ((with_reducible refine (HC.out _).mono ?_); rintro e w1 ⟨rfl, rfl⟩)))
    have hB := below_alloc w (.cells #[.int .i64 0, .string ⟨#[]⟩, .int .i64 0, .int .i64 0] 49)
    have k0 := hb_new w (.cells #[.int .i64 0, .string ⟨#[]⟩, .int .i64 0, .int .i64 0] 49)
    have r0 := hb_at k0 0 rfl
    have r1 := hb_at k0 1 rfl
    have r2 := hb_at k0 2 rfl
    have r3 := hb_at k0 3 rfl
    exact bodyPost_ret (v := .tuple #[tk0.v 0, .int .i64 0]) (by simp [results, Tryz.results89, go_sem, r0, r1, r2, r3, tk0, Tk.v]) rfl ⟨rfl, by first | exact hB | exact (((hB.setCell (by simp) _).setCell (by simp) _).setCell (by simp) _).setCell (by simp) _⟩
  have d30 : decide ((30 : Int) < 1 + (N : Int)) = false := by simp; omega
  have hsz : 0 < E.size := by omega
  have hsi : (0 : Int) < (E.size : Int) := by omega
  have HS := Lib.hid (fun W => isSmall_any E[0] W)
  have hH : D.data.toList[0]? = some E[0] := by
    have h1 := at_list E 0 hsz
    rw [hEL, List.getElem?_take, if_pos (by omega)] at h1
    exact h1
  rw [hH]
  rw [show headS (some E[0]) = smB E[0] from rfl]
  clear hH hEL
  rcases (Bool.eq_false_or_eq_true (smB E[0])).symm with hb | hb
  · rw [if_pos (.inr (.inr hb))]
    rw [hb] at HS
    clear hb
    go_enter Tryz.func89, Tryz.ntmps89
    go_wp2_with (first
      | (go_at_call 105; ((with_reducible refine (HT.out _).mono ?_); rintro e w1 ⟨rfl, rfl⟩))
      | (go_at_call 81; ((with_reducible refine (HC.out _).mono ?_); rintro e w1 ⟨rfl, rfl⟩))
      | (go_at_call 85; ((with_reducible refine (HS.out _).mono ?_); rintro e w1 ⟨rfl, rfl⟩)))
    have hB := below_alloc w (.cells #[.int .i64 0, .string ⟨#[]⟩, .int .i64 0, .int .i64 0] 49)
    have k0 := hb_new w (.cells #[.int .i64 0, .string ⟨#[]⟩, .int .i64 0, .int .i64 0] 49)
    have r0 := hb_at k0 0 rfl
    have r1 := hb_at k0 1 rfl
    have r2 := hb_at k0 2 rfl
    have r3 := hb_at k0 3 rfl
    exact bodyPost_ret (v := .tuple #[tk0.v 0, .int .i64 0]) (by simp [results, Tryz.results89, go_sem, r0, r1, r2, r3, tk0, Tk.v]) rfl ⟨rfl, by first | exact hB | exact (((hB.setCell (by simp) _).setCell (by simp) _).setCell (by simp) _).setCell (by simp) _⟩
  · rw [if_neg (by rw [hb]; simp; omega)]
    rw [hb] at HS
    clear hb
    have HL := Lib.hid (fun W => clone_anyX E (by omega) W)
    go_enter Tryz.func89, Tryz.ntmps89
    go_wp2_with (first
      | (go_at_call 105; ((with_reducible refine (HT.out _).mono ?_); rintro e w1 ⟨rfl, rfl⟩))
      | (go_at_call 81; ((with_reducible refine (HC.out _).mono ?_); rintro e w1 ⟨rfl, rfl⟩))
      | (go_at_call 85; ((with_reducible refine (HS.out _).mono ?_); rintro e w1 ⟨rfl, rfl⟩))
      | (go_at_call 104; ((with_reducible refine (HL.out _).mono ?_); rintro e w2 ⟨rfl, hb⟩; obtain ⟨hc, hf⟩ := bcellX hb; have z2 := hb.size; rw [World.size_alloc] at z2; have y2 : w.heap.size < w2.heap.size := (by omega))))
    have hB : Below w.heap.size w w2 := (below_alloc w _).trans (hb.mono (by simp))
    have k0 := (hb_below (hb_new w (.cells #[.int .i64 0, .string ⟨#[]⟩, .int .i64 0, .int .i64 0] 49)) hb (by simp))
    have r0 := hb_at k0 0 rfl
    have r1 := hb_at k0 1 rfl
    have r2 := hb_at k0 2 rfl
    have r3 := hb_at k0 3 rfl
    exact bodyPost_ret (v := .tuple #[Tk.v ⟨3, E, 0⟩ 0, .int .i64 (1 + (N : Int))]) (by simp [results, Tryz.results89, go_sem, r0, r1, r2, r3, Tk.v]) rfl ⟨rfl, (((hB.setCell (by simp) _).setCell (by simp) _).setCell (by simp) _).setCell (by simp) _⟩
end Go.Proofs.YtlbnaddgdgbckaaGreatDoor
/- The first token. -/
namespace Go.Proofs.YtlbnaddgdgbckaaGreatDoor
open Go.RowKit
set_option linter.unusedSimpArgs false
set_option linter.unusedVariables false
/-- What the token at the beginning is. -/
def firstT (s : ByteArray) : Tk × Nat := match s.data.toList[0]? with
  | none => (tk0, 0)
  | some c =>
    if (smB c || (decide (c.toNat = 95) && decide (1 < cnt nmB s.data.toList))) = true then nameT 1 s
    else if grB c = true then nameT 2 s
    else if c.toNat = 39 then varT s
    else if c.toNat = 34 then textT s
    else if (dgB c || (decide (c.toNat = 45) && !Lib.hasPrefix s.data.toList [45, 62])) = true then numT s
    else signT s c.toNat
theorem bytes_far {c : UInt8} : (c.toNat = 39 ∨ c.toNat = 34 ∨ c.toNat = 45 ∨ c.toNat = 95 → smB c = false ∧ grB c = false ∧ dgB c = false) ∧ (grB c = true → smB c = false ∧ dgB c = false) ∧ (dgB c = true → smB c = false ∧ grB c = false) := by
  unfold smB grB dgB
  generalize c.toNat = n
  simp only [Bool.and_eq_true, Bool.and_eq_false_iff, decide_eq_true_eq, decide_eq_false_iff_not]
  omega
set_option maxHeartbeats 8000000 in
set_option maxRecDepth 100000 in
theorem first_any (s : ByteArray) (hm : s.size ≤ 4194304) (w : World) (hw : EscW w) :
    Calls Tryz.prog 58 #[.string s] w fun e w' => e = .returned (.tuple #[(firstT s).1.v 0, .int .i64 (firstT s).2]) ∧ Below w.heap.size w w' := by
  have HE := Lib.hid hw
  clear hw
  by_cases hz : 0 < s.size
  · have hci : (0 : Int) < (s.size : Int) := by omega
    have hne := ne_nil hz
    have hat := at_list s 0 hz
    have hF : firstT s = (if (smB s[0] || (decide (s[0].toNat = 95) && decide (1 < cnt nmB s.data.toList))) = true then nameT 1 s
        else if grB s[0] = true then nameT 2 s
        else if s[0].toNat = 39 then varT s
        else if s[0].toNat = 34 then textT s
        else if (dgB s[0] || (decide (s[0].toNat = 45) && !Lib.hasPrefix s.data.toList [45, 62])) = true then numT s
        else signT s s[0].toNat) := by unfold firstT; rw [hat]
    rw [hF]
    clear hF
    have h39s : s[0].toNat = 39 → s.data.toList[0]? = some 39 := fun h => by rw [hat]; exact congrArg some (UInt8.toNat_inj.1 h)
    have HS := Lib.hid (fun W => isSmall_any s[0] W)
    have HG := Lib.hid (fun W => isGreat_any s[0] W)
    have HD := Lib.hid (fun W => lexDigit_any s[0] W)
    have HN := Lib.hid (fun W => countName s hm W)
    have far := bytes_far (c := s[0])
    clear hat
    rcases (Bool.eq_false_or_eq_true (smB s[0])) with hs | hs
    · rw [if_pos (by rw [hs]; rfl)]
      rw [hs] at HS
      clear hs far
      have HX0 : ∀ W, EscW W → Calls Tryz.prog 87 #[.string s, .int .i64 1] W fun e w' => e = .returned (.tuple #[(nameT 1 s).1.v 0, .int .i64 (nameT 1 s).2]) ∧ Below W.heap.size W w' := fun W hW => firstName_anyX s 1 hm W
      generalize nameT 1 s = T at HX0 ⊢
      obtain ⟨⟨tk, ts, tn⟩, m⟩ := T
      have HX : RowKit.Hid (∀ W, EscW W → Calls Tryz.prog 87 #[.string s, .int .i64 1] W fun e w' => e = .returned (.tuple #[.agg #[.int .i64 tk, .string ts, .int .i64 tn, .int .i64 0], .int .i64 (m : Nat)]) ∧ Below W.heap.size W w') := Lib.hid HX0
      clear HX0
      go_enter Tryz.func58, Tryz.ntmps58
      go_wp2_with (first
        | (go_at_call 87; refine (HX.out _ (HE.out.alloc _)).mono ?_; rintro e w2 ⟨rfl, hb⟩; obtain ⟨hc, hf⟩ := bcellX hb; have z2 := hb.size; rw [World.size_alloc] at z2; have y2 : w.heap.size < w2.heap.size := (by omega))
        | (go_at_call 85; ((with_reducible refine (HS.out _).mono ?_); rintro e w1 ⟨rfl, rfl⟩)))
      have hB : Below w.heap.size w w2 := (below_alloc w _).trans (hb.mono (by simp))
      have k0 := (hb_below (hb_new w (.cells #[.int .i64 0, .string ⟨#[]⟩, .int .i64 0, .int .i64 0] 49)) hb (by simp))
      have r0 := hb_at k0 0 rfl
      have r1 := hb_at k0 1 rfl
      have r2 := hb_at k0 2 rfl
      have r3 := hb_at k0 3 rfl
      exact bodyPost_ret (v := .tuple #[.agg #[.int .i64 tk, .string ts, .int .i64 tn, .int .i64 0], .int .i64 (m : Nat)]) (by simp [results, Tryz.results58, go_sem, r0, r1, r2, r3]) rfl ⟨rfl, (((hB.setCell (by simp) _).setCell (by simp) _).setCell (by simp) _).setCell (by simp) _⟩
    by_cases h95 : s[0].toNat = 95
    · have e95 : ((s[0].toNat : Int) == 95) = true := by rw [h95]; rfl
      have f39 : ((s[0].toNat : Int) == (((⟨#[39]⟩ : ByteArray)[0]'(by show 0 < 1; omega)).toNat : Int)) = false := by rw [h95]; rfl
      have f34 : ((s[0].toNat : Int) == 34) = false := by rw [h95]; rfl
      have f45 : ((s[0].toNat : Int) == (((⟨#[45]⟩ : ByteArray)[0]'(by show 0 < 1; omega)).toNat : Int)) = false := by rw [h95]; rfl
      have hgd := far.1 (.inr (.inr (.inr h95)))
      rw [hs] at HS
      rw [hgd.2.1] at HG
      rw [hgd.2.2] at HD
      by_cases hc1 : 1 < cnt nmB s.data.toList
      · rw [if_pos (by rw [hs, h95]; simp [hc1])]
        have d1 : decide ((1 : Int) < (cnt nmB s.data.toList : Nat)) = true := by simp; omega
        clear hs far hgd h39s h95
        have HX0 : ∀ W, EscW W → Calls Tryz.prog 87 #[.string s, .int .i64 1] W fun e w' => e = .returned (.tuple #[(nameT 1 s).1.v 0, .int .i64 (nameT 1 s).2]) ∧ Below W.heap.size W w' := fun W hW => firstName_anyX s 1 hm W
        generalize nameT 1 s = T at HX0 ⊢
        obtain ⟨⟨tk, ts, tn⟩, m⟩ := T
        have HX : RowKit.Hid (∀ W, EscW W → Calls Tryz.prog 87 #[.string s, .int .i64 1] W fun e w' => e = .returned (.tuple #[.agg #[.int .i64 tk, .string ts, .int .i64 tn, .int .i64 0], .int .i64 (m : Nat)]) ∧ Below W.heap.size W w') := Lib.hid HX0
        clear HX0
        go_enter Tryz.func58, Tryz.ntmps58
        go_wp2_with (first
          | (go_at_call 87; refine (HX.out _ (HE.out.alloc _)).mono ?_; rintro e w2 ⟨rfl, hb⟩; obtain ⟨hc, hf⟩ := bcellX hb; have z2 := hb.size; rw [World.size_alloc] at z2; have y2 : w.heap.size < w2.heap.size := (by omega))
          | (go_at_call 85; ((with_reducible refine (HS.out _).mono ?_); rintro e w1 ⟨rfl, rfl⟩))
          | (go_at_call 81; ((with_reducible refine (HN.out _).mono ?_); rintro e w1 ⟨rfl, rfl⟩)))
        have hB : Below w.heap.size w w2 := (below_alloc w _).trans (hb.mono (by simp))
        have k0 := (hb_below (hb_new w (.cells #[.int .i64 0, .string ⟨#[]⟩, .int .i64 0, .int .i64 0] 49)) hb (by simp))
        have r0 := hb_at k0 0 rfl
        have r1 := hb_at k0 1 rfl
        have r2 := hb_at k0 2 rfl
        have r3 := hb_at k0 3 rfl
        exact bodyPost_ret (v := .tuple #[.agg #[.int .i64 tk, .string ts, .int .i64 tn, .int .i64 0], .int .i64 (m : Nat)]) (by simp [results, Tryz.results58, go_sem, r0, r1, r2, r3]) rfl ⟨rfl, (((hB.setCell (by simp) _).setCell (by simp) _).setCell (by simp) _).setCell (by simp) _⟩
      · rw [if_neg (by rw [hs, h95]; simp [hc1]), if_neg (by rw [hgd.2.1]; simp), if_neg (by omega), if_neg (by omega), if_neg (by rw [hgd.2.2, h95]; simp)]
        have d1 : decide ((1 : Int) < (cnt nmB s.data.toList : Nat)) = false := by simp; omega
        have hsg : s[0].toNat = 45 → 2 ≤ s.size := by omega
        clear hs far hgd h39s h95
        have HX0 : ∀ W, EscW W → Calls Tryz.prog 93 #[.string s] W fun e w' => e = .returned (.tuple #[(signT s s[0].toNat).1.v 0, .int .i64 (signT s s[0].toNat).2]) ∧ Below W.heap.size W w' := fun W hW => firstSign_any s hm hz hsg W
        generalize signT s s[0].toNat = T at HX0 ⊢
        obtain ⟨⟨tk, ts, tn⟩, m⟩ := T
        have HX : RowKit.Hid (∀ W, EscW W → Calls Tryz.prog 93 #[.string s] W fun e w' => e = .returned (.tuple #[.agg #[.int .i64 tk, .string ts, .int .i64 tn, .int .i64 0], .int .i64 (m : Nat)]) ∧ Below W.heap.size W w') := Lib.hid HX0
        clear HX0
        go_enter Tryz.func58, Tryz.ntmps58
        go_wp2_with (first
          | (go_at_call 93; refine (HX.out _ (HE.out.alloc _)).mono ?_; rintro e w2 ⟨rfl, hb⟩; obtain ⟨hc, hf⟩ := bcellX hb; have z2 := hb.size; rw [World.size_alloc] at z2; have y2 : w.heap.size < w2.heap.size := (by omega))
          | (go_at_call 85; ((with_reducible refine (HS.out _).mono ?_); rintro e w1 ⟨rfl, rfl⟩))
          | (go_at_call 81; ((with_reducible refine (HN.out _).mono ?_); rintro e w1 ⟨rfl, rfl⟩))
          | (go_at_call 88; ((with_reducible refine (HG.out _).mono ?_); rintro e w1 ⟨rfl, rfl⟩))
          | (go_at_call 91; ((with_reducible refine (HD.out _).mono ?_); rintro e w1 ⟨rfl, rfl⟩)))
        have hB : Below w.heap.size w w2 := (below_alloc w _).trans (hb.mono (by simp))
        have k0 := (hb_below (hb_new w (.cells #[.int .i64 0, .string ⟨#[]⟩, .int .i64 0, .int .i64 0] 49)) hb (by simp))
        have r0 := hb_at k0 0 rfl
        have r1 := hb_at k0 1 rfl
        have r2 := hb_at k0 2 rfl
        have r3 := hb_at k0 3 rfl
        exact bodyPost_ret (v := .tuple #[.agg #[.int .i64 tk, .string ts, .int .i64 tn, .int .i64 0], .int .i64 (m : Nat)]) (by simp [results, Tryz.results58, go_sem, r0, r1, r2, r3]) rfl ⟨rfl, (((hB.setCell (by simp) _).setCell (by simp) _).setCell (by simp) _).setCell (by simp) _⟩
    have e95 : ((s[0].toNat : Int) == 95) = false := by rw [beq_eq_false_iff_ne]; omega
    rw [if_neg (by rw [hs]; simp [h95])]
    rw [hs] at HS
    rcases (Bool.eq_false_or_eq_true (grB s[0])) with hg | hg
    · rw [if_pos hg]
      rw [hg] at HG
      clear hs far hg h39s h95
      have HX0 : ∀ W, EscW W → Calls Tryz.prog 87 #[.string s, .int .i64 2] W fun e w' => e = .returned (.tuple #[(nameT 2 s).1.v 0, .int .i64 (nameT 2 s).2]) ∧ Below W.heap.size W w' := fun W hW => firstName_anyX s 2 hm W
      generalize nameT 2 s = T at HX0 ⊢
      obtain ⟨⟨tk, ts, tn⟩, m⟩ := T
      have HX : RowKit.Hid (∀ W, EscW W → Calls Tryz.prog 87 #[.string s, .int .i64 2] W fun e w' => e = .returned (.tuple #[.agg #[.int .i64 tk, .string ts, .int .i64 tn, .int .i64 0], .int .i64 (m : Nat)]) ∧ Below W.heap.size W w') := Lib.hid HX0
      clear HX0
      go_enter Tryz.func58, Tryz.ntmps58
      go_wp2_with (first
        | (go_at_call 87; refine (HX.out _ (HE.out.alloc _)).mono ?_; rintro e w2 ⟨rfl, hb⟩; obtain ⟨hc, hf⟩ := bcellX hb; have z2 := hb.size; rw [World.size_alloc] at z2; have y2 : w.heap.size < w2.heap.size := (by omega))
        | (go_at_call 85; ((with_reducible refine (HS.out _).mono ?_); rintro e w1 ⟨rfl, rfl⟩))
        | (go_at_call 88; ((with_reducible refine (HG.out _).mono ?_); rintro e w1 ⟨rfl, rfl⟩)))
      have hB : Below w.heap.size w w2 := (below_alloc w _).trans (hb.mono (by simp))
      have k0 := (hb_below (hb_new w (.cells #[.int .i64 0, .string ⟨#[]⟩, .int .i64 0, .int .i64 0] 49)) hb (by simp))
      have r0 := hb_at k0 0 rfl
      have r1 := hb_at k0 1 rfl
      have r2 := hb_at k0 2 rfl
      have r3 := hb_at k0 3 rfl
      exact bodyPost_ret (v := .tuple #[.agg #[.int .i64 tk, .string ts, .int .i64 tn, .int .i64 0], .int .i64 (m : Nat)]) (by simp [results, Tryz.results58, go_sem, r0, r1, r2, r3]) rfl ⟨rfl, (((hB.setCell (by simp) _).setCell (by simp) _).setCell (by simp) _).setCell (by simp) _⟩
    rw [if_neg (by rw [hg]; simp)]
    rw [hg] at HG
    by_cases h39 : s[0].toNat = 39
    · have e39 : ((s[0].toNat : Int) == (((⟨#[39]⟩ : ByteArray)[0]'(by show 0 < 1; omega)).toNat : Int)) = true := by rw [h39]; rfl
      have h39' := h39s h39
      rw [if_pos h39]
      clear hs far hg h39s h95 h39
      have HX0 : ∀ W, EscW W → Calls Tryz.prog 89 #[.string s] W fun e w' => e = .returned (.tuple #[(varT s).1.v 0, .int .i64 (varT s).2]) ∧ Below W.heap.size W w' := fun W hW => firstVar_any s hm h39' W
      generalize varT s = T at HX0 ⊢
      obtain ⟨⟨tk, ts, tn⟩, m⟩ := T
      have HX : RowKit.Hid (∀ W, EscW W → Calls Tryz.prog 89 #[.string s] W fun e w' => e = .returned (.tuple #[.agg #[.int .i64 tk, .string ts, .int .i64 tn, .int .i64 0], .int .i64 (m : Nat)]) ∧ Below W.heap.size W w') := Lib.hid HX0
      clear HX0
      go_enter Tryz.func58, Tryz.ntmps58
      go_wp2_with (first
        | (go_at_call 89; refine (HX.out _ (HE.out.alloc _)).mono ?_; rintro e w2 ⟨rfl, hb⟩; obtain ⟨hc, hf⟩ := bcellX hb; have z2 := hb.size; rw [World.size_alloc] at z2; have y2 : w.heap.size < w2.heap.size := (by omega))
        | (go_at_call 85; ((with_reducible refine (HS.out _).mono ?_); rintro e w1 ⟨rfl, rfl⟩))
        | (go_at_call 88; ((with_reducible refine (HG.out _).mono ?_); rintro e w1 ⟨rfl, rfl⟩)))
      have hB : Below w.heap.size w w2 := (below_alloc w _).trans (hb.mono (by simp))
      have k0 := (hb_below (hb_new w (.cells #[.int .i64 0, .string ⟨#[]⟩, .int .i64 0, .int .i64 0] 49)) hb (by simp))
      have r0 := hb_at k0 0 rfl
      have r1 := hb_at k0 1 rfl
      have r2 := hb_at k0 2 rfl
      have r3 := hb_at k0 3 rfl
      exact bodyPost_ret (v := .tuple #[.agg #[.int .i64 tk, .string ts, .int .i64 tn, .int .i64 0], .int .i64 (m : Nat)]) (by simp [results, Tryz.results58, go_sem, r0, r1, r2, r3]) rfl ⟨rfl, (((hB.setCell (by simp) _).setCell (by simp) _).setCell (by simp) _).setCell (by simp) _⟩
    have e39 : ((s[0].toNat : Int) == (((⟨#[39]⟩ : ByteArray)[0]'(by show 0 < 1; omega)).toNat : Int)) = false := by rw [beq_eq_false_iff_ne]; intro e; exact h39 (by have e1 : (s[0].toNat : Int) = 39 := e; omega)
    rw [if_neg h39]
    by_cases h34 : s[0].toNat = 34
    · have e34 : ((s[0].toNat : Int) == 34) = true := by rw [h34]; rfl
      rw [if_pos h34]
      clear hs far hg h39s h95 h39 h34
      have HX0 : ∀ W, EscW W → Calls Tryz.prog 90 #[.string s] W fun e w' => e = .returned (.tuple #[(textT s).1.v 0, .int .i64 (textT s).2]) ∧ Below W.heap.size W w' := fun W hW => firstText_any s hm W hW
      generalize textT s = T at HX0 ⊢
      obtain ⟨⟨tk, ts, tn⟩, m⟩ := T
      have HX : RowKit.Hid (∀ W, EscW W → Calls Tryz.prog 90 #[.string s] W fun e w' => e = .returned (.tuple #[.agg #[.int .i64 tk, .string ts, .int .i64 tn, .int .i64 0], .int .i64 (m : Nat)]) ∧ Below W.heap.size W w') := Lib.hid HX0
      clear HX0
      go_enter Tryz.func58, Tryz.ntmps58
      go_wp2_with (first
        | (go_at_call 90; refine (HX.out _ (HE.out.alloc _)).mono ?_; rintro e w2 ⟨rfl, hb⟩; obtain ⟨hc, hf⟩ := bcellX hb; have z2 := hb.size; rw [World.size_alloc] at z2; have y2 : w.heap.size < w2.heap.size := (by omega))
        | (go_at_call 85; ((with_reducible refine (HS.out _).mono ?_); rintro e w1 ⟨rfl, rfl⟩))
        | (go_at_call 88; ((with_reducible refine (HG.out _).mono ?_); rintro e w1 ⟨rfl, rfl⟩)))
      have hB : Below w.heap.size w w2 := (below_alloc w _).trans (hb.mono (by simp))
      have k0 := (hb_below (hb_new w (.cells #[.int .i64 0, .string ⟨#[]⟩, .int .i64 0, .int .i64 0] 49)) hb (by simp))
      have r0 := hb_at k0 0 rfl
      have r1 := hb_at k0 1 rfl
      have r2 := hb_at k0 2 rfl
      have r3 := hb_at k0 3 rfl
      exact bodyPost_ret (v := .tuple #[.agg #[.int .i64 tk, .string ts, .int .i64 tn, .int .i64 0], .int .i64 (m : Nat)]) (by simp [results, Tryz.results58, go_sem, r0, r1, r2, r3]) rfl ⟨rfl, (((hB.setCell (by simp) _).setCell (by simp) _).setCell (by simp) _).setCell (by simp) _⟩
    have e34 : ((s[0].toNat : Int) == 34) = false := by rw [beq_eq_false_iff_ne]; omega
    rw [if_neg h34]
    rcases (Bool.eq_false_or_eq_true (dgB s[0])) with hd | hd
    · rw [if_pos (by rw [hd]; rfl)]
      rw [hd] at HD
      clear hs far hg h39s h95 h39 h34 hd
      have HX0 : ∀ W, EscW W → Calls Tryz.prog 92 #[.string s] W fun e w' => e = .returned (.tuple #[(numT s).1.v 0, .int .i64 (numT s).2]) ∧ Below W.heap.size W w' := fun W hW => firstNumber_any s hm W
      generalize numT s = T at HX0 ⊢
      obtain ⟨⟨tk, ts, tn⟩, m⟩ := T
      have HX : RowKit.Hid (∀ W, EscW W → Calls Tryz.prog 92 #[.string s] W fun e w' => e = .returned (.tuple #[.agg #[.int .i64 tk, .string ts, .int .i64 tn, .int .i64 0], .int .i64 (m : Nat)]) ∧ Below W.heap.size W w') := Lib.hid HX0
      clear HX0
      go_enter Tryz.func58, Tryz.ntmps58
      go_wp2_with (first
        | (go_at_call 92; refine (HX.out _ (HE.out.alloc _)).mono ?_; rintro e w2 ⟨rfl, hb⟩; obtain ⟨hc, hf⟩ := bcellX hb; have z2 := hb.size; rw [World.size_alloc] at z2; have y2 : w.heap.size < w2.heap.size := (by omega))
        | (go_at_call 85; ((with_reducible refine (HS.out _).mono ?_); rintro e w1 ⟨rfl, rfl⟩))
        | (go_at_call 88; ((with_reducible refine (HG.out _).mono ?_); rintro e w1 ⟨rfl, rfl⟩))
        | (go_at_call 91; ((with_reducible refine (HD.out _).mono ?_); rintro e w1 ⟨rfl, rfl⟩)))
      have hB : Below w.heap.size w w2 := (below_alloc w _).trans (hb.mono (by simp))
      have k0 := (hb_below (hb_new w (.cells #[.int .i64 0, .string ⟨#[]⟩, .int .i64 0, .int .i64 0] 49)) hb (by simp))
      have r0 := hb_at k0 0 rfl
      have r1 := hb_at k0 1 rfl
      have r2 := hb_at k0 2 rfl
      have r3 := hb_at k0 3 rfl
      exact bodyPost_ret (v := .tuple #[.agg #[.int .i64 tk, .string ts, .int .i64 tn, .int .i64 0], .int .i64 (m : Nat)]) (by simp [results, Tryz.results58, go_sem, r0, r1, r2, r3]) rfl ⟨rfl, (((hB.setCell (by simp) _).setCell (by simp) _).setCell (by simp) _).setCell (by simp) _⟩
    rw [hd] at HD
    by_cases h45 : s[0].toNat = 45
    · have e45 : ((s[0].toNat : Int) == (((⟨#[45]⟩ : ByteArray)[0]'(by show 0 < 1; omega)).toNat : Int)) = true := by rw [h45]; rfl
      rcases (Bool.eq_false_or_eq_true (Lib.hasPrefix s.data.toList [45, 62])) with hp | hp
      · rw [if_neg (by rw [hd, hp]; simp)]
        have h2 : 2 ≤ s.size := by
          have h3 := len_list s
          unfold Lib.hasPrefix at hp
          cases e : s.data.toList with
          | nil => rw [e] at hp; simp at hp
          | cons a l =>
            cases l with
            | nil => rw [e] at hp; simp at hp
            | cons b l => rw [e] at h3; simp at h3; omega
        have hsg : s[0].toNat = 45 → 2 ≤ s.size := fun _ => h2
        have HP := Lib.hid hp
        clear hs far hg h39s h95 h39 h34 hd hp h45
        have HX0 : ∀ W, EscW W → Calls Tryz.prog 93 #[.string s] W fun e w' => e = .returned (.tuple #[(signT s s[0].toNat).1.v 0, .int .i64 (signT s s[0].toNat).2]) ∧ Below W.heap.size W w' := fun W hW => firstSign_any s hm hz hsg W
        generalize signT s s[0].toNat = T at HX0 ⊢
        obtain ⟨⟨tk, ts, tn⟩, m⟩ := T
        have HX : RowKit.Hid (∀ W, EscW W → Calls Tryz.prog 93 #[.string s] W fun e w' => e = .returned (.tuple #[.agg #[.int .i64 tk, .string ts, .int .i64 tn, .int .i64 0], .int .i64 (m : Nat)]) ∧ Below W.heap.size W w') := Lib.hid HX0
        clear HX0
        go_enter Tryz.func58, Tryz.ntmps58
        go_wp2_with (first
          | (go_at_call 93; refine (HX.out _ (HE.out.alloc _)).mono ?_; rintro e w2 ⟨rfl, hb⟩; obtain ⟨hc, hf⟩ := bcellX hb; have z2 := hb.size; rw [World.size_alloc] at z2; have y2 : w.heap.size < w2.heap.size := (by omega))
          | (go_at_call 85; ((with_reducible refine (HS.out _).mono ?_); rintro e w1 ⟨rfl, rfl⟩))
          | (go_at_call 88; ((with_reducible refine (HG.out _).mono ?_); rintro e w1 ⟨rfl, rfl⟩))
          | (go_at_call 91; ((with_reducible refine (HD.out _).mono ?_); rintro e w1 ⟨rfl, rfl⟩))
          | (go_at_call 83; refine (Tryz.strings_HasPrefix s ⟨#[45, 62]⟩ _).mono ?_; rintro e w1 ⟨rfl, rfl⟩; rw [HP.out]))
        have hB : Below w.heap.size w w2 := (below_alloc w _).trans (hb.mono (by simp))
        have k0 := (hb_below (hb_new w (.cells #[.int .i64 0, .string ⟨#[]⟩, .int .i64 0, .int .i64 0] 49)) hb (by simp))
        have r0 := hb_at k0 0 rfl
        have r1 := hb_at k0 1 rfl
        have r2 := hb_at k0 2 rfl
        have r3 := hb_at k0 3 rfl
        exact bodyPost_ret (v := .tuple #[.agg #[.int .i64 tk, .string ts, .int .i64 tn, .int .i64 0], .int .i64 (m : Nat)]) (by simp [results, Tryz.results58, go_sem, r0, r1, r2, r3]) rfl ⟨rfl, (((hB.setCell (by simp) _).setCell (by simp) _).setCell (by simp) _).setCell (by simp) _⟩
      · rw [if_pos (by rw [hd, hp, h45]; rfl)]
        have HP := Lib.hid hp
        clear hs far hg h39s h95 h39 h34 hd hp h45
        have HX0 : ∀ W, EscW W → Calls Tryz.prog 92 #[.string s] W fun e w' => e = .returned (.tuple #[(numT s).1.v 0, .int .i64 (numT s).2]) ∧ Below W.heap.size W w' := fun W hW => firstNumber_any s hm W
        generalize numT s = T at HX0 ⊢
        obtain ⟨⟨tk, ts, tn⟩, m⟩ := T
        have HX : RowKit.Hid (∀ W, EscW W → Calls Tryz.prog 92 #[.string s] W fun e w' => e = .returned (.tuple #[.agg #[.int .i64 tk, .string ts, .int .i64 tn, .int .i64 0], .int .i64 (m : Nat)]) ∧ Below W.heap.size W w') := Lib.hid HX0
        clear HX0
        go_enter Tryz.func58, Tryz.ntmps58
        go_wp2_with (first
          | (go_at_call 92; refine (HX.out _ (HE.out.alloc _)).mono ?_; rintro e w2 ⟨rfl, hb⟩; obtain ⟨hc, hf⟩ := bcellX hb; have z2 := hb.size; rw [World.size_alloc] at z2; have y2 : w.heap.size < w2.heap.size := (by omega))
          | (go_at_call 85; ((with_reducible refine (HS.out _).mono ?_); rintro e w1 ⟨rfl, rfl⟩))
          | (go_at_call 88; ((with_reducible refine (HG.out _).mono ?_); rintro e w1 ⟨rfl, rfl⟩))
          | (go_at_call 91; ((with_reducible refine (HD.out _).mono ?_); rintro e w1 ⟨rfl, rfl⟩))
          | (go_at_call 83; refine (Tryz.strings_HasPrefix s ⟨#[45, 62]⟩ _).mono ?_; rintro e w1 ⟨rfl, rfl⟩; rw [HP.out]))
        have hB : Below w.heap.size w w2 := (below_alloc w _).trans (hb.mono (by simp))
        have k0 := (hb_below (hb_new w (.cells #[.int .i64 0, .string ⟨#[]⟩, .int .i64 0, .int .i64 0] 49)) hb (by simp))
        have r0 := hb_at k0 0 rfl
        have r1 := hb_at k0 1 rfl
        have r2 := hb_at k0 2 rfl
        have r3 := hb_at k0 3 rfl
        exact bodyPost_ret (v := .tuple #[.agg #[.int .i64 tk, .string ts, .int .i64 tn, .int .i64 0], .int .i64 (m : Nat)]) (by simp [results, Tryz.results58, go_sem, r0, r1, r2, r3]) rfl ⟨rfl, (((hB.setCell (by simp) _).setCell (by simp) _).setCell (by simp) _).setCell (by simp) _⟩
    · have e45 : ((s[0].toNat : Int) == (((⟨#[45]⟩ : ByteArray)[0]'(by show 0 < 1; omega)).toNat : Int)) = false := by rw [beq_eq_false_iff_ne]; intro e; exact h45 (by have e1 : (s[0].toNat : Int) = 45 := e; omega)
      rw [if_neg (by rw [hd]; simp [h45])]
      have hsg : s[0].toNat = 45 → 2 ≤ s.size := fun h => absurd h h45
      clear hs far hg h39s h95 h39 h34 hd h45
      have HX0 : ∀ W, EscW W → Calls Tryz.prog 93 #[.string s] W fun e w' => e = .returned (.tuple #[(signT s s[0].toNat).1.v 0, .int .i64 (signT s s[0].toNat).2]) ∧ Below W.heap.size W w' := fun W hW => firstSign_any s hm hz hsg W
      generalize signT s s[0].toNat = T at HX0 ⊢
      obtain ⟨⟨tk, ts, tn⟩, m⟩ := T
      have HX : RowKit.Hid (∀ W, EscW W → Calls Tryz.prog 93 #[.string s] W fun e w' => e = .returned (.tuple #[.agg #[.int .i64 tk, .string ts, .int .i64 tn, .int .i64 0], .int .i64 (m : Nat)]) ∧ Below W.heap.size W w') := Lib.hid HX0
      clear HX0
      go_enter Tryz.func58, Tryz.ntmps58
      go_wp2_with (first
        | (go_at_call 93; refine (HX.out _ (HE.out.alloc _)).mono ?_; rintro e w2 ⟨rfl, hb⟩; obtain ⟨hc, hf⟩ := bcellX hb; have z2 := hb.size; rw [World.size_alloc] at z2; have y2 : w.heap.size < w2.heap.size := (by omega))
        | (go_at_call 85; ((with_reducible refine (HS.out _).mono ?_); rintro e w1 ⟨rfl, rfl⟩))
        | (go_at_call 88; ((with_reducible refine (HG.out _).mono ?_); rintro e w1 ⟨rfl, rfl⟩))
        | (go_at_call 91; ((with_reducible refine (HD.out _).mono ?_); rintro e w1 ⟨rfl, rfl⟩)))
      have hB : Below w.heap.size w w2 := (below_alloc w _).trans (hb.mono (by simp))
      have k0 := (hb_below (hb_new w (.cells #[.int .i64 0, .string ⟨#[]⟩, .int .i64 0, .int .i64 0] 49)) hb (by simp))
      have r0 := hb_at k0 0 rfl
      have r1 := hb_at k0 1 rfl
      have r2 := hb_at k0 2 rfl
      have r3 := hb_at k0 3 rfl
      exact bodyPost_ret (v := .tuple #[.agg #[.int .i64 tk, .string ts, .int .i64 tn, .int .i64 0], .int .i64 (m : Nat)]) (by simp [results, Tryz.results58, go_sem, r0, r1, r2, r3]) rfl ⟨rfl, (((hB.setCell (by simp) _).setCell (by simp) _).setCell (by simp) _).setCell (by simp) _⟩
  · have hs0 : s = ⟨#[]⟩ := by
      apply ByteArray.ext
      apply Array.eq_empty_of_size_eq_zero
      have h : s.data.size = s.size := rfl
      omega
    subst hs0
    go_enter Tryz.func58, Tryz.ntmps58
    go_wp2
    have hB := below_alloc w (.cells #[.int .i64 0, .string ⟨#[]⟩, .int .i64 0, .int .i64 0] 49)
    have k0 := hb_new w (.cells #[.int .i64 0, .string ⟨#[]⟩, .int .i64 0, .int .i64 0] 49)
    have r0 := hb_at k0 0 rfl
    have r1 := hb_at k0 1 rfl
    have r2 := hb_at k0 2 rfl
    have r3 := hb_at k0 3 rfl
    exact bodyPost_ret (v := .tuple #[tk0.v 0, .int .i64 0]) (by simp [results, Tryz.results58, go_sem, r0, r1, r2, r3, tk0, Tk.v]) rfl ⟨rfl, by first | exact hB | exact (((hB.setCell (by simp) _).setCell (by simp) _).setCell (by simp) _).setCell (by simp) _⟩
end Go.Proofs.YtlbnaddgdgbckaaGreatDoor
