
/- Variables, as they are read. -/
import Derived.Test.YtpedmkdpbdhenaaGreatDoorLl
namespace Go.Proofs.YtpedmkdpbdhenaaGreatDoor
open Go.RowKit
set_option linter.unusedSimpArgs false
set_option linter.unusedVariables false
def headS : Option UInt8 → Bool
  | none => false
  | some c => smB c
/-- What the variable behind a mark is. -/
def varT (s : ByteArray) : Tk × Nat :=
  if cnt vrB (s.data.toList.drop 1) = 0 ∨ 29 < cnt vrB (s.data.toList.drop 1) ∨ headS s.data.toList[1]? = false then (tk0, 0)
  else (⟨3, ⟨((s.data.toList.drop 1).take (cnt vrB (s.data.toList.drop 1))).toArray⟩, 0⟩, 1 + cnt vrB (s.data.toList.drop 1))
theorem trim_mark {s : ByteArray} (h : s.data.toList[0]? = some 39) : Lib.trimPrefix s.data.toList [39] = s.data.toList.drop 1 := by
  unfold Lib.trimPrefix Lib.hasPrefix
  cases e : s.data.toList with
  | nil => rw [e] at h; simp at h
  | cons c l => rw [e] at h; simp at h; subst h; simp
set_option maxHeartbeats 4000000 in
set_option maxRecDepth 100000 in
theorem firstVar_any (s : ByteArray) (hm : s.size ≤ 4194304) (h39 : s.data.toList[0]? = some 39) (w : World) :
    Calls Tryz.prog 33 #[.string s] w fun e w' => e = .returned (.tuple #[(varT s).1.v 0, .int .i64 (varT s).2]) ∧ Below w.heap.size w w' := by
  have HT := Lib.hid (fun W => (Tryz.strings_TrimPrefix s ⟨#[39]⟩ W).mono fun e w' (h : _ ∧ _) => (⟨by rw [h.1]; exact congrArg (fun l : List UInt8 => Ending.returned (.string ⟨l.toArray⟩)) (trim_mark h39), h.2.symm⟩ : e = .returned (.string ⟨(s.data.toList.drop 1).toArray⟩) ∧ W = w'))
  have hln : s.data.toList.length = 1 + (s.data.toList.drop 1).length := by
    have := (List.getElem?_eq_some_iff.1 h39).1
    rw [List.length_drop]
    omega
  rw [len_list] at hln
  have hd1 : s.data.toList[1]? = (s.data.toList.drop 1)[0]? := by rw [List.getElem?_drop]
  obtain ⟨D, hD⟩ : ∃ D : ByteArray, D.data.toList = s.data.toList.drop 1 := ⟨⟨(s.data.toList.drop 1).toArray⟩, rfl⟩
  have hDD : (⟨(s.data.toList.drop 1).toArray⟩ : ByteArray) = D := by rw [← hD]
  rw [hDD] at HT
  have hV : varT s = (if cnt vrB D.data.toList = 0 ∨ 29 < cnt vrB D.data.toList ∨ headS D.data.toList[0]? = false then (tk0, 0) else (⟨3, D.extract 0 (cnt vrB D.data.toList), 0⟩, 1 + cnt vrB D.data.toList)) := by
    unfold varT
    rw [hd1, ← hD]
    have h1 : (⟨(D.data.toList.take (cnt vrB D.data.toList)).toArray⟩ : ByteArray) = D.extract 0 (cnt vrB D.data.toList) := by
      apply toList_inj
      rw [take_list, ByteArray.toList_eq]
    rw [h1]
  rw [hV]
  rw [← hD, len_list] at hln
  clear hV hDD hD hd1 h39
  have hDm : D.size ≤ 4194304 := by omega
  have hle := cnt_le vrB D.data.toList
  rw [len_list] at hle
  have HC := Lib.hid (fun W => countVar D hDm W)
  obtain ⟨N, hN⟩ : ∃ N, cnt vrB D.data.toList = N := ⟨_, rfl⟩
  rw [hN] at hle HC ⊢
  clear hN
  have hNi : (N : Int) ≤ (D.size : Int) := by omega
  obtain ⟨E, hE⟩ : ∃ E, D.extract 0 N = E := ⟨_, rfl⟩
  have hEs : E.size = N := by rw [← hE, ByteArray.size_extract]; omega
  have hEL : E.data.toList = D.data.toList.take N := by rw [← hE, ← ByteArray.toList_eq, take_list]
  by_cases h0 : N = 0
  · rw [if_pos (.inl h0)]
    subst h0
    have q0 : (E.toList == ([] : List UInt8)) = true := by rw [ByteArray.toList_eq, hEL]; rfl
    clear hEL
    go_enter Tryz.func33, Tryz.ntmps33
    go_wp2_with (first
      | (go_at_call 53; ((with_reducible refine (HT.out _).mono ?_); rintro e w1 ⟨rfl, rfl⟩))
      | (go_at_call 29; ((with_reducible refine (HC.out _).mono ?_); rintro e w1 ⟨rfl, rfl⟩)))
    have hB := below_alloc w (.cells #[.int .i64 0, .string ⟨#[]⟩, .int .i64 0, .int .i64 0] 32)
    have k0 := hb_new w (.cells #[.int .i64 0, .string ⟨#[]⟩, .int .i64 0, .int .i64 0] 32)
    have r0 := hb_at k0 0 rfl
    have r1 := hb_at k0 1 rfl
    have r2 := hb_at k0 2 rfl
    have r3 := hb_at k0 3 rfl
    exact bodyPost_ret (v := .tuple #[tk0.v 0, .int .i64 0]) (by simp [results, Tryz.results33, go_sem, r0, r1, r2, r3, tk0, Tk.v]) rfl ⟨rfl, by first | exact hB | exact (((hB.setCell (by simp) _).setCell (by simp) _).setCell (by simp) _).setCell (by simp) _⟩
  rw [hE]
  have q0 : (E.toList == ([] : List UInt8)) = false := by
    rw [beq_eq_false_iff_ne]
    intro e
    have e1 := congrArg List.length e
    rw [ByteArray.toList_eq, len_list, hEs] at e1
    exact h0 e1
  by_cases h30 : 29 < N
  · rw [if_pos (.inr (.inl h30))]
    have d30 : decide ((30 : Int) < 1 + (N : Int)) = true := by simp; omega
    clear hEL
    go_enter Tryz.func33, Tryz.ntmps33
    go_wp2_with (first
      | (go_at_call 53; ((with_reducible refine (HT.out _).mono ?_); rintro e w1 ⟨rfl, rfl⟩))
      | (go_at_call 29; ((with_reducible refine (HC.out _).mono ?_); rintro e w1 ⟨rfl, rfl⟩)))
    have hB := below_alloc w (.cells #[.int .i64 0, .string ⟨#[]⟩, .int .i64 0, .int .i64 0] 32)
    have k0 := hb_new w (.cells #[.int .i64 0, .string ⟨#[]⟩, .int .i64 0, .int .i64 0] 32)
    have r0 := hb_at k0 0 rfl
    have r1 := hb_at k0 1 rfl
    have r2 := hb_at k0 2 rfl
    have r3 := hb_at k0 3 rfl
    exact bodyPost_ret (v := .tuple #[tk0.v 0, .int .i64 0]) (by simp [results, Tryz.results33, go_sem, r0, r1, r2, r3, tk0, Tk.v]) rfl ⟨rfl, by first | exact hB | exact (((hB.setCell (by simp) _).setCell (by simp) _).setCell (by simp) _).setCell (by simp) _⟩
  have d30 : decide ((30 : Int) < 1 + (N : Int)) = false := by simp; omega
  have hsz : 0 < E.size := by omega
  have hsi : (0 : Int) < (E.size : Int) := by omega
  have HS := Lib.hid (fun W => isSmall_any E[0] W)
  have hH : D.data.toList[0]? = some E[0] := by
    have h1 := at_list E 0 hsz
    rw [hEL, List.getElem?_take, if_pos (by omega)] at h1
    exact h1
  rw [hH]
  rw [show headS (some E[0]) = smB E[0] from rfl]
  clear hH hEL
  rcases (Bool.eq_false_or_eq_true (smB E[0])).symm with hb | hb
  · rw [if_pos (.inr (.inr hb))]
    rw [hb] at HS
    clear hb
    go_enter Tryz.func33, Tryz.ntmps33
    go_wp2_with (first
      | (go_at_call 53; ((with_reducible refine (HT.out _).mono ?_); rintro e w1 ⟨rfl, rfl⟩))
      | (go_at_call 29; ((with_reducible refine (HC.out _).mono ?_); rintro e w1 ⟨rfl, rfl⟩))
      | (go_at_call 28; ((with_reducible refine (HS.out _).mono ?_); rintro e w1 ⟨rfl, rfl⟩)))
    have hB := below_alloc w (.cells #[.int .i64 0, .string ⟨#[]⟩, .int .i64 0, .int .i64 0] 32)
    have k0 := hb_new w (.cells #[.int .i64 0, .string ⟨#[]⟩, .int .i64 0, .int .i64 0] 32)
    have r0 := hb_at k0 0 rfl
    have r1 := hb_at k0 1 rfl
    have r2 := hb_at k0 2 rfl
    have r3 := hb_at k0 3 rfl
    exact bodyPost_ret (v := .tuple #[tk0.v 0, .int .i64 0]) (by simp [results, Tryz.results33, go_sem, r0, r1, r2, r3, tk0, Tk.v]) rfl ⟨rfl, by first | exact hB | exact (((hB.setCell (by simp) _).setCell (by simp) _).setCell (by simp) _).setCell (by simp) _⟩
  · rw [if_neg (by rw [hb]; simp; omega)]
    rw [hb] at HS
    clear hb
    have HL := Lib.hid (fun W => clone_any E (by omega) W)
    go_enter Tryz.func33, Tryz.ntmps33
    go_wp2_with (first
      | (go_at_call 53; ((with_reducible refine (HT.out _).mono ?_); rintro e w1 ⟨rfl, rfl⟩))
      | (go_at_call 29; ((with_reducible refine (HC.out _).mono ?_); rintro e w1 ⟨rfl, rfl⟩))
      | (go_at_call 28; ((with_reducible refine (HS.out _).mono ?_); rintro e w1 ⟨rfl, rfl⟩))
      | (go_at_call 52; ((with_reducible refine (HL.out _).mono ?_); rintro e w2 ⟨rfl, hb⟩; obtain ⟨hc, hf⟩ := bcell hb; have z2 := hb.size; rw [World.size_alloc] at z2; have y2 : w.heap.size < w2.heap.size := (by omega))))
    have hB : Below w.heap.size w w2 := (below_alloc w _).trans (hb.mono (by simp))
    have k0 := (hb_below (hb_new w (.cells #[.int .i64 0, .string ⟨#[]⟩, .int .i64 0, .int .i64 0] 32)) hb (by simp))
    have r0 := hb_at k0 0 rfl
    have r1 := hb_at k0 1 rfl
    have r2 := hb_at k0 2 rfl
    have r3 := hb_at k0 3 rfl
    exact bodyPost_ret (v := .tuple #[Tk.v ⟨3, E, 0⟩ 0, .int .i64 (1 + (N : Int))]) (by simp [results, Tryz.results33, go_sem, r0, r1, r2, r3, Tk.v]) rfl ⟨rfl, (((hB.setCell (by simp) _).setCell (by simp) _).setCell (by simp) _).setCell (by simp) _⟩
end Go.Proofs.YtpedmkdpbdhenaaGreatDoor
