/- Texts in a row: Lb Lc. -/
import Derived.Test.YtlbnaddgdgbckaaGreatDoorZ18
import Derived.Test.YtlbnaddgdgbckaaGreatDoorZ1
import Derived.Deep.DeepCutAuto
/- Blanks and remarks, skipped. -/
namespace Go.Proofs.YtlbnaddgdgbckaaGreatDoor
open Go.RowKit
set_option linter.unusedSimpArgs false
set_option linter.unusedVariables false
theorem sfx_list (s : ByteArray) (k : Nat) : (s.extract k s.size).data.toList = s.data.toList.drop k := by
  rw [ByteArray.data_extract, Array.toList_extract]
  simp only [List.extract_eq_take_drop]
  rw [List.take_of_length_le (by rw [List.length_drop, len_list]; omega)]
theorem sfx_size (s : ByteArray) (k : Nat) : (s.extract k s.size).size = s.size - k := by
  simp [ByteArray.size_extract]
theorem sfx_zero (s : ByteArray) : s.extract 0 s.size = s := by
  simp
/-- How many bytes the next run of blanks, or the next remark, has. -/
def sn (l : List UInt8) : Nat := if Lib.hasPrefix l [45, 45] then cnt notNl l else cnt blB l
theorem sn_le (l : List UInt8) : sn l ≤ l.length := by
  unfold sn
  split <;> exact cnt_le _ _
def skF : Nat → List UInt8 → Nat
  | 0, _ => 0
  | f + 1, l => if sn l = 0 then 0 else sn l + skF f (l.drop (sn l))
/-- How many bytes blanks and remarks have at the beginning. -/
def skM (l : List UInt8) : Nat := skF (l.length + 1) l
theorem skF_any : ∀ (f g : Nat) (l : List UInt8), l.length < f → l.length < g → skF f l = skF g l := by
  intro f
  induction f with
  | zero => intro g l h; omega
  | succ f ih =>
    intro g l h1 h2
    cases g with
    | zero => omega
    | succ g =>
      unfold skF
      by_cases h : sn l = 0
      · rw [if_pos h, if_pos h]
      · rw [if_neg h, if_neg h]
        have := sn_le l
        rw [ih g (l.drop (sn l)) (by rw [List.length_drop]; omega) (by rw [List.length_drop]; omega)]
theorem skM_zero {l : List UInt8} (h : sn l = 0) : skM l = 0 := by
  unfold skM skF
  rw [if_pos h]
theorem skM_step {l : List UInt8} (h : sn l ≠ 0) : skM l = sn l + skM (l.drop (sn l)) := by
  have hl := sn_le l
  unfold skM
  rw [skF, if_neg h]
  rw [skF_any l.length ((l.drop (sn l)).length + 1) _ (by rw [List.length_drop]; omega) (by omega)]
theorem skM_le : ∀ (n : Nat) (l : List UInt8), l.length = n → skM l ≤ l.length := by
  intro n
  induction n using Nat.strongRecOn with
  | ind n ih =>
    intro l hn
    by_cases h : sn l = 0
    · rw [skM_zero h]; omega
    · have hl := sn_le l
      rw [skM_step h]
      have := ih (l.drop (sn l)).length (by rw [List.length_drop]; omega) _ rfl
      rw [List.length_drop] at this
      omega
end Go.Proofs.YtlbnaddgdgbckaaGreatDoor
/- Keywords; names as tokens. -/
namespace Go.Proofs.YtlbnaddgdgbckaaGreatDoor
open Go.RowKit
set_option linter.unusedSimpArgs false
set_option linter.unusedVariables false
theorem toList_injX {a b : ByteArray} (h : a.toList = b.toList) : a = b := by
  rw [ByteArray.toList_eq, ByteArray.toList_eq] at h
  cases a; cases b
  simpa using h
def keyB (s : ByteArray) : Bool := decide (s = ⟨#[105, 109, 112, 111, 114, 116]⟩) || decide (s = ⟨#[116, 121, 112, 101]⟩) || decide (s = ⟨#[97, 108, 105, 97, 115]⟩) || decide (s = ⟨#[108, 101, 116]⟩) || decide (s = ⟨#[114, 101, 99]⟩) || decide (s = ⟨#[105, 110]⟩) || decide (s = ⟨#[102, 117, 110]⟩) || decide (s = ⟨#[109, 97, 116, 99, 104]⟩) || decide (s = ⟨#[119, 105, 116, 104]⟩) || decide (s = ⟨#[101, 110, 100]⟩) || decide (s = ⟨#[101, 120, 112, 111, 114, 116]⟩)
set_option maxHeartbeats 1000000 in
theorem keyword_any (s : ByteArray) (w : World) : Calls Tryz.prog 103 #[.string s] w fun e w' => e = .returned (.bool (keyB s)) ∧ w = w' := by
  by_cases h0 : s = ⟨#[105, 109, 112, 111, 114, 116]⟩
  · subst h0
    have e : keyB ⟨#[105, 109, 112, 111, 114, 116]⟩ = true := by decide
    rw [e]
    go_enter Tryz.func103, Tryz.ntmps103
    go_wp2
    go_ret
    exact ⟨rfl, rfl⟩
  have d0 : (s.toList == [105, 109, 112, 111, 114, 116]) = false := by rw [beq_eq_false_iff_ne]; exact fun h => h0 (toList_injX (b := ⟨#[105, 109, 112, 111, 114, 116]⟩) (by rw [h, ByteArray.toList_eq]))
  by_cases h1 : s = ⟨#[116, 121, 112, 101]⟩
  · subst h1
    have e : keyB ⟨#[116, 121, 112, 101]⟩ = true := by decide
    rw [e]
    go_enter Tryz.func103, Tryz.ntmps103
    go_wp2
    go_ret
    exact ⟨rfl, rfl⟩
  have d1 : (s.toList == [116, 121, 112, 101]) = false := by rw [beq_eq_false_iff_ne]; exact fun h => h1 (toList_injX (b := ⟨#[116, 121, 112, 101]⟩) (by rw [h, ByteArray.toList_eq]))
  by_cases h2 : s = ⟨#[97, 108, 105, 97, 115]⟩
  · subst h2
    have e : keyB ⟨#[97, 108, 105, 97, 115]⟩ = true := by decide
    rw [e]
    go_enter Tryz.func103, Tryz.ntmps103
    go_wp2
    go_ret
    exact ⟨rfl, rfl⟩
  have d2 : (s.toList == [97, 108, 105, 97, 115]) = false := by rw [beq_eq_false_iff_ne]; exact fun h => h2 (toList_injX (b := ⟨#[97, 108, 105, 97, 115]⟩) (by rw [h, ByteArray.toList_eq]))
  by_cases h3 : s = ⟨#[108, 101, 116]⟩
  · subst h3
    have e : keyB ⟨#[108, 101, 116]⟩ = true := by decide
    rw [e]
    go_enter Tryz.func103, Tryz.ntmps103
    go_wp2
    go_ret
    exact ⟨rfl, rfl⟩
  have d3 : (s.toList == [108, 101, 116]) = false := by rw [beq_eq_false_iff_ne]; exact fun h => h3 (toList_injX (b := ⟨#[108, 101, 116]⟩) (by rw [h, ByteArray.toList_eq]))
  by_cases h4 : s = ⟨#[114, 101, 99]⟩
  · subst h4
    have e : keyB ⟨#[114, 101, 99]⟩ = true := by decide
    rw [e]
    go_enter Tryz.func103, Tryz.ntmps103
    go_wp2
    go_ret
    exact ⟨rfl, rfl⟩
  have d4 : (s.toList == [114, 101, 99]) = false := by rw [beq_eq_false_iff_ne]; exact fun h => h4 (toList_injX (b := ⟨#[114, 101, 99]⟩) (by rw [h, ByteArray.toList_eq]))
  by_cases h5 : s = ⟨#[105, 110]⟩
  · subst h5
    have e : keyB ⟨#[105, 110]⟩ = true := by decide
    rw [e]
    go_enter Tryz.func103, Tryz.ntmps103
    go_wp2
    go_ret
    exact ⟨rfl, rfl⟩
  have d5 : (s.toList == [105, 110]) = false := by rw [beq_eq_false_iff_ne]; exact fun h => h5 (toList_injX (b := ⟨#[105, 110]⟩) (by rw [h, ByteArray.toList_eq]))
  by_cases h6 : s = ⟨#[102, 117, 110]⟩
  · subst h6
    have e : keyB ⟨#[102, 117, 110]⟩ = true := by decide
    rw [e]
    go_enter Tryz.func103, Tryz.ntmps103
    go_wp2
    go_ret
    exact ⟨rfl, rfl⟩
  have d6 : (s.toList == [102, 117, 110]) = false := by rw [beq_eq_false_iff_ne]; exact fun h => h6 (toList_injX (b := ⟨#[102, 117, 110]⟩) (by rw [h, ByteArray.toList_eq]))
  by_cases h7 : s = ⟨#[109, 97, 116, 99, 104]⟩
  · subst h7
    have e : keyB ⟨#[109, 97, 116, 99, 104]⟩ = true := by decide
    rw [e]
    go_enter Tryz.func103, Tryz.ntmps103
    go_wp2
    go_ret
    exact ⟨rfl, rfl⟩
  have d7 : (s.toList == [109, 97, 116, 99, 104]) = false := by rw [beq_eq_false_iff_ne]; exact fun h => h7 (toList_injX (b := ⟨#[109, 97, 116, 99, 104]⟩) (by rw [h, ByteArray.toList_eq]))
  by_cases h8 : s = ⟨#[119, 105, 116, 104]⟩
  · subst h8
    have e : keyB ⟨#[119, 105, 116, 104]⟩ = true := by decide
    rw [e]
    go_enter Tryz.func103, Tryz.ntmps103
    go_wp2
    go_ret
    exact ⟨rfl, rfl⟩
  have d8 : (s.toList == [119, 105, 116, 104]) = false := by rw [beq_eq_false_iff_ne]; exact fun h => h8 (toList_injX (b := ⟨#[119, 105, 116, 104]⟩) (by rw [h, ByteArray.toList_eq]))
  by_cases h9 : s = ⟨#[101, 110, 100]⟩
  · subst h9
    have e : keyB ⟨#[101, 110, 100]⟩ = true := by decide
    rw [e]
    go_enter Tryz.func103, Tryz.ntmps103
    go_wp2
    go_ret
    exact ⟨rfl, rfl⟩
  have d9 : (s.toList == [101, 110, 100]) = false := by rw [beq_eq_false_iff_ne]; exact fun h => h9 (toList_injX (b := ⟨#[101, 110, 100]⟩) (by rw [h, ByteArray.toList_eq]))
  by_cases h10 : s = ⟨#[101, 120, 112, 111, 114, 116]⟩
  · subst h10
    have e : keyB ⟨#[101, 120, 112, 111, 114, 116]⟩ = true := by decide
    rw [e]
    go_enter Tryz.func103, Tryz.ntmps103
    go_wp2
    go_ret
    exact ⟨rfl, rfl⟩
  have d10 : (s.toList == [101, 120, 112, 111, 114, 116]) = false := by rw [beq_eq_false_iff_ne]; exact fun h => h10 (toList_injX (b := ⟨#[101, 120, 112, 111, 114, 116]⟩) (by rw [h, ByteArray.toList_eq]))
  have e : keyB s = false := by
    unfold keyB
    simp only [h0, h1, h2, h3, h4, h5, h6, h7, h8, h9, h10, decide_false, Bool.or_false]
  rw [e]
  clear e h0 h1 h2 h3 h4 h5 h6 h7 h8 h9 h10
  go_enter Tryz.func103, Tryz.ntmps103
  go_wp2
  go_ret
  exact ⟨rfl, rfl⟩
theorem clone_anyX (s : ByteArray) (hs : s.size ≤ 4194304) (w : World) : Calls Tryz.prog 104 #[.string s] w fun e w' => e = .returned (.string s) ∧ Below w.heap.size w w' := by
  go_enter Tryz.func104, Tryz.ntmps104
  go_wp2_with (go_at_call 122; ((with_reducible refine (Tryz.stringslite_Clone s _ (by omega)).mono ?_); rintro e w1 ⟨rfl, hb⟩))
  go_ret
  exact ⟨rfl, hb⟩
/-- What the name at the beginning is. -/
def nameT (kind : Int) (s : ByteArray) : Tk × Nat :=
  if 30 < cnt nmB s.data.toList then (tk0, 0)
  else (⟨if keyB (s.extract 0 (cnt nmB s.data.toList)) then 7 else kind, s.extract 0 (cnt nmB s.data.toList), 0⟩, cnt nmB s.data.toList)
set_option maxHeartbeats 1000000 in
theorem firstName_anyX (s : ByteArray) (kind : Int) (hm : s.size ≤ 4194304) (w : World) :
    Calls Tryz.prog 87 #[.string s, .int .i64 kind] w fun e w' => e = .returned (.tuple #[(nameT kind s).1.v 0, .int .i64 (nameT kind s).2]) ∧ Below w.heap.size w w' := by
  have hle := cnt_le nmB s.data.toList
  rw [len_list] at hle
  obtain ⟨N, hN⟩ : ∃ N, cnt nmB s.data.toList = N := ⟨_, rfl⟩
  have HC := Lib.hid (fun W => countName s hm W)
  have he : nameT kind s = if 30 < N then (tk0, 0) else (⟨if keyB (s.extract 0 N) then 7 else kind, s.extract 0 N, 0⟩, N) := by unfold nameT; rw [hN]
  rw [he]
  rw [hN] at hle HC
  clear he hN
  by_cases h30 : 30 < N
  · rw [if_pos h30]
    have d30 : decide ((30 : Int) < (N : Int)) = true := by simp; omega
    go_enter Tryz.func87, Tryz.ntmps87
    go_wp2_with (go_at_call 81; ((with_reducible refine (HC.out _).mono ?_); rintro e w1 ⟨rfl, rfl⟩))
    have hB : Below w.heap.size w (w.alloc (.cells #[.int .i64 0, .string ⟨#[]⟩, .int .i64 0, .int .i64 0] 49)) := below_alloc w _
    have k0 := hb_new w (.cells #[.int .i64 0, .string ⟨#[]⟩, .int .i64 0, .int .i64 0] 49)
    have r0 := hb_at k0 0 rfl
    have r1 := hb_at k0 1 rfl
    have r2 := hb_at k0 2 rfl
    have r3 := hb_at k0 3 rfl
    exact bodyPost_ret (v := .tuple #[tk0.v 0, .int .i64 0]) (by simp [results, Tryz.results87, go_sem, r0, r1, r2, r3, tk0, Tk.v]) rfl ⟨rfl, by first | exact hB | exact (((hB.setCell (by simp) _).setCell (by simp) _).setCell (by simp) _).setCell (by simp) _⟩
  · rw [if_neg h30]
    have d30 : decide ((30 : Int) < (N : Int)) = false := by simp; omega
    have HK := Lib.hid (fun W => keyword_any (s.extract 0 N) W)
    have HL := Lib.hid (fun W => clone_anyX (s.extract 0 N) (by rw [ByteArray.size_extract]; omega) W)
    have hNi : (N : Int) ≤ (s.size : Int) := by omega
    cases hk : keyB (s.extract 0 N)
    · rw [hk] at HK
      clear hk
      go_enter Tryz.func87, Tryz.ntmps87
      go_wp2_with (first
        | (go_at_call 81; ((with_reducible refine (HC.out _).mono ?_); rintro e w1 ⟨rfl, rfl⟩))
        | (go_at_call 103; ((with_reducible refine (HK.out _).mono ?_); rintro e w1 ⟨rfl, rfl⟩))
        | (go_at_call 104; ((with_reducible refine (HL.out _).mono ?_); rintro e w2 ⟨rfl, hb⟩; obtain ⟨hc, hf⟩ := bcellX hb; have z2 := hb.size; rw [World.size_alloc] at z2; have y2 : w.heap.size < w2.heap.size := (by omega))))
      have hB : Below w.heap.size w w2 := (below_alloc w _).trans (hb.mono (by simp))
      have k0 := (hb_below (hb_new w (.cells #[.int .i64 0, .string ⟨#[]⟩, .int .i64 0, .int .i64 0] 49)) hb (by simp))
      have r0 := hb_at k0 0 rfl
      have r1 := hb_at k0 1 rfl
      have r2 := hb_at k0 2 rfl
      have r3 := hb_at k0 3 rfl
      exact bodyPost_ret (v := .tuple #[Tk.v ⟨kind, s.extract 0 N, 0⟩ 0, .int .i64 N]) (by simp [results, Tryz.results87, go_sem, r0, r1, r2, r3, Tk.v]) rfl ⟨rfl, (((hB.setCell (by simp) _).setCell (by simp) _).setCell (by simp) _).setCell (by simp) _⟩
    · rw [hk] at HK
      clear hk
      go_enter Tryz.func87, Tryz.ntmps87
      go_wp2_with (first
        | (go_at_call 81; ((with_reducible refine (HC.out _).mono ?_); rintro e w1 ⟨rfl, rfl⟩))
        | (go_at_call 103; ((with_reducible refine (HK.out _).mono ?_); rintro e w1 ⟨rfl, rfl⟩))
        | (go_at_call 104; ((with_reducible refine (HL.out _).mono ?_); rintro e w2 ⟨rfl, hb⟩; obtain ⟨hc, hf⟩ := bcellX hb; have z2 := hb.size; rw [World.size_alloc] at z2; have y2 : w.heap.size < w2.heap.size := (by omega))))
      have hB : Below w.heap.size w w2 := (below_alloc w _).trans (hb.mono (by simp))
      have k0 := (hb_below (hb_new w (.cells #[.int .i64 0, .string ⟨#[]⟩, .int .i64 0, .int .i64 0] 49)) hb (by simp))
      have r0 := hb_at k0 0 rfl
      have r1 := hb_at k0 1 rfl
      have r2 := hb_at k0 2 rfl
      have r3 := hb_at k0 3 rfl
      exact bodyPost_ret (v := .tuple #[Tk.v ⟨7, s.extract 0 N, 0⟩ 0, .int .i64 N]) (by simp [results, Tryz.results87, go_sem, r0, r1, r2, r3, Tk.v]) rfl ⟨rfl, (((hB.setCell (by simp) _).setCell (by simp) _).setCell (by simp) _).setCell (by simp) _⟩
end Go.Proofs.YtlbnaddgdgbckaaGreatDoor
