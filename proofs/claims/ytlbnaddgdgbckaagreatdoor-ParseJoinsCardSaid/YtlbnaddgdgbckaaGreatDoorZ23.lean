/- Texts in a row: Lh Lj. -/
import Derived.Test.YtlbnaddgdgbckaaGreatDoorZ22
/- Numbers: versions and ints. -/
namespace Go.Proofs.YtlbnaddgdgbckaaGreatDoor
open Go.RowKit
set_option linter.unusedSimpArgs false
set_option linter.unusedVariables false
theorem atoi_int (s : ByteArray) (hm : s.size ≤ 4194304) (v : Int) (h : Lib.atoiAll s.data.toList = .ok v) (w : World) :
    Calls Tryz.prog 113 #[.string s] w fun e w' => e = .returned (.tuple #[.int .i64 v, .nilIface]) ∧ Below w.heap.size w w' := by
  refine (Tryz.strconv_Atoi_ok s (by omega) v h w).mono ?_
  rintro e w' ⟨rfl, hw | ⟨t, rfl⟩⟩
  · subst hw; exact ⟨rfl, Below.refl _ _⟩
  · refine ⟨rfl, ?_⟩
    exact Lib.bytesWorld_below w _ t
def numT (s : ByteArray) : Tk × Nat :=
  if 0 < verM s then (⟨6, s.extract 0 (verM s), 0⟩, verM s)
  else if intM s.data.toList = 0 then (tk0, 0) else (⟨4, ⟨#[]⟩, intV s.data.toList⟩, intM s.data.toList)
theorem intM_le (l : List UInt8) : intM l ≤ l.length := by
  by_cases h : intM l = 0
  · omega
  · cases hp : Lib.hasPrefix l [45]
    · have := (intM_plain hp h).1
      have := intN_le l
      omega
    · have h1 := (intM_neg hp h).1
      have h2 := intN_le (l.drop 1)
      have h3 := congrArg List.length (pre_cons hp)
      rw [List.length_cons] at h3
      omega
set_option maxHeartbeats 4000000 in
set_option maxRecDepth 100000 in
theorem firstNumber_any (s : ByteArray) (hm : s.size ≤ 4194304) (w : World) :
    Calls Tryz.prog 92 #[.string s] w fun e w' => e = .returned (.tuple #[(numT s).1.v 0, .int .i64 (numT s).2]) ∧ Below w.heap.size w w' := by
  have hle := verM_le s
  have HV := Lib.hid (fun W => versionBytes_any s hm W)
  have HI := Lib.hid (fun W => intBytes_any s hm W)
  have hil := intM_le s.data.toList
  rw [len_list] at hil
  have HA := Lib.hid (fun (h : intM s.data.toList ≠ 0) => intM_ok h)
  have he : numT s = (if 0 < verM s then (⟨6, s.extract 0 (verM s), 0⟩, verM s)
  else if intM s.data.toList = 0 then (tk0, 0) else (⟨4, ⟨#[]⟩, intV s.data.toList⟩, intM s.data.toList)) := rfl
  rw [he]
  clear he
  generalize intV s.data.toList = V at *
  generalize verM s = M at *
  generalize hI : intM s.data.toList = I at *
  by_cases h1 : 0 < M
  · rw [if_pos h1]
    have hMi : (0 : Int) < (M : Int) := by omega
    have hMs : (M : Int) ≤ (s.size : Int) := by omega
    have HL := Lib.hid (fun W => clone_anyX (s.extract 0 M) (by rw [ByteArray.size_extract]; omega) W)
    go_enter Tryz.func92, Tryz.ntmps92
    go_wp2_with (first
      | (go_at_call 111; ((with_reducible refine (HV.out _).mono ?_); rintro e w1 ⟨rfl, hb1⟩; obtain ⟨hc1, hf1⟩ := bcellX hb1; have z1 := hb1.size; rw [World.size_alloc] at z1; have y1 : w.heap.size < w1.heap.size := (by omega)))
      | (go_at_call 104; ((with_reducible refine (HL.out _).mono ?_); rintro e w2 ⟨rfl, hb2⟩; obtain ⟨hc2, hf2⟩ := bcellX hb2; have z2 := hb2.size; have y2 : w.heap.size < w2.heap.size := (by omega))))
    have hB1 : Below w.heap.size w w1 := (below_alloc w _).trans (hb1.mono (by simp))
    have k1 := hb_below (hb_new w (.cells #[.int .i64 0, .string ⟨#[]⟩, .int .i64 0, .int .i64 0] 49)) hb1 (by simp)
    have hB : Below w.heap.size w w2 := hB1.trans (hb2.mono hB1.size)
    have k0 := hb_below k1 hb2 (by omega)
    have r0 := hb_at k0 0 rfl
    have r1 := hb_at k0 1 rfl
    have r2 := hb_at k0 2 rfl
    have r3 := hb_at k0 3 rfl
    exact bodyPost_ret (v := .tuple #[Tk.v ⟨6, s.extract 0 M, 0⟩ 0, .int .i64 M]) (by simp [results, Tryz.results92, go_sem, r0, r1, r2, r3, Tk.v, tk0]) rfl ⟨rfl, (((hB.setCell (by simp) _).setCell (by simp) _).setCell (by simp) _).setCell (by simp) _⟩
  · rw [if_neg h1]
    obtain rfl : M = 0 := by omega
    by_cases h2 : I = 0
    · rw [if_pos h2]
      subst h2
      go_enter Tryz.func92, Tryz.ntmps92
      go_wp2_with (first
        | (go_at_call 111; ((with_reducible refine (HV.out _).mono ?_); rintro e w1 ⟨rfl, hb1⟩; obtain ⟨hc1, hf1⟩ := bcellX hb1; have z1 := hb1.size; rw [World.size_alloc] at z1; have y1 : w.heap.size < w1.heap.size := (by omega)))
        | (go_at_call 112; ((with_reducible refine (HI.out _).mono ?_); rintro e w2 ⟨rfl, rfl⟩)))
      have hB1 : Below w.heap.size w w1 := (below_alloc w _).trans (hb1.mono (by simp))
      have k1 := hb_below (hb_new w (.cells #[.int .i64 0, .string ⟨#[]⟩, .int .i64 0, .int .i64 0] 49)) hb1 (by simp)
      have hB := hB1
      have k0 := k1
      have r0 := hb_at k0 0 rfl
      have r1 := hb_at k0 1 rfl
      have r2 := hb_at k0 2 rfl
      have r3 := hb_at k0 3 rfl
      exact bodyPost_ret (v := .tuple #[tk0.v 0, .int .i64 0]) (by simp [results, Tryz.results92, go_sem, r0, r1, r2, r3, Tk.v, tk0]) rfl ⟨rfl, (((hB.setCell (by simp) _).setCell (by simp) _).setCell (by simp) _).setCell (by simp) _⟩
    · rw [if_neg h2]
      have n2 : ((I : Int) == 0) = false := by rw [beq_eq_false_iff_ne]; omega
      have hIs : (I : Int) ≤ (s.size : Int) := by omega
      have HT := Lib.hid (fun W => atoi_int (s.extract 0 I) (by rw [ByteArray.size_extract]; omega) V (by rw [← ByteArray.toList_eq, take_list]; exact HA.out h2) W)
      go_enter Tryz.func92, Tryz.ntmps92
      go_wp2_with (first
        | (go_at_call 111; ((with_reducible refine (HV.out _).mono ?_); rintro e w1 ⟨rfl, hb1⟩; obtain ⟨hc1, hf1⟩ := bcellX hb1; have z1 := hb1.size; rw [World.size_alloc] at z1; have y1 : w.heap.size < w1.heap.size := (by omega)))
        | (go_at_call 112; ((with_reducible refine (HI.out _).mono ?_); rintro e w2 ⟨rfl, rfl⟩))
        | (go_at_call 113; ((with_reducible refine (HT.out _).mono ?_); rintro e w2 ⟨rfl, hb2⟩; obtain ⟨hc2, hf2⟩ := bcellX hb2; have z2 := hb2.size; have y2 : w.heap.size < w2.heap.size := (by omega))))
      have hB1 : Below w.heap.size w w1 := (below_alloc w _).trans (hb1.mono (by simp))
      have k1 := hb_below (hb_new w (.cells #[.int .i64 0, .string ⟨#[]⟩, .int .i64 0, .int .i64 0] 49)) hb1 (by simp)
      have hB : Below w.heap.size w w2 := hB1.trans (hb2.mono hB1.size)
      have k0 := hb_below k1 hb2 (by omega)
      have r0 := hb_at k0 0 rfl
      have r1 := hb_at k0 1 rfl
      have r2 := hb_at k0 2 rfl
      have r3 := hb_at k0 3 rfl
      exact bodyPost_ret (v := .tuple #[Tk.v ⟨4, ⟨#[]⟩, V⟩ 0, .int .i64 I]) (by simp [results, Tryz.results92, go_sem, r0, r1, r2, r3, Tk.v, tk0]) rfl ⟨rfl, (((hB.setCell (by simp) _).setCell (by simp) _).setCell (by simp) _).setCell (by simp) _⟩
end Go.Proofs.YtlbnaddgdgbckaaGreatDoor
/- One byte behind what a builder holds. -/
namespace Go.Proofs.YtlbnaddgdgbckaaGreatDoor
open Go.RowKit
set_option linter.unusedSimpArgs false
set_option linter.unusedVariables false
theorem info47 : ∃ j, Tryz.prog.info? 135 = some j ∧ j.size ≠ 0 := by
  obtain ⟨j, hj, hjs⟩ := Option.map_eq_some_iff.1 Tryz.Builder_Extra_169.sizeBuilder
  exact ⟨j, hj, by rw [hjs]; decide⟩
set_option maxHeartbeats 1000000 in
set_option maxRecDepth 100000 in
theorem check_used (b : Nat) (w : World) (h0 : w.cell? ⟨b, 0, none⟩ = some (.pointer (some ⟨b, 0, none⟩))) :
    Calls Tryz.prog 124 #[.pointer (some ⟨b, 0, none⟩)] w fun e w' => e = .returned (.tuple #[]) ∧ w = w' := by
  obtain ⟨j, hj, hjs⟩ := info47
  go_enter Tryz.func124, Tryz.ntmps124
  go_wp2
  rw [Lib.run_neq_ptr_same w _ Tryz.underlying133 hj]
  go_wp2
  go_end0
  exact ⟨rfl, rfl⟩
set_option maxHeartbeats 1000000 in
set_option maxRecDepth 100000 in
theorem check_fresh (b : Nat) (w : World) (h0 : w.cell? ⟨b, 0, none⟩ = some (.pointer none)) (hsh : w.shape? b = some (135, 2)) (hfz : w.frozen? ⟨b, 0, none⟩ = false) :
    Calls Tryz.prog 124 #[.pointer (some ⟨b, 0, none⟩)] w fun e w' => e = .returned (.tuple #[]) ∧ w' = w.setCell ⟨b, 0, none⟩ (.pointer (some ⟨b, 0, none⟩)) := by
  obtain ⟨j, hj, hjs⟩ := info47
  go_enter Tryz.func124, Tryz.ntmps124
  go_wp2
  rw [Lib.run_to_unsafe w ⟨b, 0, none⟩ Tryz.underlying133 Tryz.underlying157 hj hjs hsh (Nat.zero_lt_succ 1)]
  simp only [Result.andThen]
  rw [Oper.upon_value]
  go_wp2
  rw [run_callFunc_extern Tryz.func129 (by kernel_rfl) (by kernel_rfl) (by kernel_rfl) (e := Extern.AbiNoEscape.same) (by kernel_rfl), Lib.run_noEscape]
  simp only [Result.andThen]
  rw [Oper.upon_value]
  go_wp2
  rw [Lib.run_from_unsafe w ⟨b, 0, none⟩ Tryz.underlying157 Tryz.underlying133 hj hsh Tryz.Builder_Extra_169.liesBuilder]
  simp only [Result.andThen]
  rw [Oper.upon_value]
  go_wp2
  go_end0
  exact ⟨rfl, rfl⟩
theorem info5 : ∃ i, Tryz.prog.info? 5 = some i ∧ i.zero = some (.int .u8 0) ∧ i.size = 1 ∧ i.bytes = 1 := by
  obtain ⟨i, h1, h2, h3, h4⟩ := info_parts Tryz.Builder_Extra_169.infoByte
  exact ⟨i, h1, h2, h3, h4⟩
theorem check_any (B b : Nat) (l : List UInt8) (w : World) (h : Lib.IsBuilder 135 5 B b (Lib.byteCells l) w) :
    Calls Tryz.prog 124 #[.pointer (some ⟨b, 0, none⟩)] w fun e w' => e = .returned (.tuple #[]) ∧ Lib.BuilderAt 135 5 B b (.pointer (some ⟨b, 0, none⟩)) (Lib.byteCells l) w' ∧ Below B w w' := by
  rcases h with h | h
  · refine (check_fresh b w h.cell0 h.shape h.frozen0).mono ?_
    rintro e w' ⟨rfl, rfl⟩
    exact ⟨rfl, h.used _, (Below.refl B w).setCell (p := ⟨b, 0, none⟩) h.1 _⟩
  · refine (check_used b w h.cell0).mono ?_
    rintro e w' ⟨rfl, rfl⟩
    exact ⟨rfl, h, Below.refl B _⟩
/-- What a builder is behind one more byte. -/
def WroteB (B b : Nat) (l : List UInt8) (c : UInt8) (w : World) (e : Ending) (w' : World) : Prop :=
  e = .returned .nilIface ∧ Lib.IsBuilder 135 5 B b (Lib.byteCells (l ++ [c])) w' ∧ Below B w w'
set_option maxHeartbeats 2000000 in
set_option maxRecDepth 100000 in
theorem writeByte_any (B b : Nat) (l : List UInt8) (c : UInt8) (w : World) (h : Lib.IsBuilder 135 5 B b (Lib.byteCells l) w) (hl : l.length ≤ 4194304) (hBw : B ≤ w.heap.size) :
    Calls Tryz.prog 110 #[.pointer (some ⟨b, 0, none⟩), .int .u8 (c.toNat : Nat)] w (WroteB B b l c w) := by
  have hlen : (Lib.byteCells l).length ≤ 4194304 := by rw [Lib.byteCells_length]; exact hl
  obtain ⟨i0, hi, hz0, hz1, hz2⟩ := info_parts Tryz.Builder_Extra_169.infoByte
  have HK := Lib.hid (fun W hW => check_any B b l W hW)
  have HH := Lib.hid h
  clear h
  go_enter Tryz.func110, Tryz.ntmps110
  go_wp2_with (go_at_call 124; refine (HK.out _ HH.out).mono ?_)
  rintro e w1 ⟨rfl, h1, hb1⟩
  obtain ⟨hB, v, hbk, hown, hne⟩ := h1
  have hlt : b < w1.heap.size := by
    rcases Nat.lt_or_ge b w1.heap.size with h' | h'
    · exact h'
    · rw [Array.getElem?_eq_none h'] at hbk; cases hbk
  have c0 : w1.cell? ⟨b, 0, none⟩ = some (.pointer (some ⟨b, 0, none⟩)) := by rw [Lib.cell_of_heap hbk]; rfl
  have c1 : w1.cell? ⟨b, 1, none⟩ = some v := by rw [Lib.cell_of_heap hbk]; rfl
  go_wp2_with (at_builtin; refine wpList_append_own _ rfl _ _ 104 rfl B 5 i0 (.int .u8 0) 1 1 Tryz.underlying104 hi hz0 hz1 hz2 rfl (by decide) _ _ _ rfl (hown.alloc _) ⟨w1.heap.size, 0, none⟩ 1 1 [.int .u8 (c.toNat : Nat)] rfl rfl ?c1 ?c2 ?c3 ?c4 ?c5 ?_)
  case c1 =>
    intro j u hj
    cases j with
    | zero => simp at hj; subst hj; simp [Addr.add]
    | succ j => simp at hj
  case c2 => intro u hu; simp at hu; subst hu; rfl
  case c3 => unfold maxLen; omega
  case c4 => omega
  case c5 => have := hb1.size; simp; omega
  intro v' w2 hown' hgrow _
  have hs1 := hb1.size
  have hb2 : w2.heap[b]? = some (.cells #[.pointer (some ⟨b, 0, none⟩), v] 135 (0, 0)) := by
    rw [hgrow.block b (by simp; omega) (fun e => hne e.symm), Lib.alloc_old w1 _ b hlt]
    exact hbk
  have d0 : w2.cell? ⟨b, 0, none⟩ = some (.pointer (some ⟨b, 0, none⟩)) := by rw [Lib.cell_of_heap hb2]; rfl
  have d1 : w2.cell? ⟨b, 1, none⟩ = some v := by rw [Lib.cell_of_heap hb2]; rfl
  have f1 : w2.frozen? ⟨b, 1, none⟩ = false := Lib.frozen_of_heap hb2 1
  obtain ⟨g, cap, rfl⟩ : ∃ g cap, v' = .slice (some ⟨g, 0, none⟩) ((Lib.byteCells l).length + 1) cap := by
    rcases hown'.2 with ⟨_, h0⟩ | ⟨g, cap, cur, hv, _⟩
    · omega
    · exact ⟨g, cap, hv⟩
  go_wp2
  go_ret
  refine ⟨rfl, .inr ?_, ?_⟩
  · have hbc : Lib.byteCells (l ++ [c]) = Lib.byteCells l ++ [.int .u8 (c.toNat : Nat)] := by simp [Lib.byteCells]
    rw [hbc]
    exact Lib.BuilderAt.put (T := 135) (e := 5) hB hb2 (bs' := Lib.byteCells l ++ [.int .u8 (c.toNat : Nat)]) (by simpa using hown') (by decide)
  · exact ((hb1.alloc (by omega) _).grown hgrow (by simp; omega) (fun k hk => (hown.lt k hk).1)).setCell (p := ⟨b, 1, none⟩) hB _
end Go.Proofs.YtlbnaddgdgbckaaGreatDoor
