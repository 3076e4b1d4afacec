/- The texts Rj, one behind the other. -/
import Derived.Test.YtmfphnhdahaooaaM20
import Derived.Laws.MakeOwn
set_option linter.unusedSimpArgs false
set_option linter.unusedVariables false
/- Pieces of the law's round: no bytes but noughts, made new; the names of the four files, put together; the lengths of the four files, made new. -/
namespace Go.Proofs.Ytmfphnhdahaooaa
open Go.RowKit Go.Maps

theorem made_zeros (k : Nat) : madeCells (Value.int .u8 0).cells k = (List.replicate k (Value.int .u8 0)).toArray := by
  apply Array.ext'
  apply List.ext_getElem?
  intro i
  simp [madeCells, Value.cells]
  by_cases h : i < k
  · simp [h, Nat.mod_one]
  · simp [h]

theorem make_bytes (k : Nat) (w : World) (hk : k ≤ 3000) : (Instr.makeSlice 45 (.int .i64 k) (.int .i64 k)).run Try.prog w = .ok (.slice (some ⟨w.heap.size, 0, none⟩) k k) (w.alloc (.cells (List.replicate k (Value.int .u8 0)).toArray 5)) := by
  obtain ⟨i0, hi, hz0, hz1, hz2⟩ := info_parts info5
  have h := run_makeSlice (P := Try.prog) (w := w) 45 5 i0 (.int .u8 0) Try.underlying45 hi hz0 .i64 .i64 k k (by omega) (Int.le_refl _) (by rw [hz1]; simp; omega) (by rw [hz2]; omega) (by omega)
  rw [hz1, Int.toNat_natCast, Nat.mul_one, made_zeros] at h
  exact h

theorem make_four (w : World) : (Instr.makeSlice 36 (.int .i64 4) (.int .i64 4)).run Try.prog w = .ok (.slice (some ⟨w.heap.size, 0, none⟩) 4 4) (w.alloc (.cells #[.int .i64 0, .int .i64 0, .int .i64 0, .int .i64 0] 3)) := by kernel_rfl

theorem text_one (w : World) (g c : Nat) (n : Int) (h : w.cell? ⟨g, 0, none⟩ = some (.int .u8 n)) : (convert 45 9 (.slice (some ⟨g, 0, none⟩) 1 c)).run Try.prog w = .ok (.string (ByteArray.empty.push (UInt8.ofNat n.toNat))) w := by
  rw [run_convert_bytes_string w 45 9 5 _ _ _ Try.underlying45 Try.underlying5 Try.underlying9]
  have hl : (loadCells ⟨g, 0, none⟩ 1).run Try.prog w = .ok ([n].map (Value.int .u8)).toArray w := by
    refine run_loadCells_list (P := Try.prog) (w := w) ⟨g, 0, none⟩ [.int .u8 n] fun j v hj => ?_
    cases j with
    | zero =>
      have e : Value.int .u8 n = v := by simpa using hj
      rw [← e]
      simpa [Addr.add] using h
    | succ n => simp at hj
  rw [run_bytesToString w ⟨g, 0, none⟩ 1 c [n] hl]
  rfl
end Go.Proofs.Ytmfphnhdahaooaa
