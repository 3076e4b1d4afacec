/- Arguments that are slices of texts, of bytes, of ints, as lists. -/
import Derived.Test.YtnailnlpjakcbaaC5
import Derived.Test.YtnailnlpjakcbaaC2
import Derived.ProofKit
import Derived.OpenShut
import Derived.ShutString
import Derived.ChangeOld
import Derived.ChangeSlices
import Derived.SliceStrings
namespace Go.Proofs.Ytnailnlpjakcbaa
open Go.ChangeShapes Go.WideShapes Go.ChangeAt Go.RowKit
open Go.ChangeMaps (open_string shut_string)

theorem reads_take {W : World} {a : Addr} {len cap : Nat} {xs : List Value} (hl : len ≤ xs.length) (h : ∀ i x, xs[i]? = some x → W.cell? (a.add i) = some x) : Reads W (.slice (some a) len cap) (xs.take len) := by
  have e : (xs.take len).length = len := by rw [List.length_take]; omega
  refine .inr ⟨a, cap, by rw [e], fun k x hx => h k x ?_⟩
  rw [List.getElem?_take] at hx
  split at hx
  · exact hx
  · cases hx

section
variable {H : Type} {enc : TypeId × Value → H} {W : World} {base : Nat} {v : Value} {d : DataW H} {p : List MemPlace}
theorem arg_strs (hval : Value.okWide Try.prog W .any base 36 v) (h : DataW.Trod enc Try.prog W 0 (fun _ => true) true 36 v d p) : ∃ l : List ByteArray, Reads W v (strs l) ∧ (∀ s ∈ l, s.size ≤ maxLen) ∧ l.length ≤ maxLen := by
  obtain ⟨a, len, cap, rfl⟩ := okWide_slice Try.underlying36 hval
  obtain ⟨fuel, hf⟩ := h
  rcases open_strings Try.underlying36 Try.underlying9 (by kernel_rfl) hf with ⟨hcs, _⟩ | ⟨x, l, c, ss, hcs, _, hl, hm, hz, _, hcell, hwz⟩
  · simp [Value.cells] at hcs
    obtain ⟨rfl, rfl, rfl⟩ := hcs
    exact ⟨[], .inl ⟨rfl, rfl⟩, by simp, Nat.zero_le _⟩
  · simp [Value.cells] at hcs
    obtain ⟨rfl, rfl, rfl⟩ := hcs
    have hz' : ss.length = cap := by simpa using hz
    refine ⟨ss.take len, ?_, fun s hs => hwz s (List.mem_of_mem_take hs), by rw [List.length_take]; omega⟩
    have := reads_take (W := W) (a := x) (len := len) (cap := cap) (xs := strs ss) (by simp [strs]; omega) (fun i y hy => by
      have hi : i < ss.length := by
        have := (List.getElem?_eq_some_iff.1 hy).1
        simpa [strs] using this
      have hg := hcell i hi
      simp only [strs, List.getElem?_map, List.getElem?_eq_getElem hi, Option.map_some, Option.some.injEq] at hy
      rw [hg, ← hy]
      simp [List.getD, List.getElem?_eq_getElem hi])
    simpa [strs, List.map_take] using this
theorem arg_nums {t e : TypeId} {k : IntKind} (ht : Try.prog.underlying t = some (.slice e)) (he : Try.prog.underlying e = some (.int k)) (hc : Try.prog.cellsOf e = 1)
    (hval : Value.okWide Try.prog W .any base t v) (h : DataW.Trod enc Try.prog W 0 (fun _ => true) true t v d p) : ∃ l : List Int, Reads W v (l.map (Value.int k)) ∧ (∀ n ∈ l, (Lit.int k n).wf = true) ∧ l.length ≤ maxLen := by
  obtain ⟨a, len, cap, rfl⟩ := okWide_slice ht hval
  obtain ⟨fuel, hf⟩ := h
  rcases open_ints ht he hc hf with ⟨hcs, _⟩ | ⟨x, l, c, ss, hcs, _, hl, hm, hz, _, hcell, hwz⟩
  · simp [Value.cells] at hcs
    obtain ⟨rfl, rfl, rfl⟩ := hcs
    exact ⟨[], .inl ⟨rfl, rfl⟩, by simp, Nat.zero_le _⟩
  · simp [Value.cells] at hcs
    obtain ⟨rfl, rfl, rfl⟩ := hcs
    have hz' : ss.length = cap := by simpa using hz
    refine ⟨ss.take len, ?_, fun s hs => hwz s (List.mem_of_mem_take hs), by rw [List.length_take]; omega⟩
    have := reads_take (W := W) (a := x) (len := len) (cap := cap) (xs := ss.map (Value.int k)) (by simp; omega) (fun i y hy => by
      have hi : i < ss.length := by
        have := (List.getElem?_eq_some_iff.1 hy).1
        simpa using this
      have hg := hcell i hi
      simp only [List.getElem?_map, List.getElem?_eq_getElem hi, Option.map_some, Option.some.injEq] at hy
      rw [hg, ← hy]
      simp [List.getD, List.getElem?_eq_getElem hi])
    simpa [List.map_take] using this
theorem arg_bytes (hval : Value.okWide Try.prog W .any base 40 v) (h : DataW.Trod enc Try.prog W 0 (fun _ => true) true 40 v d p) : ∃ l : List UInt8, Reads W v (bytesV l) ∧ l.length ≤ maxLen := by
  obtain ⟨l, hr, hw, hlm⟩ := arg_nums Try.underlying40 Try.underlying5 (by kernel_rfl) hval h
  refine ⟨l.map fun n => UInt8.ofNat n.toNat, ?_, by rw [List.length_map]; exact hlm⟩
  have e : bytesV (l.map fun n => UInt8.ofNat n.toNat) = l.map (Value.int .u8) := by
    simp only [bytesV, List.map_map]
    apply List.map_congr_left
    intro n hn
    have := bounds_u8 (hw n hn)
    simp only [Function.comp, UInt8.toNat_ofNat']
    congr 1
    omega
  rw [e]
  exact hr
end
theorem ownKn : ownKnob Try.prog.godebug = none := by kernel_rfl
theorem laidTry : laidOutB Try.prog = true := by kernel_rfl
end Go.Proofs.Ytnailnlpjakcbaa
