/- Arguments that are slices: of terms, of texts. -/
import Derived.Test.YthcpmdgdbceeiaaGreatDoorT1
import Derived.Test.YthcpmdgdbceeiaaGreatDoorVo
import Derived.ProofKit
import Derived.OpenShut
import Derived.ShutString
import Derived.ChangeOld
import Derived.ChangeSlices
import Derived.SliceStrings
namespace Go.Proofs.YthcpmdgdbceeiaaGreatDoor
open Go.ChangeShapes Go.WideShapes Go.ChangeAt Go.RowKit
set_option linter.unusedSimpArgs false
section
set_option maxRecDepth 100000
variable {H : Type} {enc : TypeId × Value → H} {W : World} {base : Nat} {v : Value} {d : DataW H} {p : List MemPlace}
theorem arg_kids (hval : Value.okWide Tryz.prog W .any base 22 v) (h : DataW.Trod enc Tryz.prog W 0 (fun _ => true) true 22 v d p) : ∃ (m : Nat) (l : List Tm), KidsT W m v l := by
  obtain ⟨a0, len0, cap0, rfl⟩ := okWide_slice Tryz.underlying22 hval
  obtain ⟨fuel, hf⟩ := h
  rcases DataW.trod_slice Tryz.underlying22 hf with ⟨hcs, _⟩ | ⟨a, len, cap, elems, rest, n', hm', hcs, _, _, hl2, hm, hlen, hel, _, _⟩
  · simp [Value.cells] at hcs
    obtain ⟨rfl, rfl, rfl⟩ := hcs
    exact ⟨0, [], none, 0, rfl, Nat.zero_le _, fun i y hy => by simp at hy⟩
  · simp [Value.cells] at hcs
    obtain ⟨rfl, rfl, rfl⟩ := hcs
    by_cases hz : len0 = 0
    · subst hz
      exact ⟨0, [], some a, cap0, rfl, Nat.zero_le _, fun i y hy => by simp at hy⟩
    have hi : ∀ i, i < len0 → ∃ cs' y, W.cells? 0 (a.add (i * 5)) 5 = some cs' ∧ DataW.trod enc Tryz.prog W 0 (fun _ => true) true n' 24 cs' = some y := fun i hi => by
      have he := hel i hi
      rw [cells24, List.getElem?_eq_getElem (by omega)] at he
      obtain ⟨cs', h1, h2⟩ := Option.bind_eq_some_iff.1 he
      exact ⟨cs', _, h1, h2⟩
    obtain ⟨b1, o1, rfl⟩ : ∃ b1 o1, a = ⟨b1, o1, none⟩ := by
      obtain ⟨cs, _, hc, _⟩ := hi 0 (by omega)
      obtain ⟨_, hcl, hat⟩ := World.cells?_some hc
      have h0 := hat 0 (by omega)
      rw [List.getElem?_eq_getElem (by omega)] at h0
      have h1 := World.cell?_spot h0
      obtain ⟨b1, o1, sp⟩ := a
      have h2 : sp = none := by simpa [Addr.add] using h1
      exact ⟨b1, o1, by rw [h2]⟩
    obtain ⟨l, hll, hpl⟩ := pick_list (P := fun i (t : Tm) => ∃ k' p' n2 N' s', TAt W b1 (o1 + i * 5) k' p' n2 N' s' ∧ IsT W n' (tv k' p' n2 N' s') t) len0 (fun i hi2 => by
      obtain ⟨cs, y, hc, ht⟩ := hi i hi2
      obtain ⟨_, hcl, hat⟩ := World.cells?_some hc
      obtain ⟨k', p', n2, N', s', t, rfl, ht2⟩ := trod_term n' cs _ ht
      have a0 := hat 0 (by omega)
      have a1 := hat 1 (by omega)
      have a2 := hat 2 (by omega)
      have a3 := hat 3 (by omega)
      have a4 := hat 4 (by omega)
      simp only [Addr.add_lit, Nat.add_zero] at a0 a1 a2 a3 a4
      exact ⟨t, k', p', n2, N', s', ⟨a0, a1, a2, a3, a4⟩, ht2⟩)
    refine ⟨n', l, some ⟨b1, o1, none⟩, cap0, by rw [hll], by omega, fun i y hy => ?_⟩
    obtain ⟨k', p', n2, N', s', h1, h2⟩ := hpl i y hy
    exact ⟨b1, o1, k', p', n2, N', s', rfl, h1, h2⟩
theorem arg_texts (hval : Value.okWide Tryz.prog W .any base 29 v) (h : DataW.Trod enc Tryz.prog W 0 (fun _ => true) true 29 v d p) : ∃ l : List ByteArray, SRowO W v l ∧ ∀ s ∈ l, s.size ≤ maxLen := by
  obtain ⟨a, len, cap, rfl⟩ := okWide_slice Tryz.underlying29 hval
  obtain ⟨fuel, hf⟩ := h
  rcases open_strings Tryz.underlying29 Tryz.underlying9 (by kernel_rfl) hf with ⟨hcs, _⟩ | ⟨x, l, c, ss, hcs, _, hl, hm, hz, _, hcell, hwz⟩
  · simp [Value.cells] at hcs
    obtain ⟨rfl, rfl, rfl⟩ := hcs
    exact ⟨[], SRowO.nil _, by simp⟩
  · simp [Value.cells] at hcs
    obtain ⟨rfl, rfl, rfl⟩ := hcs
    have hz' : ss.length = cap := by simpa using hz
    refine ⟨ss.take len, ⟨some x, cap, by rw [List.length_take, Nat.min_eq_left (by omega)], fun i s hs => ?_⟩, fun s hs => hwz s (List.mem_of_mem_take hs)⟩
    rw [List.getElem?_take] at hs
    split at hs
    · have hi : i < ss.length := (List.getElem?_eq_some_iff.1 hs).1
      have hg := hcell i hi
      have hc : W.cell? (x.add i) = some (.string s) := by
        rw [hg]
        simp [List.getD, hs]
      have hg0 := hcell 0 (by omega)
      have hsp : (x.add 0).spot = none := by
        have h0 : 0 < ss.length := by omega
        refine World.cell?_spot (w := W) (v := .string ss[0]) ?_
        rw [hg0]
        simp [List.getD, h0]
      obtain ⟨b1, o1, sp⟩ := x
      have h2 : sp = none := by simpa [Addr.add] using hsp
      subst h2
      refine ⟨b1, o1, rfl, ?_⟩
      have e2 : (⟨b1, o1, none⟩ : Addr).add i = ⟨b1, o1 + i, none⟩ := by
        unfold Addr.add
        by_cases h0 : i = 0 <;> simp [h0]
      rw [← e2]; exact hc
    · cases hs
end
end Go.Proofs.YthcpmdgdbceeiaaGreatDoor
