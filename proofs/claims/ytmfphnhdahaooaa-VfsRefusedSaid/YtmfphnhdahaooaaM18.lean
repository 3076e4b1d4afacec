/- The texts Gt, Gu, one behind the other. -/
import Derived.Test.YtmfphnhdahaooaaM12
import Derived.Test.YtmfphnhdahaooaaM17
set_option linter.unusedSimpArgs false
set_option linter.unusedVariables false
/- Names of any store: its names, each once, rising. -/
namespace Go.Proofs.Ytmfphnhdahaooaa
open Go.RowKit Go.Maps Go.Sort Go.Shelf

set_option maxRecDepth 100000 in
theorem str_entries {w : World} {b n : Nat} {R : Value → Option (DataW Unit × List MemPlace)} {D : DataW Unit} (h : w.ownsMap Try.prog 9 R b n D) : (strKeys D).Nodup ∧ ∀ l, l ∈ strKeys D ↔ Maps.has D (.string l) = true := by
  have hent := h.entries K9
  obtain ⟨es0, clock, hb, F, hs, hD⟩ := h
  obtain ⟨es, rfl, hpw, hk⟩ := hent
  have hstr : ∀ p ∈ es, ∃ l, p.1 = .string l := by
    intro p hp
    rw [DataW.map.inj hD] at hp
    obtain ⟨v, hv⟩ := Maps.fit_keys F p (mem_sorted.1 hp)
    cases v <;> simp [keyOf, Try.underlying9, mapKey] at hv
    exact ⟨_, hv.2.symm⟩
  have hof : ∀ p ∈ es, p.1 = .string (strOf p.1) := by
    intro p hp
    obtain ⟨l, hl⟩ := hstr p hp
    rw [hl]
    rfl
  refine ⟨?_, fun l => ?_⟩
  · show (es.map fun p => strOf p.1).Nodup
    unfold List.Nodup
    rw [List.pairwise_map]
    refine hpw.imp_of_mem fun {p q} hp hq hne e => hne ?_
    rw [hof p hp, hof q hq, e]
  · show l ∈ es.map (fun p => strOf p.1) ↔ es.any (fun p => p.1.sameKey (.string l)) = true
    rw [List.mem_map, List.any_eq_true]
    constructor
    · rintro ⟨p, hp, rfl⟩
      refine ⟨p, hp, ?_⟩
      obtain ⟨l, hl⟩ := hstr p hp
      rw [hl]
      simp [Lit.sameKey, strOf]
    · rintro ⟨p, hp, h⟩
      obtain ⟨l2, hl⟩ := hstr p hp
      rw [hl] at h
      simp [Lit.sameKey] at h
      exact ⟨p, hp, by rw [hl]; simp [strOf, h]⟩

/-- What Names answers. -/
structure NamesP (g : ByteArray → Option Nat) (v : Value) (l : List (List UInt8)) (w w' : World) : Prop where
  own : w'.ownsRow w.heap.size 9 1 v l.length (l.map encStr)
  mem : ∀ b, b ∈ l ↔ ∃ s X, s.data.toList = b ∧ g s = some X
  nodup : l.Nodup
  asc : l.Pairwise fun a b => leB a b = true
  below : Below w.heap.size w w'

theorem leB_trans : ∀ a b c : List UInt8, leB a b = true → leB b c = true → leB a c = true := fun a b c h1 h2 => by
  simp only [decide_eq_true_eq] at h1 h2 ⊢
  exact List.le_trans h1 h2
theorem leB_total : ∀ a b : List UInt8, (leB a b || leB b a) = true := fun a b => by
  simp only [Bool.or_eq_true, decide_eq_true_eq]
  exact List.le_total a b

/-- Two lists of the same names are one. -/
theorem names_one {g : ByteArray → Option Nat} {v1 v2 : Value} {l1 l2 : List (List UInt8)} {a b c d : World} (h1 : NamesP g v1 l1 a b) (h2 : NamesP g v2 l2 c d) : l1 = l2 := by
  have hp : l1.Perm l2 := (List.perm_ext_iff_of_nodup h1.nodup h2.nodup).2 fun x => (h1.mem x).trans (h2.mem x).symm
  refine List.Perm.eq_of_pairwise (le := fun a b => leB a b = true) (fun x y _ _ h3 h4 => ?_) h1.asc h2.asc hp
  simp only [decide_eq_true_eq] at h3 h4
  exact List.le_antisymm h3 h4

set_option maxRecDepth 100000 in
set_option maxHeartbeats 1000000 in
theorem sorted_any {N n : Nat} {g : ByteArray → Option Nat} (w : World) (h : NameMap w N n g) (hn : n ≤ 100000) :
    Calls Try.prog 55 #[.func (.func 73) #[] #[.pointer (some ⟨w.heap.size, 0, none⟩)]] (w.alloc (.cells #[.map (some N)] 79)) fun e w' => ∃ v l, e = .returned v ∧ NamesP g v l (w.alloc (.cells #[.map (some N)] 79)) w' := by
  obtain ⟨D, hown, hat⟩ := h
  have hbl := hown.lt
  have hse := str_entries hown
  have hsz := hown.size_le
  have hseq : SeqGives Fence.wide 2 Try.prog 73 #[.pointer (some ⟨w.heap.size, 0, none⟩)] encStr (fun ss => ss.Perm (strKeys (H := Unit) D)) (Maps.size D) (w.alloc (.cells #[.map (some N)] 79)) :=
    AnyZ.keys_gives (ρ := Try.keys56_ren) { Try.keys56 with } Fence.wide _ trivial rfl (by omega) w.heap.size N n D _ (by simp) (by simp) (by
      obtain ⟨es, clock, hb, Ft, hs, hD⟩ := hown
      exact ⟨es, clock, (Below.heap_alloc _ _ N hbl).trans hb, Ft, hs, hD⟩)
  have h := callsIn_wide.1 (AnyZ.sorted_in Try.sorted55 Fence.wide 5 trivial trivial trivial trivial rfl (by omega) (sorts55 _) (enters_of Try.func72 (by kernel_rfl) rfl) 73 #[.pointer (some ⟨w.heap.size, 0, none⟩)] trivial (enters_of Try.func73 (by kernel_rfl) rfl) _ (Maps.size D) (by unfold maxLen; omega) (by omega) _ hseq)
  refine h.mono fun e w' h2 => ?_
  obtain ⟨v, ss, rfl, hp, hr, hnil, hbw⟩ := h2
  have hms : (ss.mergeSort leB).Perm ss := List.mergeSort_perm ss leB
  refine ⟨v, ss.mergeSort leB, rfl, ?_, fun b => ?_, ?_, List.pairwise_mergeSort leB_trans leB_total ss, hbw⟩
  · rw [hms.length_eq]
    exact hr
  · rw [hms.mem_iff, hp.mem_iff, hse.2]
    constructor
    · intro hb
      refine ⟨⟨b.toArray⟩, ?_⟩
      have h3 := hat ⟨b.toArray⟩
      cases hg : g ⟨b.toArray⟩ with
      | none =>
        rw [hg] at h3
        have h4 : Maps.has D (.string b) = false := h3
        rw [h4] at hb
        cases hb
      | some X => exact ⟨X, rfl, rfl⟩
    · rintro ⟨s, X, rfl, hg⟩
      have h3 := hat s
      rw [hg] at h3
      exact h3.1
  · exact (hms.nodup_iff).2 ((hp.nodup_iff).2 hse.1)

set_option maxRecDepth 100000 in
theorem names_any {w : World} {B F N L n m : Nat} {A : Fs} {tv : Value} (h : Raw w B F A N L n m tv) (hn : n ≤ 100000) :
    Calls Try.prog 22 #[.pointer (some ⟨F, 0, none⟩)] w fun e w' => ∃ v l, e = .returned v ∧ NamesP A.dir v l w w' := by
  have c2 := h.cells.c2
  have H := Lib.hid h
  clear h
  go_enter Try.func22, Try.ntmps22
  go_wp2_with (first
    | ((go_at_call 46; with_reducible refine (H.out.made).mono ?_); rintro e w' ⟨rfl, rfl⟩)
    | (go_at_call 56; refine (keys_ok _ _).mono ?_; rintro e w' ⟨rfl, rfl⟩)
    | (go_at_call 55; refine (sorted_any w H.out.names hn).mono ?_; rintro e w' ⟨v, l, rfl, hv⟩; have HV := Lib.hid hv; clear hv)
    | go_in)
  go_ret
  exact ⟨v, l, rfl, own_base HV.out.own (by simp), HV.out.mem, HV.out.nodup, HV.out.asc, (below1 w _).trans (HV.out.below.mono (by simp))⟩
end Go.Proofs.Ytmfphnhdahaooaa
/- New, of any capacity. -/
namespace Go.Proofs.Ytmfphnhdahaooaa
open Go.RowKit Go.Maps

def newA (cap : Nat) : Fs := ⟨cap, 0, -1, -1, false, fun _ => none, fun _ => none, [], fun _ => none⟩

theorem new_raw {c : Nat} {w w1 : World} (h : New4 c w w1) (h1 : 1 ≤ c) (h2 : c ≤ 4096) : Raw w1 w.heap.size (w.heap.size + 2) (newA c) w.heap.size (w.heap.size + 1) 0 0 (.slice none 0 0) := by
  have e1 : NameMap w1 w.heap.size 0 fun _ => none := ⟨.map [], ⟨#[], 0, h.names, ⟨by decide, ⟨by simp, by simp⟩, by simp⟩, Nat.le_refl _, rfl⟩, fun _ => rfl⟩
  have e2 : NameMap w1 (w.heap.size + 1) 0 fun _ => none := ⟨.map [], ⟨#[], 0, h.lasting, ⟨by decide, ⟨by simp, by simp⟩, by simp⟩, Nat.le_refl _, rfl⟩, fun _ => rfl⟩
  exact ⟨h.store, e1, e2, by omega, World.ownsRow_nil _ _ _ _, ⟨by omega, by omega, by omega⟩, (fun X f hX => by cases hX), (fun X Y f g hX => by cases hX), (fun s X hs => by cases hs), (fun s X hs => by cases hs), (fun t ht => by cases ht), ⟨by show 0 < c; omega, h2⟩, ⟨show (-1 : Int) ≤ 9223372036854775807 by omega, show (-1 : Int) ≤ 9223372036854775807 by omega⟩⟩

theorem new_bad (n : Int) (w : World) (h : n < 1 ∨ 4096 < n) : Calls Try.prog 9 #[.int .i64 n] w fun e w' => e = .returned (.tuple #[.pointer none, .int .i64 2]) ∧ w = w' := by
  rcases h with h | h
  · go_enter Try.func9, Try.ntmps9
    go_wp2
    go_ret2
    exact ⟨rfl, rfl⟩
  · have h2 : ¬ n < 1 := by omega
    go_enter Try.func9, Try.ntmps9
    go_wp2
    go_ret2
    exact ⟨rfl, rfl⟩
end Go.Proofs.Ytmfphnhdahaooaa
