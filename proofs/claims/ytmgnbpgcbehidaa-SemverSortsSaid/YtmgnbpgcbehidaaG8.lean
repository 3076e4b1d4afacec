/- slices.SortedFunc of a set of versions. -/
import Derived.Test.YtmgnbpgcbehidaaG7
import Derived.Shelf.SlSortCmp.NoneTotal
namespace Go.Proofs.Ytmgnbpgcbehidaa
open Go.RowKit Go.Sort Go.Shelf Go.Maps
theorem sort_none (p : Option Addr) (cap : Nat) (w : World) : Calls Try.prog 37 #[.slice p 0 cap, .func (.func 7) #[] #[]] w fun e w' => e = .returned (.tuple #[]) ∧ w = w' := by
  have h := AnyF.slices_SortFunc_none (P := Try.prog) (ρ := Try.sortV_ren) { Try.sortV with } p cap (.func (.func 7) #[] #[]) w
  have h' : Calls Try.prog 37 #[.slice p 0 cap, .func (.func 7) #[] #[]] w _ := h
  exact h'.mono fun e w' ⟨he, hw⟩ => ⟨he, hw.symm⟩
theorem flatW_eq (ss : List VW) : flatW ss = flatV (ss.map (·.1)) := rfl
set_option maxHeartbeats 1000000 in
theorem sortedFunc_any {M n : Nat} {g : Sv.V → Bool} (w : World) (h : VSet w M n g) (hn : n ≤ 1000) :
    Calls Try.prog 30 #[.func (.func 38) #[] #[.pointer (some ⟨w.heap.size, 0, none⟩)], .func (.func 7) #[] #[]] (w.alloc (.cells #[.map (some M)] 55)) (SortedR g (w.heap.size + 1) (w.alloc (.cells #[.map (some M)] 55))) := by
  obtain ⟨D, hown, hat⟩ := h
  have hsz : Maps.size D ≤ 1000 := Nat.le_trans hown.size_le hn
  have HC := Lib.hid (collect_any w hown hsz)
  have HA := Lib.hid hat
  have HZ := Lib.hid hsz
  clear hown hat hsz
  go_enter Try.func30, Try.ntmps30
  go_wp2_with (go_at_call 36; refine HC.out.mono ?_; rintro e W ⟨v, ss, rfl, ⟨hC, hlen⟩, hrow, hnil, hb⟩)
  have hmem : ∀ x, OkV x → (x ∈ ss.map (·.1) ↔ g x = true) := fun x hx => by
    have h1 := hC.2 ⟨x, hx⟩
    rw [HA.out x hx] at h1
    rw [List.mem_map]
    constructor
    · rintro ⟨y, hy, rfl⟩
      exact (h1.1 hy).1
    · intro hg
      exact ⟨⟨x, hx⟩, h1.2 ⟨hg, rfl⟩, rfl⟩
  have hnd : (ss.map (·.1)).Nodup := by
    unfold List.Nodup
    rw [List.pairwise_map]
    exact hC.1.imp fun hne e => hne (Subtype.ext e)
  have hok : ∀ x ∈ ss.map (·.1), OkV x := fun x hx => by
    obtain ⟨y, _, rfl⟩ := List.mem_map.1 hx
    exact y.2
  have HM := Lib.hid hmem
  have HD := Lib.hid hnd
  have HO := Lib.hid hok
  have hsz := HZ.out
  rcases hrow.2 with ⟨rfl, hz⟩ | ⟨gb, cap, cur, rfl, hbase, hgb, r1, r2, r3, r4⟩
  · have hss : ss = [] := List.eq_nil_of_length_eq_zero hz
    subst hss
    clear hmem hnd hok hC
    go_wp2_with (go_at_call 37; refine (sort_none none 0 W).mono ?_; rintro e w' ⟨rfl, rfl⟩)
    go_ret
    exact ⟨_, [], rfl, hrow, List.nodup_nil, List.Pairwise.nil, HO.out, HM.out, hb⟩
  · have hl : (ss.map (·.1)).length = ss.length := by simp
    have cS := sort_row gb cap (w.heap.size + 1) cur (ss.map (·.1)) W hbase hgb (by rw [hl]; exact r1) r2 r3 (by rw [hl]; exact r4) (by rw [hl]; omega)
    rw [hl] at cS
    have HS := Lib.hid cS
    have HB := Lib.hid hb
    clear cS hmem hnd hok hC hb hrow hnil hgb r4
    go_wp2_with (go_at_call 37; refine HS.out.mono ?_; rintro e w' ⟨rfl, l', hp, ha, ho, hg⟩)
    go_ret
    have hl2 : l'.length = ss.length := by rw [hp.length_eq, hl]
    exact ⟨_, l', rfl, by rw [hl2]; rw [hl] at ho; exact ho, hp.nodup_iff.2 HD.out, ha, fun x hx => HO.out x (hp.mem_iff.1 hx), fun x hx => (hp.mem_iff).trans (HM.out x hx), HB.out.grown hg (by have := HB.out.size; rwa [World.size_alloc] at this) (fun k e => by cases e; exact hbase)⟩
end Go.Proofs.Ytmgnbpgcbehidaa
