/- slices.SortFunc of a row of versions by Compare; slices.SortedFunc; Sorted. -/
import Derived.Test.YtmgnbpgcbehidaaG65
import Derived.Test.YtmgnbpgcbehidaaG5
import Derived.Test.YtmgnbpgcbehidaaS2
import Derived.Shelf.SlSortCmp.WholeK
namespace Go.Proofs.Ytmgnbpgcbehidaa
open Go.RowKit Go.Sort Go.Shelf
theorem lt_less (x y : Sv.V) : ltOf Sv.cmp x y = Sv.less x y := by
  unfold ltOf
  rw [Bool.eq_iff_iff, decide_eq_true_eq]
  exact Sv.cmp_neg x y
theorem swoV : SWO (ltOf Sv.cmp) where
  irrefl x := by rw [lt_less, Sv.less_no]; omega
  trans x y z h1 h2 := by rw [lt_less, Sv.less_iff] at *; omega
  ntrans x y z h1 h2 := by rw [lt_less, Sv.less_no] at *; omega
theorem isAgg23 : ∀ w, (isAgg 23).run Try.prog w = .ok true w := fun w => by kernel_rfl
theorem sizeOf23 : ∀ w, (Go.sizeOf 23).run Try.prog w = .ok 3 w := fun w => by kernel_rfl
/-- What the sort leaves. -/
def SortP (g cap base : Nat) (l : List Sv.V) (w w' : World) : Prop := ∃ l', l'.Perm l ∧ Asc l' ∧ w'.ownsRow base 23 3 (.slice (some ⟨g, 0, none⟩) l.length cap) l.length (flatV l') ∧ w.grownBy w' (some g)
set_option maxHeartbeats 1000000 in
theorem sort_row (g cap base : Nat) (cur : Array Value) (l : List Sv.V) (w : World) (hbase : base ≤ g) (hb : w.heap[g]? = some (.cells cur 23 (0, 0))) (h1 : l.length ≤ cap) (h2 : cap ≤ maxLen) (h3 : cur.size = cap * 3) (h4 : cur.toList.take (l.length * 3) = flatV l) (hs : l.length ≤ 1000) :
    Calls Try.prog 37 #[.slice (some ⟨g, 0, none⟩) l.length cap, .func (.func 7) #[] #[]] w fun e w' => e = .returned (.tuple #[]) ∧ SortP g cap base l w w' := by
  have eg : ∀ args w, (callFunc 7 args).run Try.prog w = .ok (.enter 7 args) w := enters_of Try.func7 (by kernel_rfl) rfl
  have hH : HoldsK encL 3 w g 0 l.toArray := holds_flat hb (by rw [flatK_toList, size_flatK, List.size_toArray]; exact h4)
  have hcmp : CmpLays Try.prog 7 #[] encL 3 Sv.cmp g 0 l.toArray.size w := fun _ _ _ _ x y => cmp_grow x y _
  have hcon := AnyQ.slices_SortFunc Try.sortV 3 isAgg23 sizeOf23 encL (fun _ => rfl) (fun x v hv => by simp [encL] at hv; rcases hv with rfl | rfl | rfl <;> rfl) Sv.cmp swoV 7 #[] g 0 cap l.toArray w eg hcmp hH (Array.getElem?_eq_some_iff.1 hb).1 (by rw [List.size_toArray]; omega)
  have hcon' : Calls Try.prog 37 #[.slice (some ⟨g, 0, none⟩) l.length cap, .func (.func 7) #[] #[]] w fun e w' => e = .returned (.tuple #[]) ∧ ∃ d' n os, PermIn 0 l.toArray.size l.toArray d' ∧ SortedIn (ltOf Sv.cmp) 0 l.toArray.size d' ∧ w' = sortWorldK encL 3 w g 0 n d' os := hcon
  refine hcon'.mono fun e w' ⟨he, d', n, os, hp, hso, hw⟩ => ⟨he, d'.toList, ?_, ?_, ?_, ?_⟩
  · obtain ⟨hz, _, hperm⟩ := hp
    have e1 : d'.extract 0 l.toArray.size = d' := by rw [← hz]; exact Array.extract_size
    have e2 : l.toArray.extract 0 l.toArray.size = l.toArray := Array.extract_size
    rw [e1, e2] at hperm
    exact hperm
  · unfold Asc
    rw [List.pairwise_iff_getElem]
    intro i j hi hj hij
    have hz := hp.1
    have h := hso i j (Nat.zero_le _) hij (by rw [← hz]; simpa using hj)
    rw [lt_less, getElem!_pos d' j (by simpa using hj), getElem!_pos d' i (by simpa using hi)] at h
    simpa using h
  · have hz : d'.size = l.length := by have := hp.1; simpa using this
    subst hw
    have hl : d'.toList.length = l.length := by simpa using hz
    have hF : (flatK encL 3 d').size = l.length * 3 := by rw [size_flatK, hz]
    have hfl : (flatK encL 3 d').toList = flatV d'.toList := by rw [← flatK_toList]
    refine ⟨by rw [flatV_length, hl], .inr ⟨g, cap, _, rfl, hbase, heap_sortedF _ hb, h1, h2, by simp [putCells, h3], ?_⟩⟩
    rw [← hF, take_putCellsF _ _ (by rw [hF, h3]; omega), hfl]
  · subst hw
    exact grownBy_sortedF _
end Go.Proofs.Ytmgnbpgcbehidaa
