/- Compare grows the world alone; rows of versions, flat. -/
import Derived.Test.YtmgnbpgcbehidaaA3
import Derived.Test.YtmgnbpgcbehidaaM2
import Derived.Shelf.GgSortFunc.RowK
import Derived.Sort.Grow
import Derived.Test.YtmgnbpgcbehidaaG4
namespace Go.Proofs.Ytmgnbpgcbehidaa
open Go.RowKit Go.Sort
def Grew (w w' : World) : Prop := ∃ q os, w' = grow (w.drewN q) os
set_option maxHeartbeats 1000000 in
theorem cmp_grow (x y : Sv.V) (w : World) : Calls Try.prog 7 #[vv x, vv y] w fun e w' => e = .returned (.int .i64 (Sv.cmp x y)) ∧ Grew w w' := by
  have HC := Lib.hid (Sv.cmp_or x y)
  have k1 := hb_alloc (hb_new w (.cells #[.int .i64 x.a, .int .i64 x.b, .int .i64 x.c] 23)) (.cells #[.int .i64 y.a, .int .i64 y.b, .int .i64 y.c] 23)
  have k2 := hb_new (w.alloc (.cells #[.int .i64 x.a, .int .i64 x.b, .int .i64 x.c] 23)) (.cells #[.int .i64 y.a, .int .i64 y.b, .int .i64 y.c] 23)
  rw [World.size_alloc] at k2
  have K1 := Lib.hid k1
  have K2 := Lib.hid k2
  clear k1 k2
  go_enter Try.func7, Try.ntmps7
  go_wp2
  generalize hW : (w.alloc (.cells #[.int .i64 x.a, .int .i64 x.b, .int .i64 x.c] 23)).alloc (.cells #[.int .i64 y.a, .int .i64 y.b, .int .i64 y.c] 23) = W at *
  have k1 := K1.out
  have k2 := K2.out
  have a0 := hb_at k1 0 rfl
  have a1 := hb_at k1 1 rfl
  have a2 := hb_at k1 2 rfl
  have b0 := hb_at k2 0 rfl
  have b1 := hb_at k2 1 rfl
  have b2 := hb_at k2 2 rfl
  clear k1 k2
  have HW := Lib.hid hW
  clear hW
  go_region_held3 (fun w' => w'.cell? ⟨w.heap.size, 0, none⟩ = some (.int .i64 x.a) ∧ w'.cell? ⟨w.heap.size, 1, none⟩ = some (.int .i64 x.b) ∧ w'.cell? ⟨w.heap.size, 2, none⟩ = some (.int .i64 x.c) ∧ w'.cell? ⟨w.heap.size + 1, 0, none⟩ = some (.int .i64 y.a) ∧ w'.cell? ⟨w.heap.size + 1, 1, none⟩ = some (.int .i64 y.b) ∧ w'.cell? ⟨w.heap.size + 1, 2, none⟩ = some (.int .i64 y.c)) (first | exact ⟨a0, a1, a2, b0, b1, b2⟩ | go_keep) (first
    | (go_at_call 24; ((with_reducible refine (cmpI_any _ _ _).mono ?_); rintro e w1 ⟨rfl, rfl⟩))
    | (go_at_call 23; ((with_reducible refine (or_any (Sv.cmpI x.a y.a) (Sv.cmpI x.b y.b) (Sv.cmpI x.c y.c) _ _ (hb_new_drew W _)).mono ?_); rintro e w1 ⟨rfl, rfl⟩)))
  go_wp2
  go_ret
  refine ⟨ret_int HC.out, 1, #[.cells #[.int .i64 x.a, .int .i64 x.b, .int .i64 x.c] 23, .cells #[.int .i64 y.a, .int .i64 y.b, .int .i64 y.c] 23, .cells #[.int .i64 (Sv.cmpI x.a y.a), .int .i64 (Sv.cmpI x.b y.b), .int .i64 (Sv.cmpI x.c y.c)] 3], ?_⟩
  rw [← HW.out, alloc_eq_grow, alloc_eq_grow, alloc_eq_grow, grow_grow, grow_grow]
  rfl

def encL (x : Sv.V) : List Value := [.int .i64 x.a, .int .i64 x.b, .int .i64 x.c]
instance : Inhabited Sv.V := ⟨⟨0, 0, 0⟩⟩
theorem flatV_cons (x : Sv.V) (l : List Sv.V) : flatV (x :: l) = .int .i64 x.a :: .int .i64 x.b :: .int .i64 x.c :: flatV l := by simp [flatV]
theorem flatV_length (l : List Sv.V) : (flatV l).length = l.length * 3 := by
  induction l with
  | nil => rfl
  | cons x l ih => rw [flatV_cons]; simp [ih]; omega
theorem flatV_get (l : List Sv.V) (i j : Nat) (hi : i < l.length) (hj : j < 3) : (flatV l)[i * 3 + j]? = (encL l[i])[j]? := by
  induction l generalizing i with
  | nil => simp at hi
  | cons x l ih =>
    rw [flatV_cons]
    cases i with
    | zero =>
      have h3 : j = 0 ∨ j = 1 ∨ j = 2 := by omega
      rcases h3 with rfl | rfl | rfl <;> rfl
    | succ i =>
      have e : (i + 1) * 3 + j = (i * 3 + j) + 1 + 1 + 1 := by omega
      rw [e, List.getElem?_cons_succ, List.getElem?_cons_succ, List.getElem?_cons_succ, ih i (by simpa using hi)]
      rfl
theorem flatK_toList (l : List Sv.V) : (flatK encL 3 l.toArray).toList = flatV l := by
  apply List.ext_getElem?
  intro t
  by_cases ht : t < l.length * 3
  · have hq : t / 3 < l.length := by omega
    have h1 := flatV_get l (t / 3) (t % 3) hq (by omega)
    rw [show t / 3 * 3 + t % 3 = t by omega] at h1
    rw [h1]
    have hm : t % 3 < (encL l[t / 3]).length := by simp [encL]; omega
    have h2 : t < (flatK encL 3 l.toArray).size := by simpa using ht
    rw [Array.getElem?_toList, Array.getElem?_eq_getElem h2]
    have h3 := get_flatK encL 3 l.toArray t (by simpa using ht)
    rw [getElem!_pos _ t h2] at h3
    rw [h3, getElem!_pos l.toArray (t / 3) (by simpa using hq), List.getElem_toArray, getElem!_pos (encL l[t / 3]) (t % 3) hm, List.getElem?_eq_getElem hm]
  · rw [List.getElem?_eq_none (by simp; omega), List.getElem?_eq_none (by rw [flatV_length]; omega)]

theorem holds_flat {w : World} {g : Nat} {cur : Array Value} {e : TypeId} {F : Array Value} (hb : w.heap[g]? = some (.cells cur e (0, 0))) (ht : cur.toList.take F.size = F.toList) : Holds id w g 0 F := by
  intro j hj
  refine ⟨?_, by simp [World.frozen?, hb]⟩
  have h1 : (cur.toList.take F.size)[j]? = F.toList[j]? := by rw [ht]
  rw [List.getElem?_take_of_lt hj] at h1
  simp only [World.cell?, hb, Nat.zero_add]
  simp only [Option.isSome_none, Bool.false_eq_true, if_false]
  rw [← Array.getElem?_toList, h1]
  simp [hj]
theorem heap_sortedF {w : World} {g n : Nat} {os : Array Obj} {cur : Array Value} {e : TypeId} {fr : Nat × Nat} (F : Array Value) (hb : w.heap[g]? = some (.cells cur e fr)) :
    (grow (putRow id (Sort.ahead w n) g 0 F) os).heap[g]? = some (.cells (putCells id 0 F cur) e fr) := by
  have hg : g < w.heap.size := (Array.getElem?_eq_some_iff.1 hb).1
  rw [heap_grow_old _ _ (by simpa using hg)]
  simp [putRow, mapBlock, Sort.ahead, Array.getElem?_modify, hb, onCells]
theorem grownBy_sortedF {w : World} {g n : Nat} {os : Array Obj} (F : Array Value) : w.grownBy (grow (putRow id (Sort.ahead w n) g 0 F) os) (some g) := by
  refine ⟨rfl, rfl, rfl, by simp, fun k hk hne => ?_⟩
  rw [heap_grow_old _ _ (by simpa using hk)]
  have : g ≠ k := fun e => hne (by rw [e])
  simp [putRow, mapBlock, Sort.ahead, Array.getElem?_modify, this]
theorem take_putCellsF (cur F : Array Value) (h : F.size ≤ cur.size) : (putCells id 0 F cur).toList.take F.size = F.toList := by
  apply List.ext_getElem?
  intro j
  by_cases hj : j < F.size
  · rw [List.getElem?_take_of_lt hj, Array.getElem?_toList]
    simp [putCells, hj, show j < cur.size by omega]
  · rw [List.getElem?_take_eq_none (by omega), List.getElem?_eq_none (by simp; omega)]
end Go.Proofs.Ytmgnbpgcbehidaa
