/- Texts in a row: U1 Ud Rj. -/
import Derived.Test.YtncebhddcokkoaaDoorZM5
import Derived.Outline
import Derived.Test.YtncebhddcokkoaaDoorZM14
import Derived.Maps.AppendAt
import Derived.Test.YtncebhddcokkoaaDoorZM11
/- Is a text one of some: both functions. -/
namespace Go.Proofs.YtncebhddcokkoaaDoor
open Go.RowKit
theorem inN_yes {s : ByteArray} {l : List ByteArray} {k : Nat} (h : l[k]? = some s) : inN s l = true := by
  unfold inN
  exact List.any_eq_true.2 ⟨s, List.mem_of_getElem? h, by simp⟩
theorem inN_no {s : ByteArray} {l : List ByteArray} (h : ∀ t ∈ l, t ≠ s) : inN s l = false := by
  unfold inN
  exact List.any_eq_false.2 fun t ht => by simpa using h t ht
set_option maxRecDepth 100000 in
set_option maxHeartbeats 1000000 in
theorem in51_any (s : ByteArray) (v : Value) (l : List ByteArray) (w : World) (h : SRow w v l) (hl : l.length ≤ 1000000) : Calls Tryd.prog 64 #[.string s, v] w fun e w' => e = .returned (.bool (inN s l)) ∧ w = w' := by
  obtain ⟨q1, c1, rfl, h1⟩ := h
  have H1 := Lib.hid h1
  clear h1
  go_enter Tryd.func64, Tryd.ntmps64
  go_wp2
  go_loop [5] (fun i => ∃ k : Nat, k ≤ l.length ∧ i = .int .i64 k ∧ (∀ t ∈ l.take k, t ≠ s)) (fun i => l.length - (intOf i).toNat)
  case atStart => exact ⟨0, Nat.zero_le _, rfl, by simp⟩
  case round =>
    obtain ⟨k, hk, rfl, hn⟩ := hrel
    have HN := Lib.hid hn
    clear hn
    by_cases hlt : k < l.length
    · have HK : RowKit.Hid (l[k]? = some l[k]) := Lib.hid (List.getElem?_eq_getElem hlt)
      have HT : RowKit.Hid (l.take (k + 1) = l.take k ++ [l[k]]) := Lib.hid (List.take_succ_eq_append_getElem hlt)
      obtain ⟨g1, e1, ha1⟩ := H1.out k l[k] HK.out
      subst e1
      generalize l[k] = x at *
      have hki : (k : Int) < (l.length : Int) := by omega
      by_cases hx : x = s
      · have he : (x.toList == s.toList) = true := by rw [hx]; simp
        have HX := Lib.hid hx
        clear hx
        go_wp2
        go_ret
        exact ⟨ret_bool (inN_yes (by rw [HK.out, HX.out])).symm, rfl⟩
      · have he : (x.toList == s.toList) = false := by
          rw [beq_eq_false_iff_ne]
          intro h
          rw [ByteArray.toList_eq, ByteArray.toList_eq] at h
          exact hx (name_eq h)
        have HX := Lib.hid hx
        clear hx
        go_wp2
        go_round
        case rel =>
          refine ⟨k + 1, by omega, by go_num, fun t ht => ?_⟩
          rw [HT.out] at ht
          rcases List.mem_append.1 ht with ht | ht
          · exact HN.out t ht
          · rw [List.mem_singleton.1 ht]; exact HX.out
        case measure => simp [intOf]; omega
    · obtain rfl : k = l.length := by omega
      go_wp2
      go_ret
      exact ⟨ret_bool (inN_no (by have := HN.out; rwa [List.take_length] at this)).symm, rfl⟩
theorem in_any (s : ByteArray) (v : Value) (l : List ByteArray) (w : World) (h : SRow w v l) (hl : l.length ≤ 1000000) : Calls Tryd.prog 36 #[.string s, v] w fun e w' => e = .returned (.bool (inN s l)) ∧ w = w' := by
  have H := Lib.hid (in51_any s v l w h hl)
  clear h
  go_enter Tryd.func36, Tryd.ntmps36
  go_wp2_with (go_at_call 64; refine H.out.mono ?_; rintro e w' ⟨rfl, rfl⟩)
  go_ret
  exact ⟨rfl, rfl⟩
end Go.Proofs.YtncebhddcokkoaaDoor
/- An append of a slice of texts to a row of the call's own. -/
namespace Go.Proofs.YtncebhddcokkoaaDoor
open Go.RowKit
theorem grown_refl (w : World) (row : Option Nat) : w.grownBy w row := ⟨rfl, rfl, rfl, Nat.le_refl _, fun _ _ _ => rfl⟩
theorem append_s (w : World) (base : Nat) (v vx : Value) (xs l : List ByteArray) (hown : w.ownsRow base 9 1 v xs.length (xs.map .string)) (hr : SRow w vx l) (hn : xs.length + l.length ≤ 200000) (hbase : base ≤ w.heap.size) :
    ∃ v' w', (Builtin.append_ #[33, 33] 33 #[v, vx]).run Tryd.prog w = .ok v' w' ∧ w'.ownsRow base 9 1 v' (xs ++ l).length ((xs ++ l).map .string) ∧ w.grownBy w' v.ownBlock ∧ (v'.ownBlock = v.ownBlock ∨ v'.ownBlock = some w.heap.size) := by
  obtain ⟨i0, hi, hz0, hz1, hz2⟩ := info_parts info9
  obtain ⟨q, c, rfl, hx⟩ := hr
  rw [List.length_append, List.map_append]
  cases q with
  | none =>
    have hl : l = [] := by
      cases l with
      | nil => rfl
      | cons y l => obtain ⟨b, h, _⟩ := hx 0 y rfl; cases h
    subst hl
    refine ⟨v, w, ?_, by simpa using hown, grown_refl _ _, .inl rfl⟩
    rcases hown.2 with ⟨rfl, _⟩ | ⟨g, cap, cur, rfl, _, _, hnc, _⟩
    · simp [Builtin.append_, run_underlying Tryd.underlying33, sizeOf, typeInfo, hi, Builtin.lenOf, Builtin.firstCells]
    · simp [Builtin.append_, run_underlying Tryd.underlying33, sizeOf, typeInfo, hi, Builtin.lenOf, Builtin.firstCells, hnc, storeCells]
  | some ad =>
    have hcells : ∀ j u, (l.map Value.string)[j]? = some u → w.cell? (ad.add j) = some u := by
      intro j u hu
      rw [List.getElem?_map] at hu
      cases hj : l[j]? with
      | none => rw [hj] at hu; cases hu
      | some s =>
        rw [hj] at hu
        cases hu
        obtain ⟨g2, e, h2⟩ := hx j s hj
        cases e
        rw [add_zero_none]
        exact h2
    obtain ⟨v', w', h1, h2, h3, _, h5⟩ := run_append_own_at (P := Tryd.prog) w base 33 33 9 i0 _ 1 16 Tryd.underlying33 hi hz0 hz1 hz2 rfl (by decide) v xs.length (xs.map .string) hown ad l.length c (l.map .string) (by simp) hcells
      (fun u hu => by
        rw [List.mem_map] at hu
        obtain ⟨y, _, rfl⟩ := hu
        rfl)
      (by unfold maxLen; omega) (by omega) hbase
    exact ⟨v', w', h1, h2, h3, h5⟩
theorem SRow.one {w : World} {g : Nat} {x : ByteArray} (h : w.heap[g]? = some (.cells #[.string x] 9 (0, 0))) : SRow w (.slice (some ⟨g, 0, none⟩) 1 1) [x] := by
  refine ⟨_, 1, rfl, fun i y hy => ⟨g, rfl, ?_⟩⟩
  match i, hy with
  | 0, hy => cases hy; exact hb_at h 0 rfl
  | i + 1, hy => simp at hy
end Go.Proofs.YtncebhddcokkoaaDoor
/- An append to an empty slice of one's own that has no room: what was there stays. -/
namespace Go.Proofs.YtncebhddcokkoaaDoor
open Go.RowKit
/-- A slice of texts of one's own. -/
def Inr.MP.vown (base : Nat) (xs : List ByteArray) : Inr.MP := ⟨fun v w => w.ownsRow base 9 1 v xs.length (xs.map .string), fun v w w' h hb => own_kept h fun g x hg hx => by
  rw [hb.block g (hb_lt hx), hx]⟩
def Inr.MP.vrow (xs : List ByteArray) : Inr.MP := ⟨fun v w => SRow w v xs, fun v w w' h hb => h.below hb⟩
/-- An empty slice that was made. -/
def Inr.MP.vmade0 (base : Nat) : Inr.MP := ⟨fun v w => ∃ g, v = .slice (some ⟨g, 0, none⟩) 0 0 ∧ base ≤ g ∧ w.heap[g]? = some (.cells #[] 9 (0, 0)), fun v w w' ⟨g, h1, h2, h3⟩ hb => ⟨g, h1, h2, hb_below h3 hb (hb_lt h3)⟩⟩
set_option maxRecDepth 100000 in
theorem append0 (W : World) (base g : Nat) (vx : Value) (l : List ByteArray) (hg : W.heap[g]? = some (.cells #[] 9 (0, 0))) (hbg : base ≤ g) (hr : SRow W vx l) (hn : l.length ≤ 200000) :
    ∃ v' W', (Builtin.append_ #[33, 33] 33 #[.slice (some ⟨g, 0, none⟩) 0 0, vx]).run Tryd.prog W = .ok v' W' ∧ W'.ownsRow base 9 1 v' l.length (l.map .string) ∧ Below W.heap.size W W' := by
  have hgl := hb_lt hg
  obtain ⟨i0, hi, hz0, hz1, hz2⟩ := info_parts info9
  have hown : W.ownsRow base 9 1 (.slice (some ⟨g, 0, none⟩) 0 0) ([] : List ByteArray).length (([] : List ByteArray).map .string) :=
    ⟨rfl, .inr ⟨g, 0, #[], rfl, hbg, hg, Nat.le_refl _, Nat.zero_le _, rfl, rfl⟩⟩
  obtain ⟨v', W', h1, h2, h3, h4⟩ := append_s W base _ vx [] l hown hr (by simpa using hn) (by omega)
  by_cases hl : l = []
  · subst hl
    obtain ⟨q, c, rfl, _⟩ := hr
    have hrun : (Builtin.append_ #[33, 33] 33 #[.slice (some ⟨g, 0, none⟩) 0 0, .slice q ([] : List ByteArray).length c]).run Tryd.prog W = .ok (.slice (some ⟨g, 0, none⟩) 0 0) W := by
      simp [Builtin.append_, run_underlying Tryd.underlying33, sizeOf, typeInfo, hi, Builtin.lenOf, Builtin.firstCells, storeCells, loadCells, loadCellsFrom]
      cases q <;> simp [storeCells, loadCells, loadCellsFrom, Builtin.firstCells]
    exact ⟨_, W, hrun, hown, Below.refl _ _⟩
  · obtain ⟨q, c, rfl, hx⟩ := hr
    cases q with
    | none =>
      obtain ⟨y, hy⟩ := List.exists_mem_of_ne_nil l hl
      obtain ⟨j, hj, e⟩ := List.getElem_of_mem hy
      obtain ⟨b, h, _⟩ := hx j y (by rw [List.getElem?_eq_getElem hj, e])
      cases h
    | some ad =>
      have hcells : ∀ j u, (l.map Value.string)[j]? = some u → W.cell? (ad.add j) = some u := by
        intro j u hu
        rw [List.getElem?_map] at hu
        cases hj : l[j]? with
        | none => rw [hj] at hu; cases hu
        | some s =>
          rw [hj] at hu
          cases hu
          obtain ⟨g2, e, h2⟩ := hx j s hj
          cases e
          rw [add_zero_none]
          exact h2
      have hpos : 0 < l.length := List.length_pos_iff.2 hl
      have hrun := run_append_grow (P := Tryd.prog) W 33 33 9 i0 _ Tryd.underlying33 hi hz0 ⟨g, 0, none⟩ 0 0 [] (by simp) (fun j v h => by simp at h) ad l.length c (l.map .string) (by simp [hz1]) hcells (by omega) (by omega) (growslice_fits (by omega) (by rw [hz2]; omega))
      rw [hrun] at h1
      cases h1
      refine ⟨_, _, hrun, by simpa using h2, ((Below.refl _ W).drew).alloc (Nat.le_refl _) _⟩
end Go.Proofs.YtncebhddcokkoaaDoor
