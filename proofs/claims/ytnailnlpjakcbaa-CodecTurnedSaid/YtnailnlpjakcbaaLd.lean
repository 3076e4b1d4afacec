/- For every input CodecTurned returns true and leaves its arguments as they were: bytes of which one to four that stand together are others have another sum. No condition. -/
import Derived.Test.YtnailnlpjakcbaaC6
import Derived.Test.YtnailnlpjakcbaaC7
import Derived.Laws.IdiomStrings
namespace Go.Proofs.Ytnailnlpjakcbaa
open Go.ChangeShapes Go.WideShapes Go.ChangeAt Go.RowKit
open Go.ChangeMaps (open_string shut_string)
set_option linter.unusedVariables false

/-- The bytes behind k changes from place A on. -/
def tb (l ys : List UInt8) (A k : Nat) : List UInt8 := (List.range l.length).map fun i => if A ≤ i ∧ i < A + k then l.getD i 0 ^^^ ys.getD (i - A) 0 else l.getD i 0
def tu (l ys : List UInt8) (A k : Nat) : Bool := (List.range k).any fun j => decide (A + j < l.length) && (ys.getD j 0 != 0)
theorem tb_len (l ys : List UInt8) (A k : Nat) : (tb l ys A k).length = l.length := by simp [tb]
theorem tb_at (l ys : List UInt8) (A k i : Nat) (hi : i < l.length) : (tb l ys A k)[i]? = some (if A ≤ i ∧ i < A + k then l.getD i 0 ^^^ ys.getD (i - A) 0 else l.getD i 0) := by simp [tb, hi]
theorem tb_zero (l ys : List UInt8) (A : Nat) : tb l ys A 0 = l := by
  apply List.ext_getElem?
  intro i
  by_cases hi : i < l.length
  · rw [tb_at _ _ _ _ _ hi, if_neg (by omega), List.getD_eq_getElem?_getD, List.getElem?_eq_getElem hi]
    rfl
  · rw [List.getElem?_eq_none (by rw [tb_len]; omega), List.getElem?_eq_none (by omega)]
theorem tu_succ (l ys : List UInt8) (A k : Nat) : tu l ys A (k + 1) = (tu l ys A k || (decide (A + k < l.length) && (ys.getD k 0 != 0))) := by
  simp [tu, List.range_succ, List.any_append]
theorem tb_more (l ys : List UInt8) (A k : Nat) (h : l.length ≤ A + k) : tb l ys A (k + 1) = tb l ys A k := by
  apply List.ext_getElem?
  intro i
  by_cases hi : i < l.length
  · rw [tb_at _ _ _ _ _ hi, tb_at _ _ _ _ _ hi]
    by_cases h2 : A ≤ i ∧ i < A + k
    · rw [if_pos h2, if_pos (by omega)]
    · rw [if_neg h2, if_neg (by omega)]
  · rw [List.getElem?_eq_none (by rw [tb_len]; omega), List.getElem?_eq_none (by rw [tb_len]; omega)]
theorem tb_step (l ys : List UInt8) (A k i : Nat) (h : A + k < l.length) (hi : i < l.length) : (tb l ys A (k + 1))[i]? = if i = A + k then some (l.getD (A + k) 0 ^^^ ys.getD k 0) else (tb l ys A k)[i]? := by
  rw [tb_at _ _ _ _ _ hi, tb_at _ _ _ _ _ hi]
  by_cases e : i = A + k
  · subst e
    rw [if_pos (by omega), if_pos rfl, show A + k - A = k by omega]
  · rw [if_neg e]
    by_cases h2 : A ≤ i ∧ i < A + k
    · rw [if_pos h2, if_pos (by omega)]
    · rw [if_neg h2, if_neg (by omega)]
theorem tb_same (l ys : List UInt8) (A k : Nat) : tb l ys A k = l ↔ tu l ys A k = false := by
  have hx : ∀ a b : UInt8, a ^^^ b = a ↔ b = 0 := by
    intro a b
    constructor
    · intro h
      have := congrArg (a ^^^ ·) h
      simpa [← UInt8.xor_assoc] using this
    · rintro rfl; simp
  constructor
  · intro h
    induction k with
    | zero => rfl
    | succ k _ =>
      unfold tu
      rw [List.any_eq_false]
      intro j hj
      rw [List.mem_range] at hj
      by_cases hl : A + j < l.length
      · have h1 := tb_at l ys A (k + 1) (A + j) hl
        rw [h, if_pos (by omega), List.getElem?_eq_getElem hl] at h1
        have h2 := Option.some.inj h1
        rw [List.getD_eq_getElem?_getD, List.getElem?_eq_getElem hl, show A + j - A = j by omega] at h2
        have h3 := (hx _ _).mp h2.symm
        rw [h3]
        simp
      · simp [hl]
  · intro h
    unfold tu at h
    rw [List.any_eq_false] at h
    apply List.ext_getElem?
    intro i
    by_cases hi : i < l.length
    · rw [tb_at _ _ _ _ _ hi]
      have e : l[i]? = some (l.getD i 0) := by rw [List.getD_eq_getElem?_getD, List.getElem?_eq_getElem hi]; rfl
      rw [e]
      congr 1
      by_cases h2 : A ≤ i ∧ i < A + k
      · rw [if_pos h2]
        have h3 := h (i - A) (List.mem_range.mpr (by omega))
        rw [show A + (i - A) = i by omega, decide_eq_true hi, Bool.true_and] at h3
        exact (hx _ _).mpr (by simpa using h3)
      · rw [if_neg h2]
    · rw [List.getElem?_eq_none (by rw [tb_len]; omega), List.getElem?_eq_none (by omega)]
theorem tb_sum (l ys : List UInt8) (A k : Nat) (hk : k ≤ 4) : (Cx.sum (tb l ys A k) = Cx.sum l) ↔ tu l ys A k = false := by
  rw [← tb_same]
  constructor
  · intro h
    have e1 : tb l ys A k = (tb l ys A k).take A ++ ((tb l ys A k).drop A).take 4 ++ ((tb l ys A k).drop A).drop 4 := by
      rw [List.append_assoc, List.take_append_drop, List.take_append_drop]
    have e2 : l = l.take A ++ (l.drop A).take 4 ++ (l.drop A).drop 4 := by
      rw [List.append_assoc, List.take_append_drop, List.take_append_drop]
    have t1 : (tb l ys A k).take A = l.take A := by
      apply List.ext_getElem?
      intro i
      rw [List.getElem?_take, List.getElem?_take]
      split
      · by_cases hi : i < l.length
        · rw [tb_at _ _ _ _ _ hi, if_neg (by omega), List.getD_eq_getElem?_getD, List.getElem?_eq_getElem hi]; rfl
        · rw [List.getElem?_eq_none (by rw [tb_len]; omega), List.getElem?_eq_none (by omega)]
      · rfl
    have t2 : ((tb l ys A k).drop A).drop 4 = (l.drop A).drop 4 := by
      apply List.ext_getElem?
      intro i
      simp only [List.getElem?_drop]
      by_cases hi : A + (4 + i) < l.length
      · rw [tb_at _ _ _ _ _ hi, if_neg (by omega), List.getD_eq_getElem?_getD, List.getElem?_eq_getElem hi]; rfl
      · rw [List.getElem?_eq_none (by rw [tb_len]; omega), List.getElem?_eq_none (by omega)]
    have h2 := h
    rw [e1] at h2
    conv at h2 => rhs; rw [e2]
    rw [t1, t2] at h2
    have h3 := Cx.sum_ne _ _ _ _ (by simp [tb_len]) (by simp; omega) h2
    rw [e1]
    conv => rhs; rw [e2]
    rw [t1, t2, h3]
  · intro h
    rw [h]

theorem rem_in (x : Int) (n : Nat) (h : 0 < n) : -(n : Int) < x.tmod n ∧ x.tmod n < n := by
  have hn : (0 : Int) < n := by omega
  refine ⟨?_, Int.tmod_lt_of_pos x hn⟩
  rcases Int.le_total 0 x with h1 | h1
  · have := Int.tmod_nonneg (n : Int) h1
    omega
  · have h2 := Int.tmod_lt_of_pos (-x) hn
    rw [Int.neg_tmod] at h2
    omega

/-- The bytes behind k changes, in the call's own block. -/
def TR (w0 : World) (B A : Nat) (l ys : List UInt8) (t i : Value) (wr : World) : Prop :=
  ∃ (k : Nat) (cur : Array Value), k ≤ ys.length ∧ i = .int .i64 k ∧ t = .bool (tu l ys A k) ∧ wr.heap[B]? = some (.cells cur 5 (cur.size, cur.size + 1)) ∧ l.length ≤ cur.size ∧
    (∀ j, j < l.length → cur[j]? = some (.int .u8 (((tb l ys A k).getD j 0).toNat : Nat))) ∧ Below B w0 wr
theorem frozen_no {w : World} {B i : Nat} {cur : Array Value} {t : TypeId} (h : w.heap[B]? = some (.cells cur t (cur.size, cur.size + 1))) (hi : i < cur.size) : w.frozen? ⟨B, i, none⟩ = false := by
  unfold World.frozen?
  rw [h]
  simp
  omega
theorem u8x (a b : UInt8) : bits .xor .u8 (a.toNat : Int) (b.toNat : Int) = ((a ^^^ b).toNat : Nat) := by
  rw [u8_xor_nat _ _ a.toNat_lt b.toNat_lt, UInt8.toNat_xor]
theorem tb_getD (l ys : List UInt8) (A k j : Nat) (hj : j < l.length) : (tb l ys A k)[j]? = some ((tb l ys A k).getD j 0) := by
  rw [List.getD_eq_getElem?_getD, List.getElem?_eq_getElem (by rw [tb_len]; exact hj)]
  rfl

theorem tr_in {w0 wr : World} {B A k : Nat} {l ys : List UInt8} {cur : Array Value} (hk : k < ys.length) (hin : A + k < l.length) (hH : wr.heap[B]? = some (.cells cur 5 (cur.size, cur.size + 1))) (hcs : l.length ≤ cur.size)
    (hcur : ∀ j, j < l.length → cur[j]? = some (.int .u8 (((tb l ys A k).getD j 0).toNat : Nat))) (hB : Below B w0 wr) (t : Bool) (ht : t = (tu l ys A k || (ys[k] != 0))) :
    TR w0 B A l ys (.bool t) (.int .i64 ((k : Int) + 1)) (wr.setCell ⟨B, A + k, none⟩ (.int .u8 ((((tb l ys A k).getD (A + k) 0) ^^^ ys[k]).toNat : Nat))) := by
  have hy : ys.getD k 0 = ys[k] := by rw [List.getD_eq_getElem?_getD, List.getElem?_eq_getElem hk]; rfl
  refine ⟨k + 1, cur.setIfInBounds (A + k) (.int .u8 ((((tb l ys A k).getD (A + k) 0) ^^^ ys[k]).toNat : Nat)), by omega, by go_num, ?_, ?_, ?_, fun j hj => ?_, hB.setCell (Nat.le_refl _) _⟩
  · rw [ht, tu_succ, decide_eq_true hin, hy, Bool.true_and]
  · rw [Array.size_setIfInBounds]
    exact hb_set_same hH (A + k) _
  · rw [Array.size_setIfInBounds]
    exact hcs
  · rw [Array.getElem?_setIfInBounds]
    have hst := tb_step l ys A k j hin hj
    rw [tb_getD l ys A (k + 1) j hj] at hst
    by_cases e : A + k = j
    · subst e
      rw [if_pos rfl, if_pos (by omega)]
      rw [if_pos rfl] at hst
      have h1 := tb_at l ys A k (A + k) hin
      rw [tb_getD l ys A k (A + k) hin, if_neg (by omega)] at h1
      rw [Option.some.inj hst, Option.some.inj h1, hy]
    · rw [if_neg e, hcur j hj]
      rw [if_neg (by omega), tb_getD l ys A k j hj] at hst
      rw [Option.some.inj hst]
theorem tr_out {w0 wr : World} {B A k : Nat} {l ys : List UInt8} {cur : Array Value} (hk : k < ys.length) (hin : ¬ A + k < l.length) (hH : wr.heap[B]? = some (.cells cur 5 (cur.size, cur.size + 1))) (hcs : l.length ≤ cur.size)
    (hcur : ∀ j, j < l.length → cur[j]? = some (.int .u8 (((tb l ys A k).getD j 0).toNat : Nat))) (hB : Below B w0 wr) :
    TR w0 B A l ys (.bool (tu l ys A k)) (.int .i64 ((k : Int) + 1)) wr := by
  refine ⟨k + 1, cur, by omega, by go_num, ?_, hH, hcs, fun j hj => ?_, hB⟩
  · rw [tu_succ, decide_eq_false hin, Bool.false_and, Bool.or_false]
  · rw [tb_more l ys A k (by omega)]
    exact hcur j hj

set_option maxRecDepth 100000 in
set_option maxHeartbeats 1000000 in
theorem turned_go (s : ByteArray) (at_ : Int) (v : Value) (ys : List UInt8) (w : World) (hs : s.size ≤ 2000) (h0 : 0 < s.size) (ha : -9223372036854775808 ≤ at_ ∧ at_ ≤ 9223372036854775807) (hl : ys.length ≤ 4)
    (q : Option Addr) (c : Nat) (hv : v = .slice q ys.length c) (hc : ∀ k x, (bytesV ys)[k]? = some x → ∃ a, q = some a ∧ w.cell? (a.add k) = some x) :
    Calls Try.prog 7 #[.string s, .int .i64 at_, v] w fun e w' => e = .returned (.bool true) ∧ Below w.heap.size w w' := by
  subst hv
  have HC := Lib.hid hc
  clear hc
  have d1 : decide (2000 < (s.size : Int)) = false := by simp; omega
  have d2 : ((s.size : Int) == 0) = false := by rw [beq_eq_false_iff_ne]; omega
  have d3 : decide (4 < (ys.length : Int)) = false := by simp; omega
  have hr := rem_in at_ s.size h0
  obtain ⟨hr1, hr2⟩ := hr
  have hcv := run_bytes_of_string (P := Try.prog) w 9 40 5 s Try.underlying9 Try.underlying40 Try.underlying5
  have hsl : s.data.toList.length = s.size := by simp
  have HSL := Lib.hid hsl
  clear hsl
  go_enter Try.func7, Try.ntmps7
  go_wp2
  obtain ⟨A, hA, hAn⟩ : ∃ A : Nat, (at_.tmod s.size + s.size) % (s.size : Int) = A ∧ A < s.size := by
    have e1 := Int.emod_nonneg (at_.tmod s.size + s.size) (show (s.size : Int) ≠ 0 by omega)
    have e2 := Int.emod_lt_of_pos (at_.tmod s.size + s.size) (show (0 : Int) < s.size by omega)
    obtain ⟨A, hA⟩ := Int.eq_ofNat_of_zero_le e1
    exact ⟨A, hA, by omega⟩
  rw [hA]
  clear hA hr1 hr2 hcv
  go_loopw [8, 39] (fun t i wr => TR w w.heap.size A s.data.toList ys t i wr) (fun _ i _ => ys.length - (intOf i).toNat)
  case atStart =>
    refine ⟨0, _, Nat.zero_le _, rfl, rfl, hb_drewN (hb_new w _) 1, ?_, fun j hj => ?_, (below_alloc w _).drew⟩
    · rw [HSL.out]; simp [bytesRow]
    · rw [HSL.out] at hj
      rw [tb_zero]
      simp only [bytesRow]
      rw [Array.getElem?_append_left (by simpa using hj)]
      simp [List.getD_eq_getElem?_getD, hj]
  case round =>
    obtain ⟨k, cur, hk, rfl, rfl, hH, hcs, hcur, hB⟩ := hrel
    have HH := Lib.hid hH
    have HCUR := Lib.hid hcur
    rw [HSL.out] at hcs
    clear hH hcur
    by_cases hlt : k < ys.length
    · have hdl : decide ((k : Int) < ys.length) = true := by simp; omega
      obtain ⟨a, rfl, h1⟩ := HC.out k (.int .u8 (ys[k].toNat : Nat)) (by simp [bytesV, hlt])
      have hcell : wr.cell? (a.add k) = some (.int .u8 (ys[k].toNat : Nat)) := by
        rw [hB.cell (block_lt_of_cell h1), h1]
      clear h1
      have HY : RowKit.Hid (ys.getD k 0 = ys[k]) := by rw [List.getD_eq_getElem?_getD, List.getElem?_eq_getElem hlt]; exact Lib.hid rfl
      have hy256 := ys[k].toNat_lt
      by_cases hin : A + k < s.size
      · have hdi : decide ((A : Int) + k < s.size) = true := by simp; omega
        have hb := hb_at HH.out (A + k) (HCUR.out (A + k) (by rw [HSL.out]; exact hin))
        have hfz := frozen_no HH.out (i := A + k) (by omega)
        have hx := u8x ((tb s.data.toList ys A k).getD (A + k) 0) ys[k]
        have HR := Lib.hid (tr_in (w0 := w) hlt (by rw [HSL.out]; exact hin) HH.out (by rw [HSL.out]; exact hcs) HCUR.out hB)
        have hu256 := ((tb s.data.toList ys A k).getD (A + k) 0).toNat_lt
        generalize (tb s.data.toList ys A k).getD (A + k) 0 = U at *
        generalize (U ^^^ ys[k]) = Z at *
        generalize tu s.data.toList ys A k = tt at *
        cases tt with
        | true =>
          have HR2 := Lib.hid (HR.out true (by simp))
          go_wp2
          go_roundw
          case rel => exact HR2.out
          case measure => simp [intOf]; omega
        | false =>
          by_cases hy : ys[k].toNat = 0
          · have hz : ys[k] = 0 := UInt8.toNat_inj.mp (by rw [hy]; rfl)
            have HR2 := Lib.hid (HR.out false (by rw [hz]; rfl))
            have hd : ((ys[k].toNat : Int) != 0) = false := by rw [hy]; rfl
            clear hz
            have HY2 := Lib.hid hy
            clear hy
            go_wp2
            go_roundw
            case rel => exact HR2.out
            case measure => simp [intOf]; omega
          · have hz : (ys[k] != 0) = true := by
              rw [bne_iff_ne]
              intro e
              rw [e] at hy
              exact hy rfl
            have HR2 := Lib.hid (HR.out true (by rw [hz]; rfl))
            have hd : ((ys[k].toNat : Int) != 0) = true := by rw [bne_iff_ne]; omega
            clear hz
            go_wp2
            go_roundw
            case rel => exact HR2.out
            case measure => simp [intOf]; omega
      · have hdi : decide ((A : Int) + k < s.size) = false := by simp; omega
        have HR := Lib.hid (tr_out (w0 := w) hlt (by rw [HSL.out]; exact hin) HH.out (by rw [HSL.out]; exact hcs) HCUR.out hB)
        generalize tu s.data.toList ys A k = tt at *
        go_wp2
        go_roundw
        case rel => exact HR.out
        case measure => simp [intOf]; omega
    · obtain rfl : k = ys.length := by omega
      have hcv2 := conv_cells wr ⟨w.heap.size, 0, none⟩ (grownCap w s.size 0 5) (tb s.data.toList ys A ys.length) (fun j x hj => by
        have hjl : j < s.data.toList.length := by
          have := (List.getElem?_eq_some_iff.1 hj).1
          rw [bytesV_len, tb_len] at this
          exact this
        rw [hb_cell_add HH.out, HCUR.out j hjl]
        simp only [bytesV, List.getElem?_map, tb_getD _ _ _ _ _ hjl, Option.map_some] at hj
        exact hj)
      rw [tb_len, HSL.out] at hcv2
      have HTS := Lib.hid (tb_sum s.data.toList ys A ys.length hl)
      have hsz1 : (str (tb s.data.toList ys A ys.length)).size ≤ 1000000 := by rw [str_size, tb_len, HSL.out]; omega
      have HSS : RowKit.Hid ((str (tb s.data.toList ys A ys.length)).data.toList = tb s.data.toList ys A ys.length) := Lib.hid (str_list _)
      generalize hS : str (tb s.data.toList ys A ys.length) = S at *
      clear hS
      have hfin : ∀ t, tu s.data.toList ys A ys.length = t → ((Cx.sum S.data.toList : Int) != (Cx.sum s.data.toList : Nat)) = t := by
        intro t ht
        rw [HSS.out]
        cases t with
        | false => rw [HTS.out.mpr ht]; simp
        | true =>
          rw [bne_iff_ne]
          intro e
          have e2 : Cx.sum (tb s.data.toList ys A ys.length) = Cx.sum s.data.toList := by omega
          rw [HTS.out.mp e2] at ht
          cases ht
      have HF := Lib.hid (hfin _ rfl)
      generalize tu s.data.toList ys A ys.length = tt at *
      clear hfin
      go_wp2_with (first
        | (go_at_call 25; ((with_reducible refine (sum_one S hsz1 _).mono ?_); rintro e w2 ⟨rfl, hb2⟩))
        | (go_at_call 25; ((with_reducible refine (sum_one s (by omega) _).mono ?_); rintro e w3 ⟨rfl, hb3⟩; have h9 := HF.out))
        | (go_at_call 11; refine (alive_ok _).mono ?_; rintro e w9 ⟨rfl, hb⟩))
      go_ret
      have zB := hB.size
      have z2 := hb2.size
      have z3 := hb3.size
      rw [World.size_alloc] at z2 z3
      exact ⟨rfl, ((((hB.alloc zB _).trans (hb2.mono (by omega))).alloc (by omega) _).trans (hb3.mono (by omega))).trans (hb.mono (by omega))⟩

theorem turned_walk (s : ByteArray) (at_ : Int) (v : Value) (ys : List UInt8) (w : World) (hs : s.size ≤ maxLen) (ha : -9223372036854775808 ≤ at_ ∧ at_ ≤ 9223372036854775807) (hr : Reads w v (bytesV ys)) (hl : ys.length ≤ maxLen) :
    Calls Try.prog 7 #[.string s, .int .i64 at_, v] w fun e w' => e = .returned (.bool true) ∧ Below w.heap.size w w' := by
  obtain ⟨q, c, rfl, hc⟩ : ∃ q c, v = .slice q ys.length c ∧ ∀ k x, (bytesV ys)[k]? = some x → ∃ a, q = some a ∧ w.cell? (a.add k) = some x := by
    rcases hr with ⟨rfl, h⟩ | ⟨a, c, rfl, h⟩
    · obtain rfl : ys = [] := by simpa [bytesV] using h
      exact ⟨none, 0, rfl, fun k x hx => by simp [bytesV] at hx⟩
    · exact ⟨some a, c, by rw [bytesV_len], fun k x hx => ⟨a, rfl, h k x hx⟩⟩
  unfold maxLen at hs hl
  by_cases h1 : 2000 < s.size
  · have d1 : decide (2000 < (s.size : Int)) = true := by simp; omega
    go_enter Try.func7, Try.ntmps7
    go_wp2_with (go_at_call 11; refine (alive_ok _).mono ?_; rintro e w9 ⟨rfl, hb⟩)
    go_ret
    exact ⟨rfl, hb⟩
  · have d1 : decide (2000 < (s.size : Int)) = false := by simp; omega
    by_cases h0 : s.size = 0
    · have d2 : ((s.size : Int) == 0) = true := by rw [beq_iff_eq]; omega
      clear h0
      go_enter Try.func7, Try.ntmps7
      go_wp2_with (go_at_call 11; refine (alive_ok _).mono ?_; rintro e w9 ⟨rfl, hb⟩)
      go_ret
      exact ⟨rfl, hb⟩
    · by_cases h4 : 4 < ys.length
      · have d2 : ((s.size : Int) == 0) = false := by rw [beq_eq_false_iff_ne]; omega
        have d3 : decide (4 < (ys.length : Int)) = true := by simp; omega
        go_enter Try.func7, Try.ntmps7
        go_wp2_with (go_at_call 11; refine (alive_ok _).mono ?_; rintro e w9 ⟨rfl, hb⟩)
        go_ret
        exact ⟨rfl, hb⟩
      · exact turned_go s at_ _ ys w (by omega) (by omega) ha (by omega) q c rfl hc

set_option maxRecDepth 100000 in
theorem codecTurned_lifted (os : Os) (started : os.Started) (H : Type) (enc : TypeId × Value → H) :
    ReturnsInHanded {} Try.checked os 7 .any (Rows.codecTurnedSpec.pre6 enc Try.prog Try.f7 Rows.codecTurnedRow.domain false) (Rows.codecTurnedSpec.post enc Try.prog Try.f7 false true false false) := by
  refine returnsInHanded_of_change (C := Try.checked) ownKn started (by kernel_rfl) Try.func7
    (ChangeSpec.witness6 (enc := enc) (C := Try.checked) false ⟨#[], #[.string ⟨#[]⟩, .int .i64 0, .slice none 0 0], []⟩ 8 (by kernel_rfl) (by kernel_rfl) (by kernel_rfl) (by kernel_rfl)) ?_
  intro W base args ds gs before hval0 hW hcnd _
  have hval : ∀ (j : Nat) t v, Try.f7.params[j]? = some t → args[j]? = some v → Value.okWide Try.prog W .any base t v := hval0
  have hW' := hW
  obtain ⟨p, q, hA0, hV, rfl, hfz, hnd⟩ := hW
  have hA : DataW.TrodAll enc Try.prog W 0 (fun _ => true) true Try.f7.params.toList args.toList ds p := hA0
  rw [Try.params7] at hA hval
  obtain ⟨v0, vs0, d0, ds0, p0, q0, hargs, rfl, rfl, h0, r0⟩ := trodAll_cons hA
  obtain ⟨v1, vs1, d1, ds1, p1, q1, rfl, rfl, rfl, h1, r1⟩ := trodAll_cons r0
  obtain ⟨v2, vs2, d2, ds2, p2, q2, rfl, rfl, rfl, h2, r2⟩ := trodAll_cons r1
  obtain ⟨rfl, rfl, rfl⟩ := trodAll_nil r2
  obtain rfl : args = #[v0, v1, v2] := by cases args; simp_all
  obtain ⟨rfl, rfl⟩ := trodVars_none hV
  have lt0 : ∀ x ∈ p0, x.block < W.heap.size := by obtain ⟨m, hm⟩ := h0; exact DataW.trod_lt m _ _ _ hm
  have lt1 : ∀ x ∈ p1, x.block < W.heap.size := by obtain ⟨m, hm⟩ := h1; exact DataW.trod_lt m _ _ _ hm
  have lt2 : ∀ x ∈ p2, x.block < W.heap.size := by obtain ⟨m, hm⟩ := h2; exact DataW.trod_lt m _ _ _ hm
  have k0 := h0
  obtain ⟨a0, rfl, rfl, rfl, b0⟩ := open_string Try.underlying9 (hval 0 9 v0 rfl rfl) h0
  have k1 := h1
  obtain ⟨a1, rfl, rfl, rfl, w1⟩ := open_int Try.underlying3 (hval 1 3 v1 rfl rfl) h1
  have b1 := bounds_i64 w1
  have k2 := h2
  obtain ⟨a2, b2, c2⟩ := arg_bytes (hval 2 40 v2 rfl rfl) h2
  clear hA0 hval0
  refine (turned_walk a0 a1 v2 a2 W b0 b1 b2 c2).mono fun e W' ⟨he, bel⟩ => ?_
  subst he
  exact ⟨_, rfl, _, _, _, [], _, [], hW', trodAll_mk1 (shut_bool Try.underlying4 _),
    (trodAll_cons_mk (Below.trod laidTry (by kernel_rfl) (of_decide_eq_true (by kernel_rfl)) k0 bel lt0) (trodAll_cons_mk (Below.trod laidTry (by kernel_rfl) (of_decide_eq_true (by kernel_rfl)) k1 bel lt1) (trodAll_cons_mk (Below.trod laidTry (by kernel_rfl) (of_decide_eq_true (by kernel_rfl)) k2 bel lt2) trodAll_mk0))), rfl, bel.frame _, fun h => by cases h⟩

theorem codecTurned_over : Rows.codecTurnedRow.holds Try.pinned (OpenSpec.ofChange Rows.codecTurnedSpec) :=
  OpenClaim.holds_of_wide 7 Try.f7 rfl rfl rfl rfl rfl rfl rfl ⟨rfl, rfl, rfl, rfl, rfl⟩ rfl rfl rfl rfl rfl (by kernel_rfl) Try.func7 (by kernel_rfl)
    (of_decide_eq_true (by kernel_rfl)) (by unfold Func.isWrapper; first | (rw [if_pos (by decide +kernel)]; kernel_rfl) | (rw [if_neg (by decide +kernel)]; exact ⟨rfl, rfl⟩))
    (fun os started H enc _ => codecTurned_lifted os started H enc)

theorem codecTurned_holds : Rows.CodecTurnedSaid := codecTurned_over
#print axioms codecTurned_holds
end Go.Proofs.Ytnailnlpjakcbaa
