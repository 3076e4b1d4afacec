
/- A reader: what each of its calls answers, and what is left; on none, too. -/
import Derived.Test.YtfbfdkjimoomlaaE1
import Derived.Test.YtfbfdkjimoomlaaC3
import Derived.Test.YtfbfdkjimoomlaaS1
namespace Go.Proofs.Ytfbfdkjimoomlaa
open Go.RowKit

namespace Cx
/-- A number off what is left ('none': it is bad). -/
def spU : Option (List UInt8) → Nat × Option (List UInt8)
  | none => (0, none)
  | some l => if (getUv l).2 = 0 then (0, none) else ((getUv l).1, some (l.drop (getUv l).2))
def spT (st : Option (List UInt8)) : List UInt8 × Option (List UInt8) :=
  match spU st with
  | (_, none) => ([], none)
  | (x, some l) => if l.length < x then ([], none) else (l.take x, some (l.drop x))
end Cx

def Rd (w : World) (R : Nat) : Option (List UInt8) → Prop
  | none => ∃ v, w.heap[R]? = some (.cells #[v, .bool false] 105 (0, 0))
  | some l => w.heap[R]? = some (.cells #[.string (str l), .bool true] 105 (0, 0)) ∧ l.length ≤ maxLen
theorem Rd.kept {w w' : World} {R : Nat} {st : Option (List UInt8)} (h : Rd w R st) (hk : ∀ x, w.heap[R]? = some x → w'.heap[R]? = some x) : Rd w' R st := by
  cases st with
  | none => obtain ⟨v, h⟩ := h; exact ⟨v, hk _ h⟩
  | some l => exact ⟨hk _ h.1, h.2⟩
theorem Rd.lt {w : World} {R : Nat} {st : Option (List UInt8)} (h : Rd w R st) : R < w.heap.size := by
  cases st with
  | none => obtain ⟨v, h⟩ := h; exact hb_lt h
  | some l => exact hb_lt h.1
def stBad : Option (List UInt8) → Bool
  | none => true
  | some _ => false

theorem bad_nil (w : World) : Calls Try.prog 46 #[.pointer none] w fun e w' => e = .returned (.bool true) ∧ w = w' := by
  go_enter Try.func46, Try.ntmps46
  go_wp2
  go_ret
  exact ⟨rfl, rfl⟩
theorem bad_any (R : Nat) (st : Option (List UInt8)) (w : World) (h : Rd w R st) : Calls Try.prog 46 #[.pointer (some ⟨R, 0, none⟩)] w fun e w' => e = .returned (.bool (stBad st)) ∧ w = w' := by
  cases st with
  | none =>
    obtain ⟨v, h⟩ := h
    have c1 : w.cell? ⟨R, 1, none⟩ = some (.bool false) := hb_at h 1 rfl
    clear h
    go_enter Try.func46, Try.ntmps46
    go_wp2
    go_ret
    exact ⟨rfl, rfl⟩
  | some l =>
    have c1 : w.cell? ⟨R, 1, none⟩ = some (.bool true) := hb_at h.1 1 rfl
    clear h
    go_enter Try.func46, Try.ntmps46
    go_wp2
    go_ret
    exact ⟨rfl, rfl⟩
theorem done_nil (w : World) : Calls Try.prog 39 #[.pointer none] w fun e w' => e = .returned (.bool false) ∧ w = w' := by
  go_enter Try.func39, Try.ntmps39
  go_wp2_with (go_at_call 46; refine (bad_nil _).mono ?_; rintro e w1 ⟨rfl, rfl⟩)
  go_ret
  exact ⟨rfl, rfl⟩
def stDone : Option (List UInt8) → Bool
  | none => false
  | some l => l.isEmpty
theorem done_any (R : Nat) (st : Option (List UInt8)) (w : World) (h : Rd w R st) : Calls Try.prog 39 #[.pointer (some ⟨R, 0, none⟩)] w fun e w' => e = .returned (.bool (stDone st)) ∧ w = w' := by
  have H := Lib.hid h
  cases st with
  | none =>
    clear h
    go_enter Try.func39, Try.ntmps39
    go_wp2_with (go_at_call 46; refine (bad_any R none _ H.out).mono ?_; rintro e w1 ⟨rfl, rfl⟩)
    go_ret
    exact ⟨rfl, rfl⟩
  | some l =>
    have c0 : w.cell? ⟨R, 0, none⟩ = some (.string (str l)) := hb_at h.1 0 rfl
    have HE : RowKit.Hid (stDone (some l) = (str l).toList.isEmpty) := by
      rw [ByteArray.toList_eq, str_list]
      exact Lib.hid rfl
    generalize str l = S at *
    clear h
    go_enter Try.func39, Try.ntmps39
    go_wp2_with (go_at_call 46; refine (bad_any R (some l) _ H.out).mono ?_; rintro e w1 ⟨rfl, rfl⟩)
    go_ret
    exact ⟨ret_bool HE.out.symm, rfl⟩

theorem below_grown' {w w' : World} (h : Below w.heap.size w w') (row : Option Nat) : w.grownBy w' row := ⟨h.os, h.tape, h.output, h.size, fun k hk _ => h.block k hk⟩
theorem grown_refl (w : World) (row : Option Nat) : w.grownBy w row := ⟨rfl, rfl, rfl, Nat.le_refl _, fun _ _ _ => rfl⟩
theorem zero76 (v0 v1 : Value) (R : Nat) (w : World) (h : w.heap[R]? = some (.cells #[v0, v1] 105 (0, 0))) : Calls Try.prog 59 #[.pointer (some ⟨R, 0, none⟩)] w fun e w' => e = .returned (.tuple #[]) ∧ Rd w' R none ∧ w.grownBy w' (some R) := by
  have c0 : w.cell? ⟨R, 0, none⟩ = some v0 := hb_at h 0 rfl
  have c1 : w.cell? ⟨R, 1, none⟩ = some v1 := hb_at h 1 rfl
  have f0 := hb_free h 0
  have f1 := hb_free h 1
  have H := Lib.hid h
  clear h
  go_enter Try.func59, Try.ntmps59
  go_wp2
  go_end0
  refine ⟨rfl, ⟨_, hb_set_same (hb_set_same H.out 0 _) 1 _⟩, (grown_set w ⟨R, 0, none⟩ _).trans (grown_set _ ⟨R, 1, none⟩ _)⟩

theorem rU_nil (w : World) : Calls Try.prog 36 #[.pointer none] w fun e w' => e = .returned (.int .u64 0) ∧ w = w' := by
  go_enter Try.func36, Try.ntmps36
  go_wp2_with (go_at_call 46; refine (bad_nil _).mono ?_; rintro e w1 ⟨rfl, rfl⟩)
  go_ret
  exact ⟨rfl, rfl⟩
theorem str_drop (l : List UInt8) (n : Nat) (h : n ≤ l.length) : (str l).extract n (str l).size = str (l.drop n) := by
  apply ByteArray.ext
  apply Array.ext'
  simp [str, ByteArray.size]
  rw [List.take_of_length_le (by rw [List.length_drop]; omega)]

set_option maxHeartbeats 1000000 in
theorem rU_any (R : Nat) (st : Option (List UInt8)) (w : World) (h : Rd w R st) : Calls Try.prog 36 #[.pointer (some ⟨R, 0, none⟩)] w fun e w' => e = .returned (.int .u64 ((Cx.spU st).1 : Nat)) ∧ Rd w' R (Cx.spU st).2 ∧ w.grownBy w' (some R) := by
  have H := Lib.hid h
  cases st with
  | none =>
    clear h
    go_enter Try.func36, Try.ntmps36
    go_wp2_with (go_at_call 46; refine (bad_any R none _ H.out).mono ?_; rintro e w1 ⟨rfl, rfl⟩)
    go_ret
    exact ⟨rfl, H.out, grown_refl _ _⟩
  | some l =>
    obtain ⟨hH, hlm⟩ := h
    have c0 : w.cell? ⟨R, 0, none⟩ = some (.string (str l)) := hb_at hH 0 rfl
    have f0 := hb_free hH 0
    have HH := Lib.hid hH
    have hlm2 : l.length ≤ 9223372036854775807 := hlm
    have HLM := Lib.hid hlm
    have hg := getUvarint_any (str l) (by rw [str_size]; exact hlm)
    rw [str_list] at hg
    have HG := Lib.hid hg
    clear hg hH hlm
    by_cases hz : (Cx.getUv l).2 = 0
    · have HS : RowKit.Hid (Cx.spU (some l) = (0, none)) := by
        apply Lib.hid
        show (if (Cx.getUv l).2 = 0 then (0, none) else ((Cx.getUv l).1, some (l.drop (Cx.getUv l).2))) = _
        rw [if_pos hz]
      have ht : (((Cx.getUv l).2 : Int) == 0) = true := by rw [hz]; rfl
      clear hz
      go_enter Try.func36, Try.ntmps36
      go_wp2_with (first
        | (go_at_call 46; refine (bad_any R (some l) _ H.out).mono ?_; rintro e w1 ⟨rfl, rfl⟩)
        | (go_at_call 58; refine (HG.out _).mono ?_; rintro e w1 ⟨rfl, rfl⟩)
        | (go_at_call 59; refine (zero76 _ _ R _ HH.out).mono ?_; rintro e w2 ⟨rfl, h2, hg2⟩))
      go_ret
      rw [HS.out]
      exact ⟨rfl, h2, hg2⟩
    · have HS : RowKit.Hid (Cx.spU (some l) = ((Cx.getUv l).1, some (l.drop (Cx.getUv l).2))) := by
        apply Lib.hid
        show (if (Cx.getUv l).2 = 0 then (0, none) else ((Cx.getUv l).1, some (l.drop (Cx.getUv l).2))) = _
        rw [if_neg hz]
      have ht : (((Cx.getUv l).2 : Int) == 0) = false := by rw [beq_eq_false_iff_ne]; omega
      have hle := (Cx.getUv_back l hz).2.2.2
      have HD := Lib.hid (str_drop l (Cx.getUv l).2 hle)
      have hsz : (str l).size = l.length := str_size l
      have hle2 : ((Cx.getUv l).2 : Int) ≤ (str l).size := by rw [hsz]; omega
      have HSZ := Lib.hid hsz
      clear hz hsz
      generalize (Cx.getUv l).2 = n at *
      generalize (Cx.getUv l).1 = x at *
      go_enter Try.func36, Try.ntmps36
      go_wp2_with (first
        | (go_at_call 46; refine (bad_any R (some l) _ H.out).mono ?_; rintro e w1 ⟨rfl, rfl⟩)
        | (go_at_call 58; refine (HG.out _).mono ?_; rintro e w1 ⟨rfl, rfl⟩))
      go_ret
      rw [HS.out]
      refine ⟨rfl, ⟨?_, by rw [List.length_drop]; exact Nat.le_trans (Nat.sub_le _ _) HLM.out⟩, grown_set w ⟨R, 0, none⟩ _⟩
      rw [← HD.out]
      exact hb_set_same HH.out 0 _

theorem spU_lt (st : Option (List UInt8)) : (Cx.spU st).1 < 18446744073709551616 := by
  cases st with
  | none => decide
  | some l =>
    show (if (Cx.getUv l).2 = 0 then (0, none) else ((Cx.getUv l).1, some (l.drop (Cx.getUv l).2))).1 < _
    split
    · decide
    · rename_i h
      exact (Cx.getUv_back l h).2.2.1
theorem rI_nil (w : World) : Calls Try.prog 45 #[.pointer none] w fun e w' => e = .returned (.int .i64 0) ∧ w = w' := by
  have HZ : RowKit.Hid (Cx.zag 0 = 0) := Lib.hid rfl
  go_enter Try.func45, Try.ntmps45
  go_wp2_with (first
    | (go_at_call 36; refine (rU_nil _).mono ?_; rintro e w1 ⟨rfl, rfl⟩)
    | (go_at_call 63; refine (zag_any 0 (by omega) _).mono ?_; rintro e w1 ⟨rfl, rfl⟩))
  go_ret
  exact ⟨ret_int HZ.out, rfl⟩
theorem rI_any (R : Nat) (st : Option (List UInt8)) (w : World) (h : Rd w R st) : Calls Try.prog 45 #[.pointer (some ⟨R, 0, none⟩)] w fun e w' => e = .returned (.int .i64 (Cx.zag (Cx.spU st).1)) ∧ Rd w' R (Cx.spU st).2 ∧ w.grownBy w' (some R) := by
  have H := Lib.hid (rU_any R st w h)
  have hx := spU_lt st
  clear h
  generalize Cx.spU st = p at *
  go_enter Try.func45, Try.ntmps45
  go_wp2_with (first
    | (go_at_call 36; refine H.out.mono ?_; rintro e w1 ⟨rfl, h1, hg1⟩)
    | (go_at_call 63; refine (zag_any p.1 hx _).mono ?_; rintro e w2 ⟨rfl, rfl⟩))
  go_ret
  exact ⟨rfl, h1, hg1⟩

theorem clone_any (s : ByteArray) (w : World) (hs : s.size ≤ 281474976710656) : Calls Try.prog 60 #[.string s] w fun e w' => e = .returned (.string s) ∧ Below w.heap.size w w' := by
  go_enter Try.func60, Try.ntmps60
  go_wp2_with (go_at_call 69; refine (Try.stringslite_Clone s _ hs).mono ?_; rintro e w1 ⟨rfl, hb⟩)
  go_ret
  exact ⟨rfl, hb⟩
theorem rT_nil (w : World) : Calls Try.prog 38 #[.pointer none] w fun e w' => e = .returned (.string ⟨#[]⟩) ∧ w = w' := by
  go_enter Try.func38, Try.ntmps38
  go_wp2_with (first
    | (go_at_call 36; refine (rU_nil _).mono ?_; rintro e w1 ⟨rfl, rfl⟩)
    | (go_at_call 46; refine (bad_nil _).mono ?_; rintro e w1 ⟨rfl, rfl⟩))
  go_ret
  exact ⟨rfl, rfl⟩
theorem str_take (l : List UInt8) (n : Nat) (h : n ≤ l.length) : (str l).extract 0 n = str (l.take n) := by
  rw [ext_str _ n (by rw [str_size]; exact h), str_list]

set_option maxHeartbeats 1000000 in
theorem rT_any (R : Nat) (st : Option (List UInt8)) (hst : ∀ l, st = some l → l.length ≤ 1000000) (w : World) (h : Rd w R st) : Calls Try.prog 38 #[.pointer (some ⟨R, 0, none⟩)] w fun e w' => e = .returned (.string (str (Cx.spT st).1)) ∧ Rd w' R (Cx.spT st).2 ∧ w.grownBy w' (some R) := by
  have H := Lib.hid (rU_any R st w h)
  have hx := spU_lt st
  have hlen : ∀ l, (Cx.spU st).2 = some l → l.length ≤ 1000000 := by
    intro l hl
    cases st with
    | none => cases hl
    | some m =>
      have hm := hst m rfl
      have e : (if (Cx.getUv m).2 = 0 then (0, none) else ((Cx.getUv m).1, some (m.drop (Cx.getUv m).2))).2 = some l := hl
      split at e
      · cases e
      · obtain rfl := Option.some.inj e
        rw [List.length_drop]
        omega
  have HT : RowKit.Hid (Cx.spT st = match Cx.spU st with
    | (_, none) => ([], none)
    | (x, some l) => if l.length < x then ([], none) else (l.take x, some (l.drop x))) := Lib.hid rfl
  clear h
  generalize Cx.spU st = p at *
  obtain ⟨x, st2⟩ := p
  cases st2 with
  | none =>
    have HS : RowKit.Hid (Cx.spT st = ([], none)) := HT
    go_enter Try.func38, Try.ntmps38
    go_wp2_with (first
      | (go_at_call 36; refine H.out.mono ?_; rintro e w1 ⟨rfl, h1, hg1⟩)
      | (go_at_call 46; refine (bad_any R none _ h1).mono ?_; rintro e w2 ⟨rfl, rfl⟩))
    go_ret
    rw [HS.out]
    exact ⟨rfl, h1, hg1⟩
  | some l =>
    have hl := hlen l rfl
    have hx2 : x < 18446744073709551616 := hx
    have hsz : (str l).size = l.length := str_size l
    have HSZ := Lib.hid hsz
    by_cases hlt : l.length < x
    · have HS : RowKit.Hid (Cx.spT st = ([], none)) := by
        apply Lib.hid
        rw [HT.out]
        show (if l.length < x then ([], none) else (l.take x, some (l.drop x))) = _
        rw [if_pos hlt]
      have hd : decide ((l.length : Int) < x) = true := by simp; omega
      go_enter Try.func38, Try.ntmps38
      go_wp2_with (first
        | (go_at_call 36; refine H.out.mono ?_; rintro e w1 ⟨rfl, h1, hg1⟩; have hH := h1.1; have c0 : w1.cell? ⟨R, 0, none⟩ = some (.string (str l)) := hb_at hH 0 rfl; have HR1 := Lib.hid h1; have HH := Lib.hid hH; clear h1 hH)
        | (go_at_call 46; refine (bad_any R (some l) _ HR1.out).mono ?_; rintro e w2 ⟨rfl, rfl⟩)
        | (go_at_call 59; refine (zero76 _ _ R _ HH.out).mono ?_; rintro e w3 ⟨rfl, h3, hg3⟩))
      go_ret
      rw [HS.out]
      exact ⟨rfl, h3, hg1.trans hg3⟩
    · have HS : RowKit.Hid (Cx.spT st = (l.take x, some (l.drop x))) := by
        apply Lib.hid
        rw [HT.out]
        show (if l.length < x then ([], none) else (l.take x, some (l.drop x))) = _
        rw [if_neg hlt]
      have hd : decide ((l.length : Int) < x) = false := by simp; omega
      have hxl : x ≤ l.length := by omega
      have hxs : (x : Int) ≤ (str l).size := by rw [hsz]; omega
      have hxs2 : x ≤ (str l).size := by omega
      have HTK := Lib.hid (str_take l x hxl)
      have HDR := Lib.hid (str_drop l x hxl)
      have hes : ((str l).extract 0 x).size ≤ 1000000 := by rw [str_take l x hxl, str_size, List.length_take]; omega
      go_enter Try.func38, Try.ntmps38
      go_wp2_with (first
        | (go_at_call 36; refine H.out.mono ?_; rintro e w1 ⟨rfl, h1, hg1⟩; have hH := h1.1; have hlm1 := Lib.hid h1.2; have c0 : w1.cell? ⟨R, 0, none⟩ = some (.string (str l)) := hb_at hH 0 rfl; have HR1 := Lib.hid h1; have HH := Lib.hid hH; clear h1 hH)
        | (go_at_call 46; refine (bad_any R (some l) _ HR1.out).mono ?_; rintro e w2 ⟨rfl, rfl⟩)
        | (go_at_call 60; refine (clone_any _ _ (by omega)).mono ?_; rintro e w3 ⟨rfl, hb3⟩; have hH3 := hb_below HH.out hb3 (hb_lt HH.out); have c3 : w3.cell? ⟨R, 0, none⟩ = some (.string (str l)) := hb_at hH3 0 rfl; have f3 := hb_free hH3 0; have HH3 := Lib.hid hH3; clear hH3))
      go_ret
      rw [HS.out, HTK.out]
      refine ⟨rfl, ⟨?_, by rw [List.length_drop]; exact Nat.le_trans (Nat.sub_le _ _) hlm1.out⟩, (hg1.trans (below_grown' hb3 _)).trans (grown_set w3 ⟨R, 0, none⟩ _)⟩
      rw [← HDR.out]
      exact hb_set_same HH3.out 0 _
end Go.Proofs.Ytfbfdkjimoomlaa
