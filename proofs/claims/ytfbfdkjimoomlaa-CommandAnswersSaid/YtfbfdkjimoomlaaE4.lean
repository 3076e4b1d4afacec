
/- The document's own reader. -/
import Derived.Test.YtfbfdkjimoomlaaE3
import Derived.BigGuardPart
namespace Go.Proofs.Ytfbfdkjimoomlaa
open Go.RowKit

def Rq (w : World) (R : Nat) : Option (List UInt8) → Prop
  | none => ∃ v, w.heap[R]? = some (.cells #[.string v, .bool true] 85 (0, 0))
  | some l => w.heap[R]? = some (.cells #[.string (str l), .bool false] 85 (0, 0)) ∧ l.length ≤ maxLen
theorem Rq.kept {w w' : World} {R : Nat} {st : Option (List UInt8)} (h : Rq w R st) (hk : ∀ x, w.heap[R]? = some x → w'.heap[R]? = some x) : Rq w' R st := by
  cases st with
  | none => obtain ⟨v, h⟩ := h; exact ⟨v, hk _ h⟩
  | some l => exact ⟨hk _ h.1, h.2⟩
theorem Rq.lt {w : World} {R : Nat} {st : Option (List UInt8)} (h : Rq w R st) : R < w.heap.size := by
  cases st with
  | none => obtain ⟨v, h⟩ := h; exact hb_lt h
  | some l => exact hb_lt h.1
theorem Rq.bad {w : World} {R : Nat} {st : Option (List UInt8)} (h : Rq w R st) : w.cell? ⟨R, 1, none⟩ = some (.bool (stBad st)) := by
  cases st with
  | none => obtain ⟨v, h⟩ := h; exact hb_at h 1 rfl
  | some l => exact hb_at h.1 1 rfl

set_option maxHeartbeats 1000000 in
theorem qU_any (R : Nat) (st : Option (List UInt8)) (w : World) (h : Rq w R st) : Calls Try.prog 41 #[.pointer (some ⟨R, 0, none⟩)] w fun e w' => e = .returned (.int .u64 ((Cx.spU st).1 : Nat)) ∧ Rq w' R (Cx.spU st).2 ∧ w.grownBy w' (some R) := by
  have H := Lib.hid h
  cases st with
  | none =>
    obtain ⟨v, hH⟩ := h
    have c1 : w.cell? ⟨R, 1, none⟩ = some (.bool true) := hb_at hH 1 rfl
    clear hH
    go_enter Try.func41, Try.ntmps41
    go_wp2
    go_ret
    exact ⟨rfl, H.out, grown_refl _ _⟩
  | some l =>
    obtain ⟨hH, hlm⟩ := h
    have c0 : w.cell? ⟨R, 0, none⟩ = some (.string (str l)) := hb_at hH 0 rfl
    have c1 : w.cell? ⟨R, 1, none⟩ = some (.bool false) := hb_at hH 1 rfl
    have HH := Lib.hid hH
    have hlm2 : l.length ≤ 9223372036854775807 := hlm
    have HLM := Lib.hid hlm
    have hg := refGet_any (str l) (by rw [str_size]; exact hlm)
    rw [str_list] at hg
    have HG := Lib.hid hg
    clear hg hH hlm
    by_cases hz : (Cx.getUv l).2 = 0
    · have HS : RowKit.Hid (Cx.spU (some l) = (0, none)) := by
        apply Lib.hid
        show (if (Cx.getUv l).2 = 0 then (0, none) else ((Cx.getUv l).1, some (l.drop (Cx.getUv l).2))) = _
        rw [if_pos hz]
      have ht : (((Cx.getUv l).2 : Int) == 0) = true := by rw [hz]; rfl
      clear hz
      go_enter Try.func41, Try.ntmps41
      go_wp2_with (go_at_call 61; refine (HG.out _).mono ?_; rintro e w1 ⟨rfl, hb1⟩; have hH1 := hb_below HH.out hb1 (hb_lt HH.out); have d1 : w1.cell? ⟨R, 1, none⟩ = some (.bool false) := hb_at hH1 1 rfl; have f1 := hb_free hH1 1; have HH1 := Lib.hid hH1; clear hH1)
      go_ret
      rw [HS.out]
      exact ⟨rfl, ⟨_, hb_set_same HH1.out 1 _⟩, (below_grown' hb1 _).trans (grown_set w1 ⟨R, 1, none⟩ _)⟩
    · have HS : RowKit.Hid (Cx.spU (some l) = ((Cx.getUv l).1, some (l.drop (Cx.getUv l).2))) := by
        apply Lib.hid
        show (if (Cx.getUv l).2 = 0 then (0, none) else ((Cx.getUv l).1, some (l.drop (Cx.getUv l).2))) = _
        rw [if_neg hz]
      have ht : (((Cx.getUv l).2 : Int) == 0) = false := by rw [beq_eq_false_iff_ne]; omega
      have hle := (Cx.getUv_back l hz).2.2.2
      have HD := Lib.hid (str_drop l (Cx.getUv l).2 hle)
      have hsz : (str l).size = l.length := str_size l
      have hle2 : ((Cx.getUv l).2 : Int) ≤ (str l).size := by rw [hsz]; omega
      have HSZ := Lib.hid hsz
      clear hz hsz
      generalize (Cx.getUv l).2 = n at *
      generalize (Cx.getUv l).1 = x at *
      go_enter Try.func41, Try.ntmps41
      go_wp2_with (go_at_call 61; refine (HG.out _).mono ?_; rintro e w1 ⟨rfl, hb1⟩; have hH1 := hb_below HH.out hb1 (hb_lt HH.out); have d0 : w1.cell? ⟨R, 0, none⟩ = some (.string (str l)) := hb_at hH1 0 rfl; have f0 := hb_free hH1 0; have HH1 := Lib.hid hH1; clear hH1)
      go_ret
      rw [HS.out]
      refine ⟨rfl, ⟨?_, by rw [List.length_drop]; exact Nat.le_trans (Nat.sub_le _ _) HLM.out⟩, (below_grown' hb1 _).trans (grown_set w1 ⟨R, 0, none⟩ _)⟩
      rw [← HD.out]
      exact hb_set_same HH1.out 0 _

set_option maxHeartbeats 1000000 in
theorem qT_any (R : Nat) (st : Option (List UInt8)) (hst : ∀ l, st = some l → l.length ≤ 1000000) (w : World) (h : Rq w R st) : Calls Try.prog 43 #[.pointer (some ⟨R, 0, none⟩)] w fun e w' => e = .returned (.string (str (Cx.spT st).1)) ∧ Rq w' R (Cx.spT st).2 ∧ w.grownBy w' (some R) := by
  have H := Lib.hid (qU_any R st w h)
  have hx := spU_lt st
  have hlen : ∀ l, (Cx.spU st).2 = some l → l.length ≤ 1000000 := by
    intro l hl
    cases st with
    | none => cases hl
    | some m =>
      have hm := hst m rfl
      have e : (if (Cx.getUv m).2 = 0 then (0, none) else ((Cx.getUv m).1, some (m.drop (Cx.getUv m).2))).2 = some l := hl
      split at e
      · cases e
      · obtain rfl := Option.some.inj e
        rw [List.length_drop]
        omega
  have HT : RowKit.Hid (Cx.spT st = match Cx.spU st with
    | (_, none) => ([], none)
    | (x, some l) => if l.length < x then ([], none) else (l.take x, some (l.drop x))) := Lib.hid rfl
  clear h
  generalize Cx.spU st = p at *
  obtain ⟨x, st2⟩ := p
  cases st2 with
  | none =>
    have HS : RowKit.Hid (Cx.spT st = ([], none)) := HT
    go_enter Try.func43, Try.ntmps43
    go_wp2_with (go_at_call 41; refine H.out.mono ?_; rintro e w1 ⟨rfl, h1, hg1⟩; obtain ⟨vv, hH⟩ := h1; have d1 : w1.cell? ⟨R, 1, none⟩ = some (.bool true) := hb_at hH 1 rfl; have f1 := hb_free hH 1; have HH := Lib.hid hH; clear hH)
    go_ret
    rw [HS.out]
    exact ⟨rfl, ⟨_, hb_set_same HH.out 1 _⟩, hg1.trans (grown_set w1 ⟨R, 1, none⟩ _)⟩
  | some l =>
    have hl := hlen l rfl
    have hx2 : x < 18446744073709551616 := hx
    have hsz : (str l).size = l.length := str_size l
    have HSZ := Lib.hid hsz
    by_cases hlt : l.length < x
    · have HS : RowKit.Hid (Cx.spT st = ([], none)) := by
        apply Lib.hid
        rw [HT.out]
        show (if l.length < x then ([], none) else (l.take x, some (l.drop x))) = _
        rw [if_pos hlt]
      have hd : decide ((l.length : Int) < x) = true := by simp; omega
      go_enter Try.func43, Try.ntmps43
      go_wp2_with (go_at_call 41; refine H.out.mono ?_; rintro e w1 ⟨rfl, h1, hg1⟩; have hH := h1.1; have c0 : w1.cell? ⟨R, 0, none⟩ = some (.string (str l)) := hb_at hH 0 rfl; have d1 : w1.cell? ⟨R, 1, none⟩ = some (.bool false) := hb_at hH 1 rfl; have f1 := hb_free hH 1; have HH := Lib.hid hH; clear h1 hH)
      go_ret
      rw [HS.out]
      exact ⟨rfl, ⟨_, hb_set_same HH.out 1 _⟩, hg1.trans (grown_set w1 ⟨R, 1, none⟩ _)⟩
    · have HS : RowKit.Hid (Cx.spT st = (l.take x, some (l.drop x))) := by
        apply Lib.hid
        rw [HT.out]
        show (if l.length < x then ([], none) else (l.take x, some (l.drop x))) = _
        rw [if_neg hlt]
      have hd : decide ((l.length : Int) < x) = false := by simp; omega
      have hxl : x ≤ l.length := by omega
      have hxs : (x : Int) ≤ (str l).size := by rw [hsz]; omega
      have hxs2 : x ≤ (str l).size := by omega
      have HTK := Lib.hid (str_take l x hxl)
      have HDR := Lib.hid (str_drop l x hxl)
      go_enter Try.func43, Try.ntmps43
      go_wp2_with (go_at_call 41; refine H.out.mono ?_; rintro e w1 ⟨rfl, h1, hg1⟩; have hH := h1.1; have hlm1 := Lib.hid h1.2; have c0 : w1.cell? ⟨R, 0, none⟩ = some (.string (str l)) := hb_at hH 0 rfl; have d1 : w1.cell? ⟨R, 1, none⟩ = some (.bool false) := hb_at hH 1 rfl; have f0 := hb_free hH 0; have HH := Lib.hid hH; clear h1 hH)
      go_ret
      rw [HS.out, HTK.out]
      refine ⟨rfl, ⟨?_, by rw [List.length_drop]; exact Nat.le_trans (Nat.sub_le _ _) hlm1.out⟩, hg1.trans (grown_set w1 ⟨R, 0, none⟩ _)⟩
      rw [← HDR.out]
      exact hb_set_same HH.out 0 _
end Go.Proofs.Ytfbfdkjimoomlaa
