/- Contracts: the document's Dec. -/
import Derived.Test.YtmgnbpgcbehidaaDoorA8
import Derived.Test.YtmgnbpgcbehidaaDoorS1
import Derived.Test.YtmgnbpgcbehidaaDoorC1
import Derived.Laws.BytesArg
import Derived.Outline
import Derived.Deep.DeepCutAuto
namespace Go.Proofs.YtmgnbpgcbehidaaDoor
open Go.RowKit
namespace Sv
theorem dd_step (m : Nat) : Lib.decDigits m = (if m / 10 = 0 then [] else Lib.decDigits (m / 10)) ++ [UInt8.ofNat (48 + m % 10)] := by
  by_cases h : m < 10
  · have h0 : m / 10 = 0 := by omega
    have h1 : m % 10 = m := by omega
    rw [Lib.decDigits_one h, if_pos h0, h1]; rfl
  · have h0 : ¬ m / 10 = 0 := by omega
    rw [Lib.decDigits, dif_neg h, if_neg h0]
theorem dd_len : ∀ (k m : Nat), m < 10 ^ (k + 1) → (Lib.decDigits m).length ≤ k + 1 := by
  intro k
  induction k with
  | zero => intro m h; rw [Lib.decDigits_one (by simpa using h)]; simp
  | succ k ih =>
    intro m h
    rw [dd_step, List.length_append, List.length_singleton]
    have h2 : m / 10 < 10 ^ (k + 1) := by rw [Nat.pow_succ] at h; omega
    split
    · simp
    · have := ih _ h2; omega
end Sv
theorem conv_new (w : World) (c : UInt8) (z : Int) (h : z = (c.toNat : Nat)) :
    (convert 60 9 (.slice (some ⟨w.heap.size, 0, none⟩) 1 1)).run Tryd.prog (w.alloc (.cells #[.int .u8 z] 5)) = .ok (.string ⟨#[c]⟩) (w.alloc (.cells #[.int .u8 z] 5)) := by
  subst h
  rw [run_convert_bytes_string _ 60 9 5 _ _ _ Tryd.underlying60 Tryd.underlying5 Tryd.underlying9]
  have hl : (loadCells ⟨w.heap.size, 0, none⟩ 1).run Tryd.prog (w.alloc (.cells #[.int .u8 (c.toNat : Nat)] 5)) = .ok ([((c.toNat : Nat) : Int)].map (Value.int .u8)).toArray (w.alloc (.cells #[.int .u8 (c.toNat : Nat)] 5)) := by
    have h2 := run_loadCells_list (P := Tryd.prog) (w := w.alloc (.cells #[.int .u8 (c.toNat : Nat)] 5)) ⟨w.heap.size, 0, none⟩ [.int .u8 (c.toNat : Nat)] (fun j v hj => by
      match j, hj with
      | 0, hj =>
        simp at hj
        subst hj
        exact hb_cell_add (hb_new w (.cells #[.int .u8 (c.toNat : Nat)] 5)) 0)
    exact h2
  rw [run_bytesToString _ _ 1 1 _ hl]
  simp
  rfl
def emptyV : Value → Nat
  | .string s => if s.size = 0 then 1 else 0
  | _ => 0
set_option maxRecDepth 100000 in
set_option maxHeartbeats 2000000 in
theorem dec_any (n : Nat) (hn : n ≤ 999999) (w : World) : Calls Tryd.prog 26 #[.int .i64 n] w fun e w' => e = .returned (.string ⟨(Lib.decDigits n).toArray⟩) ∧ Below w.heap.size w w' := by
  have HDL : RowKit.Hid ((Lib.decDigits n).length ≤ 6) := Lib.hid (Sv.dd_len 5 n (by omega))
  go_enter Tryd.func26, Tryd.ntmps26
  go_wp2
  go_loopw [0, 3] (fun q t wr => ∃ (m : Nat) (s : ByteArray), m ≤ 999999 ∧ q = .int .i64 m ∧ t = .string s ∧ Below w.heap.size w wr ∧ ((m = n ∧ s = ⟨#[]⟩) ∨ (0 < s.size ∧ Lib.decDigits n = (if m = 0 then [] else Lib.decDigits m) ++ s.data.toList))) (fun q t _ => 2 * (intOf q).toNat + emptyV t)
  case atStart => exact ⟨n, ⟨#[]⟩, hn, rfl, rfl, Below.refl _ _, .inl ⟨rfl, rfl⟩⟩
  case round =>
    obtain ⟨m, s, hm, rfl, rfl, hb, hc⟩ := hrel
    have HB := Lib.hid hb
    have HC := Lib.hid hc
    have hs6 : s.size ≤ 6 := by
      rcases hc with ⟨_, rfl⟩ | ⟨_, h⟩
      · exact Nat.zero_le _
      · have h2 := HDL.out
        rw [h, List.length_append, data_len] at h2
        omega
    have hz : IntKind.u8.wrap (48 + (m : Int) % 10) = 48 + (m : Int) % 10 := IntWalk.u8_in _ (by omega)
    have hcv := conv_new wr (UInt8.ofNat (48 + m % 10)) (48 + (m : Int) % 10) (by simp; omega)
    have HSTEP : RowKit.Hid (Lib.decDigits m = (if m / 10 = 0 then [] else Lib.decDigits (m / 10)) ++ [UInt8.ofNat (48 + m % 10)]) := Lib.hid (Sv.dd_step m)
    have HNEW : RowKit.Hid ((m ≠ 0 ∨ s = ⟨#[]⟩) → Lib.decDigits n = (if m / 10 = 0 then [] else Lib.decDigits (m / 10)) ++ ((⟨#[UInt8.ofNat (48 + m % 10)]⟩ : ByteArray) ++ s).data.toList) := Lib.hid (fun hor => by
      have e : ((⟨#[UInt8.ofNat (48 + m % 10)]⟩ : ByteArray) ++ s).data.toList = [UInt8.ofNat (48 + m % 10)] ++ s.data.toList := by simp
      rw [e, ← List.append_assoc, ← HSTEP.out]
      rcases HC.out with ⟨rfl, rfl⟩ | ⟨h1, h2⟩
      · exact (List.append_nil _).symm
      · rcases hor with h | h
        · rw [h2, if_neg h]
        · rw [h] at h1; exact absurd h1 (Nat.lt_irrefl 0))
    clear hb hc
    generalize hch : UInt8.ofNat (48 + m % 10) = ch at *
    clear hch
    have HNZ : RowKit.Hid (∀ x : ByteArray, ((⟨#[ch]⟩ : ByteArray) ++ x).size = x.size + 1) := Lib.hid (fun x => by rw [ByteArray.size_append, Nat.add_comm]; rfl)
    by_cases h0 : 0 < m
    · have d0 : decide (0 < (m : Int)) = true := by simp; omega
      have H0 := Lib.hid h0
      go_wp2
      refine ⟨⟨m / 10, _, by omega, by go_num, rfl, HB.out.alloc HB.out.size _, .inr ⟨by rw [HNZ.out]; omega, HNEW.out (.inl (by have := H0.out; omega))⟩⟩, ?_⟩
      have e : emptyV (.string ((⟨#[ch]⟩ : ByteArray) ++ s)) = 0 := by simp only [emptyV]; rw [HNZ.out, if_neg (by omega)]
      rw [e]
      have := H0.out
      simp [intOf]
      omega
    · obtain rfl : m = 0 := by omega
      clear h0 hz
      have hcv := conv_new wr 48 48 rfl
      by_cases hse : 0 < s.size
      · have e1 := nonempty hse
        have e2 : ¬ s.toList = [] := by intro h; rw [h] at e1; cases e1
        go_wp2
        go_ret
        refine ⟨?_, HB.out⟩
        rcases HC.out with ⟨_, h⟩ | ⟨_, h⟩
        · rw [h] at hse; exact absurd hse (Nat.lt_irrefl 0)
        · have h3 : Lib.decDigits n = s.data.toList := h
          rw [h3]; rfl
      · obtain rfl := empty_of (s := s) (by omega)
        have hn0 : n = 0 := by
          rcases HC.out with ⟨h, _⟩ | ⟨h, _⟩
          · exact h.symm
          · exact absurd h (Nat.lt_irrefl 0)
        have HN0 := Lib.hid hn0
        clear hn0
        go_wp2
        exact ⟨⟨0, _, by omega, rfl, rfl, HB.out.alloc HB.out.size _, .inr ⟨by decide, by rw [HN0.out, if_pos rfl, Lib.decDigits_one (by omega)]; rfl⟩⟩, by decide⟩
end Go.Proofs.YtmgnbpgcbehidaaDoor
