
/- Writer's String: on none, on an empty one, on pieces. -/
import Derived.Test.YtfbfdkjimoomlaaD3
import Derived.Deep.OwnRows
import Derived.Laws.CopyOwn
import Derived.Deep.RegionLaw
import Derived.Deep.QuietTactic
import Derived.BigQuiet
namespace Go.Proofs.Ytfbfdkjimoomlaa
open Go.RowKit

theorem wString_nil (w : World) : Calls Try.prog 26 #[.pointer none] w fun e w' => e = .returned (.string ⟨#[]⟩) ∧ w = w' := by
  go_enter Try.func26, Try.ntmps26
  go_wp2
  go_ret
  exact ⟨rfl, rfl⟩

theorem wString_empty (B : Nat) (w : World) (hW : Wr w B []) : Calls Try.prog 26 #[.pointer (some ⟨B, 0, none⟩)] w fun e w' => e = .returned (.string ⟨#[]⟩) ∧ w = w' := by
  obtain ⟨p, hB, hc⟩ := hW
  obtain rfl : p = .pointer none := hc
  have c0 : w.cell? ⟨B, 0, none⟩ = some (.pointer none) := hb_at hB 0 rfl
  go_enter Try.func26, Try.ntmps26
  go_wp2
  go_ret
  exact ⟨rfl, rfl⟩

/-- What has been copied: all behind the pieces that are left. -/
def Put (w0 : World) (B O : Nat) (all : List UInt8) (p : Value) (wr : World) : Prop :=
  ∃ (qs : List (List UInt8)) (tail : List UInt8) (cur : List Value), Chain w0 B p qs ∧ (∀ c ∈ qs, c ≠ []) ∧ all = text qs ++ tail ∧ wr.heap[O]? = some (.cells cur.toArray 5 (0, 0)) ∧ cur.length = all.length ∧ cur.drop (text qs).length = bytesV tail ∧ Below O w0 wr

def endOf (p : Value) (w : World) : Nat := match p with
  | .pointer (some a) => (match w.cell? ⟨a.block, 2, none⟩ with | some v => (intOf v).toNat | none => 0)
  | _ => 0
theorem endOf_chain {w : World} {B : Nat} {p : Value} {qs : List (List UInt8)} (h : Chain w B p qs) : endOf p w = (text qs).length := by
  cases qs with
  | nil =>
    obtain rfl : p = .pointer none := h
    rfl
  | cons c r =>
    obtain ⟨X, q, bv, rfl, hX, hh, ho, hc2⟩ := h
    have d2 : w.cell? ⟨X, 2, none⟩ = some (.int .i64 ((text (c :: r)).length : Nat)) := hb_at hh 2 rfl
    simp only [endOf, d2, intOf]
    simp
theorem made_len (n : Nat) : (madeCells #[Value.int .u8 0] n).size = n := by
  simp [madeCells]

set_option maxHeartbeats 2000000 in
theorem wString_some (B : Nat) (c : List UInt8) (r : List (List UInt8)) (w : World) (hW : Wr w B (c :: r)) (hne : ∀ d ∈ c :: r, d ≠ []) (hN : (text (c :: r)).length ≤ 1000000) :
    Calls Try.prog 26 #[.pointer (some ⟨B, 0, none⟩)] w fun e w' => e = .returned (.string (str (text (c :: r)))) ∧ Below w.heap.size w w' := by
  obtain ⟨p, hB, hCh⟩ := hW
  obtain ⟨X, q, bv, rfl, hX, hh, ho, hc2⟩ := id hCh
  have c0 : w.cell? ⟨B, 0, none⟩ = some (.pointer (some ⟨X, 0, none⟩)) := hb_at hB 0 rfl
  have d2 : w.cell? ⟨X, 2, none⟩ = some (.int .i64 ((text (c :: r)).length : Nat)) := hb_at hh 2 rfl
  have HC := Lib.hid hCh
  have hBl := hb_lt hB
  have hXl := hb_lt hh
  clear hB hh ho hc2 hCh
  obtain ⟨i0, hi, hz0, hz1, hz2⟩ := info_parts info5
  go_enter Try.func26, Try.ntmps26
  go_wp2_with (go_loud (refine wpList_make_row _ rfl (.tmp 20) (.tmp 20) 93 rfl 5 i0 (.int .u8 0) Try.underlying93 hi hz0 hz1 rfl _ _ (text (c :: r)).length rfl rfl (by rw [hz2]; omega) (by omega) ?_))
  go_loopw [4] (fun p wr => Put w B w.heap.size (text (c :: r)) p wr) (fun p wr => endOf p w)
  case atStart =>
    refine ⟨c :: r, [], (madeCells #[.int .u8 0] (text (c :: r)).length).toList, HC.out, hne, by simp, ?_, by simp [made_len], ?_, below_alloc w _⟩
    · rw [Array.toArray_toList]; exact hb_new w _
    · rw [List.drop_of_length_le (by simp [made_len])]; rfl
  case round =>
    obtain ⟨qs, tail, cur, hch, hne2, hall, hO, hcl, hdr, hbel⟩ := hrel
    cases qs with
    | nil =>
      obtain rfl : u4 = .pointer none := hch
      have hcur : cur = bytesV (text (c :: r)) := by rw [hall]; simpa [text] using hdr
      have hcv := conv_cells wr ⟨w.heap.size, 0, none⟩ (text (c :: r)).length (text (c :: r)) (fun j v hv => by
        rw [hb_cell_add hO, hcur]
        simpa using hv)
      have HX := Lib.hid hcur
      clear hall hO hcl hdr hcur
      go_wp2
      go_ret
      exact ⟨rfl, hbel⟩
    | cons d qs2 =>
      have HE := Lib.hid (endOf_chain hch)
      obtain ⟨Y, q2, bv2, rfl, hY, hh0, ho0, hc2⟩ := id hch
      have HE2 := Lib.hid (endOf_chain hc2)
      have HC2 := Lib.hid hc2
      have hYl := hb_lt hh0
      have hh := hb_below hh0 hbel hYl
      have ho := own_kept (w' := wr) ho0 (fun g x hg hx => hb_below hx hbel (hb_lt hx))
      have E0 : RowKit.Hid (w.cell? ⟨Y, 0, none⟩ = some q2) := hb_at hh0 0 rfl
      have HNE2 := Lib.hid hne2
      clear ho0 hh0 hc2
      have hd : d ≠ [] := hne2 d (by simp)
      have hdl : 0 < d.length := List.length_pos_iff.mpr hd
      obtain ⟨g, cp, rfl, hcells, hge⟩ : ∃ g cp, bv2 = .slice (some ⟨g, 0, none⟩) d.length cp ∧ (∀ j v, (bytesV d)[j]? = some v → wr.cell? ((⟨g, 0, none⟩ : Addr).add j) = some v) ∧ d.length ≤ cp := by
        rcases ho.2 with ⟨_, h0⟩ | ⟨g, cap, cur2, rfl, hb, hg, hcp, r⟩
        · omega
        · exact ⟨g, cap, rfl, fun j v hv => ho.cells rfl j v hv, hcp⟩
      have htx : (text (d :: qs2)).length = (text qs2).length + d.length := by rw [text, List.length_append]
      have hal : (text (c :: r)).length = (text qs2).length + d.length + tail.length := by rw [hall, List.length_append, htx]
      have e0 : wr.cell? ⟨Y, 0, none⟩ = some q2 := hb_at hh 0 rfl
      have e1 : wr.cell? ⟨Y, 1, none⟩ = some (.slice (some ⟨g, 0, none⟩) d.length cp) := hb_at hh 1 rfl
      have e2 : wr.cell? ⟨Y, 2, none⟩ = some (.int .i64 (((text qs2).length + d.length : Nat) : Int)) := by rw [← htx]; exact hb_at hh 2 rfl
      have HCh := Lib.hid hch
      have HO := Lib.hid hO
      have HCL := Lib.hid hcl
      have HA := Lib.hid hall
      have HD := Lib.hid hdr
      have HAL := Lib.hid hal
      have HTX := Lib.hid htx
      have hb1 : (text qs2).length + d.length ≤ (text (c :: r)).length := by omega
      clear hch hO hcl hall hdr hal htx ho hh hne2
      generalize hN2 : (text (c :: r)).length = N at *
      generalize hM2 : (text qs2).length = M at *
      have HN2 := Lib.hid hN2
      have HM2 := Lib.hid hM2
      clear hN2 hM2
      go_wp2
      have hMN : ¬ N = M := by omega
      have hM0 : 0 ≤ (M : Int) := by omega
      have hM1 : (M : Int) ≤ N := by omega
      have ew : IntKind.i64.wrap (M : Int) = (M : Int) := IntWalk.i64_in _ (by omega)
      go_region_law (refine step_copy_splice rfl (.tmp 43) (.tmp 47) 93 93 rfl 5 Try.underlying93 (by kernel_rfl) _ _ _ _ _ _ rfl rfl w.heap.size M cur 5 HO.out (bytesV d) (by rw [bytesV_len]; exact (Nat.min_eq_left (by omega)).symm) (fun _ => ⟨rfl, _, rfl, hcells⟩) (by rw [bytesV_len, HCL.out]; omega) (bytesV_one _) w.heap.size w hbel.drew (Nat.le_refl _) ?_; intro w4 hg4 hb4)
      all_goals
        have e4 : w4.cell? ⟨Y, 0, none⟩ = some q2 := by rw [hb4.cell (p := ⟨Y, 0, none⟩) hYl]; exact E0.out
        go_wp2
        go_roundw
        case rel =>
          refine ⟨qs2, d ++ tail, _, HC2.out, fun c hc => HNE2.out c (by simp [hc]), ?_, hg4.out, ?_, ?_, hb4⟩
          · rw [HA.out, text, List.append_assoc]
          · rw [length_splice _ _ _ (by rw [bytesV_len, HCL.out]; omega), HCL.out, HN2.out]
          · rw [HM2.out, bytesV_append, ← HD.out, HTX.out]
            have hml : (List.take M cur).length = M := by rw [List.length_take, HCL.out]; omega
            rw [splice, List.drop_append_of_le_length (by omega), List.drop_of_length_le (by omega), List.nil_append, bytesV_len]
        case measure =>
          rw [HE.out, HE2.out, HTX.out]
          omega
end Go.Proofs.Ytfbfdkjimoomlaa
