
/- Contracts: strings.Cut at a point; Parse. -/
import Derived.Test.YtpedmkdpbdhenaaGreatDoorA9
import Derived.Test.YtpedmkdpbdhenaaGreatDoorA5
import Derived.Outline
namespace Go.Proofs.YtpedmkdpbdhenaaGreatDoor
open Go.RowKit
namespace Sv
def cutS (s : ByteArray) (c : UInt8) : ByteArray × ByteArray × Bool :=
  if Lib.indexByte s.data.toList c = -1 then (s, ⟨#[]⟩, false) else (s.extract 0 (Lib.indexByte s.data.toList c).toNat, s.extract ((Lib.indexByte s.data.toList c).toNat + 1) s.size, true)
def t (s : ByteArray) : ByteArray := (cutS s 46).1
def r (s : ByteArray) : ByteArray := (cutS s 46).2.1
def m (s : ByteArray) : Bool := (cutS s 46).2.2
def nb (s : ByteArray) : Bool := numB (t s).data.toList
def nv (s : ByteArray) : Nat := numV (t s).data.toList
def okS (s : ByteArray) : Bool := nb s && m s && nb (r s) && m (r s) && nb (r (r s)) && !m (r (r s))
def parseS (s : ByteArray) : V × Int := if okS s then (⟨nv s, nv (r s), nv (r (r s))⟩, 0) else (zero, 10)
theorem index_lt {l : List UInt8} {c : UInt8} {i : Nat} (h : Lib.indexByte l c = i) : i < l.length := by
  have := (Lib.indexByte_some h).1
  exact (List.getElem?_eq_some_iff.1 this).1
theorem cut_sizes (s : ByteArray) (c : UInt8) : (cutS s c).1.size ≤ s.size ∧ (cutS s c).2.1.size ≤ s.size := by
  unfold cutS
  split
  · exact ⟨Nat.le_refl _, Nat.zero_le _⟩
  · constructor <;> (simp [ByteArray.size_extract]; try omega)
end Sv
theorem cut39_any (s : ByteArray) (c : UInt8) (hm : s.size ≤ 4194304) (w : World) : Calls Tryz.prog 89 #[.string s, .string ⟨#[c]⟩] w fun e w' => e = .returned (.tuple #[.string (Sv.cutS s c).1, .string (Sv.cutS s c).2.1, .bool (Sv.cutS s c).2.2]) ∧ Drew w w' := by
  by_cases h : Lib.indexByte s.data.toList c = -1
  · have e : Sv.cutS s c = (s, ⟨#[]⟩, false) := by unfold Sv.cutS; rw [if_pos h]
    rw [e]
    exact (cut_none s c h w).mono fun e w' ⟨he, hw⟩ => ⟨he, 0, hw.symm⟩
  · obtain ⟨i, hi⟩ : ∃ i : Nat, Lib.indexByte s.data.toList c = i := by
      have := Lib.indexByte_ge s.data.toList c
      exact ⟨(Lib.indexByte s.data.toList c).toNat, by omega⟩
    have e : Sv.cutS s c = (s.extract 0 i, s.extract (i + 1) s.size, true) := by unfold Sv.cutS; rw [if_neg h, hi]; rfl
    rw [e]
    exact cut_some s c i (by have := Sv.index_lt hi; simpa using this) hm hi w
theorem cut33_any (s : ByteArray) (c : UInt8) (hm : s.size ≤ 4194304) (w : World) : Calls Tryz.prog 76 #[.string s, .string ⟨#[c]⟩] w fun e w' => e = .returned (.tuple #[.string (Sv.cutS s c).1, .string (Sv.cutS s c).2.1, .bool (Sv.cutS s c).2.2]) ∧ Drew w w' := by
  go_enter Tryz.func76, Tryz.ntmps76
  go_wp2_with (go_at_call 89; refine (cut39_any _ _ hm _).mono ?_; rintro e w' ⟨rfl, n, rfl⟩)
  go_ret3
  exact ⟨rfl, _, rfl⟩
theorem cutP_any (s : ByteArray) (hm : s.size ≤ 4194304) (w : World) : Calls Tryz.prog 76 #[.string s, .string ⟨#[46]⟩] w fun e w' => e = .returned (.tuple #[.string (Sv.t s), .string (Sv.r s), .bool (Sv.m s)]) ∧ Drew w w' := cut33_any s 46 hm w
theorem readT_any (s : ByteArray) (hm : s.size ≤ 4194304) (w : World) : Calls Tryz.prog 77 #[.string (Sv.t s)] w fun e w' => e = .returned (.tuple #[.int .i64 (Sv.nv s : Nat), .bool (Sv.nb s)]) ∧ w = w' :=
  readNumber_any (Sv.t s) (Nat.le_trans (Sv.cut_sizes s 46).1 hm) w
theorem parse_fail {s : ByteArray} (h : Sv.okS s = false) : Sv.parseS s = (Sv.zero, 10) := by unfold Sv.parseS; rw [h]; rfl
theorem parse_good {s : ByteArray} (h : Sv.okS s = true) : Sv.parseS s = (⟨Sv.nv s, Sv.nv (Sv.r s), Sv.nv (Sv.r (Sv.r s))⟩, 0) := by unfold Sv.parseS; rw [h]; rfl
theorem r_size (s : ByteArray) : (Sv.r s).size ≤ s.size := (Sv.cut_sizes s 46).2

def PR (s : ByteArray) (w wr : World) : Value → Value → Prop := fun i sv =>
  Below w.heap.size w wr ∧ wr.heap.size = w.heap.size + 2 ∧ wr.heap[w.heap.size]? = some (.cells #[.int .i64 0, .int .i64 0, .int .i64 0] 73 (0, 0)) ∧
  ((i = .int .i64 0 ∧ sv = .string s ∧ wr.heap[w.heap.size + 1]? = some (.cells #[.int .i64 0, .int .i64 0, .int .i64 0] 92 (0, 0))) ∨ (i = .int .i64 1 ∧ sv = .string (Sv.r s) ∧ wr.heap[w.heap.size + 1]? = some (.cells #[.int .i64 (Sv.nv s : Nat), .int .i64 0, .int .i64 0] 92 (0, 0)) ∧ Sv.nb s = true ∧ Sv.m s = true) ∨ (i = .int .i64 2 ∧ sv = .string (Sv.r (Sv.r s)) ∧ wr.heap[w.heap.size + 1]? = some (.cells #[.int .i64 (Sv.nv s : Nat), .int .i64 (Sv.nv (Sv.r s) : Nat), .int .i64 0] 92 (0, 0)) ∧ Sv.nb s = true ∧ Sv.m s = true ∧ Sv.nb (Sv.r s) = true ∧ Sv.m (Sv.r s) = true) ∨ (i = .int .i64 3 ∧ sv = .string (Sv.r (Sv.r (Sv.r s))) ∧ wr.heap[w.heap.size + 1]? = some (.cells #[.int .i64 (Sv.nv s : Nat), .int .i64 (Sv.nv (Sv.r s) : Nat), .int .i64 (Sv.nv (Sv.r (Sv.r s)) : Nat)] 92 (0, 0)) ∧ Sv.nb s = true ∧ Sv.m s = true ∧ Sv.nb (Sv.r s) = true ∧ Sv.m (Sv.r s) = true ∧ Sv.nb (Sv.r (Sv.r s)) = true ∧ Sv.m (Sv.r (Sv.r s)) = false))

set_option maxRecDepth 100000 in
set_option maxHeartbeats 4000000 in
theorem parse_any (s : ByteArray) (hm : s.size ≤ 4194304) (w : World) : Calls Tryz.prog 68 #[.string s] w fun e w' => e = .returned (nx (Sv.parseS s)) ∧ Below w.heap.size w w' := by
  have hm1 : (Sv.r s).size ≤ 4194304 := Nat.le_trans (r_size s) hm
  have hm2 : (Sv.r (Sv.r s)).size ≤ 4194304 := Nat.le_trans (r_size _) hm1
  go_enter Tryz.func68, Tryz.ntmps68
  go_wp2
  go_loopw [0, 12] (fun sv i wr => PR s w wr i sv) (fun _ i _ => 3 - (intOf i).toNat)
  case atStart =>
    refine ⟨below2 w _ _, by simp, hb_alloc (hb_new w _) _, .inl ⟨rfl, rfl, ?_⟩⟩
    have k2 := hb_new (w.alloc (.cells #[.int .i64 0, .int .i64 0, .int .i64 0] 73)) (.cells #[.int .i64 0, .int .i64 0, .int .i64 0] 92)
    rw [World.size_alloc] at k2
    exact k2
  case round =>
    obtain ⟨hbel, hsz, hb0, hcase⟩ := hrel
    have q0 := hb_at hb0 0 rfl
    have q1 := hb_at hb0 1 rfl
    have q2 := hb_at hb0 2 rfl
    have g0 := hb_free hb0 0
    have g1 := hb_free hb0 1
    have g2 := hb_free hb0 2
    have HB := Lib.hid hb0
    have HS := Lib.hid hsz
    clear hb0 hsz
    rcases hcase with ⟨rfl, rfl, hb1⟩ | ⟨rfl, rfl, hb1, n0, m0⟩ | ⟨rfl, rfl, hb1, n0, m0, n1, m1⟩ | ⟨rfl, rfl, hb1, n0, m0, n1, m1, n2, m2⟩
    · have HC := Lib.hid hb1
      have c0 := hb_at hb1 0 rfl
      have c1 := hb_at hb1 1 rfl
      have c2 := hb_at hb1 2 rfl
      have f0 := hb_free hb1 0
      have f1 := hb_free hb1 1
      have f2 := hb_free hb1 2
      clear hb1
      rcases Bool.eq_false_or_eq_true (Sv.nb s) with hn | hn
      · rcases Bool.eq_false_or_eq_true (Sv.m s) with hmm | hmm
        · have HN := Lib.hid hn
          have HM := Lib.hid hmm
          clear hn hmm
          go_wp2_with (first
            | (go_at_call 76; ((with_reducible refine (cutP_any s (by assumption) _).mono ?_); rintro e w1 ⟨rfl, nd, rfl⟩; rw [HM.out]))
            | (go_at_call 77; ((with_reducible refine (readT_any s (by assumption) _).mono ?_); rintro e w1 ⟨rfl, rfl⟩; rw [HN.out])))
          go_roundw
          case rel => exact ⟨(below_drewN hbel nd).setCell (by simp) _, by have := HS.out; simpa using this, hb_set_other (hb_drewN HB.out nd) _ (by simp), .inr (.inl ⟨rfl, rfl, hb_set_same (hb_drewN HC.out nd) 0 _, HN.out, HM.out⟩)⟩
          case measure => simp [intOf]
        · have HN := Lib.hid hn
          have HM := Lib.hid hmm
          clear hn hmm
          go_wp2_with (first
            | (go_at_call 76; ((with_reducible refine (cutP_any s (by assumption) _).mono ?_); rintro e w1 ⟨rfl, nd, rfl⟩; rw [HM.out]))
            | (go_at_call 77; ((with_reducible refine (readT_any s (by assumption) _).mono ?_); rintro e w1 ⟨rfl, rfl⟩; rw [HN.out])))
          have ok : Sv.okS s = false := by unfold Sv.okS; simp only [HN.out, HM.out]; rfl
          exact bodyPost_ret (v := .tuple #[.agg #[.int .i64 0, .int .i64 0, .int .i64 0], .int .i64 10]) (by simp [results, Tryz.results68, go_sem, q0, q1, q2]) rfl ⟨by rw [parse_fail ok]; rfl, ((((below_drewN hbel nd).setCell (by simp) _).setCell (by simp) _).setCell (by simp) _)⟩
      · have HN := Lib.hid hn
        clear hn
        go_wp2_with (first
          | (go_at_call 76; ((with_reducible refine (cutP_any s (by assumption) _).mono ?_); rintro e w1 ⟨rfl, nd, rfl⟩))
          | (go_at_call 77; ((with_reducible refine (readT_any s (by assumption) _).mono ?_); rintro e w1 ⟨rfl, rfl⟩; rw [HN.out])))
        have ok : Sv.okS s = false := by unfold Sv.okS; simp only [HN.out]; rfl
        exact bodyPost_ret (v := .tuple #[.agg #[.int .i64 0, .int .i64 0, .int .i64 0], .int .i64 10]) (by simp [results, Tryz.results68, go_sem, q0, q1, q2]) rfl ⟨by rw [parse_fail ok]; rfl, ((((below_drewN hbel nd).setCell (by simp) _).setCell (by simp) _).setCell (by simp) _)⟩
    · have N0 := Lib.hid n0; have M0 := Lib.hid m0; clear n0 m0; have HC := Lib.hid hb1
      have c0 := hb_at hb1 0 rfl
      have c1 := hb_at hb1 1 rfl
      have c2 := hb_at hb1 2 rfl
      have f0 := hb_free hb1 0
      have f1 := hb_free hb1 1
      have f2 := hb_free hb1 2
      clear hb1
      rcases Bool.eq_false_or_eq_true (Sv.nb (Sv.r s)) with hn | hn
      · rcases Bool.eq_false_or_eq_true (Sv.m (Sv.r s)) with hmm | hmm
        · have HN := Lib.hid hn
          have HM := Lib.hid hmm
          clear hn hmm
          go_wp2_with (first
            | (go_at_call 76; ((with_reducible refine (cutP_any (Sv.r s) (by assumption) _).mono ?_); rintro e w1 ⟨rfl, nd, rfl⟩; rw [HM.out]))
            | (go_at_call 77; ((with_reducible refine (readT_any (Sv.r s) (by assumption) _).mono ?_); rintro e w1 ⟨rfl, rfl⟩; rw [HN.out])))
          go_roundw
          case rel => exact ⟨(below_drewN hbel nd).setCell (by simp) _, by have := HS.out; simpa using this, hb_set_other (hb_drewN HB.out nd) _ (by simp), .inr (.inr (.inl ⟨rfl, rfl, hb_set_same (hb_drewN HC.out nd) 1 _, N0.out, M0.out, HN.out, HM.out⟩))⟩
          case measure => simp [intOf]
        · have HN := Lib.hid hn
          have HM := Lib.hid hmm
          clear hn hmm
          go_wp2_with (first
            | (go_at_call 76; ((with_reducible refine (cutP_any (Sv.r s) (by assumption) _).mono ?_); rintro e w1 ⟨rfl, nd, rfl⟩; rw [HM.out]))
            | (go_at_call 77; ((with_reducible refine (readT_any (Sv.r s) (by assumption) _).mono ?_); rintro e w1 ⟨rfl, rfl⟩; rw [HN.out])))
          have ok : Sv.okS s = false := by unfold Sv.okS; simp only [N0.out, M0.out, HN.out, HM.out]; rfl
          exact bodyPost_ret (v := .tuple #[.agg #[.int .i64 0, .int .i64 0, .int .i64 0], .int .i64 10]) (by simp [results, Tryz.results68, go_sem, q0, q1, q2]) rfl ⟨by rw [parse_fail ok]; rfl, ((((below_drewN hbel nd).setCell (by simp) _).setCell (by simp) _).setCell (by simp) _)⟩
      · have HN := Lib.hid hn
        clear hn
        go_wp2_with (first
          | (go_at_call 76; ((with_reducible refine (cutP_any (Sv.r s) (by assumption) _).mono ?_); rintro e w1 ⟨rfl, nd, rfl⟩))
          | (go_at_call 77; ((with_reducible refine (readT_any (Sv.r s) (by assumption) _).mono ?_); rintro e w1 ⟨rfl, rfl⟩; rw [HN.out])))
        have ok : Sv.okS s = false := by unfold Sv.okS; simp only [N0.out, M0.out, HN.out]; rfl
        exact bodyPost_ret (v := .tuple #[.agg #[.int .i64 0, .int .i64 0, .int .i64 0], .int .i64 10]) (by simp [results, Tryz.results68, go_sem, q0, q1, q2]) rfl ⟨by rw [parse_fail ok]; rfl, ((((below_drewN hbel nd).setCell (by simp) _).setCell (by simp) _).setCell (by simp) _)⟩
    · have N0 := Lib.hid n0; have M0 := Lib.hid m0; clear n0 m0; have N1 := Lib.hid n1; have M1 := Lib.hid m1; clear n1 m1; have HC := Lib.hid hb1
      have c0 := hb_at hb1 0 rfl
      have c1 := hb_at hb1 1 rfl
      have c2 := hb_at hb1 2 rfl
      have f0 := hb_free hb1 0
      have f1 := hb_free hb1 1
      have f2 := hb_free hb1 2
      clear hb1
      rcases Bool.eq_false_or_eq_true (Sv.nb (Sv.r (Sv.r s))) with hn | hn
      · rcases Bool.eq_false_or_eq_true (Sv.m (Sv.r (Sv.r s))) with hmm | hmm
        · have HN := Lib.hid hn
          have HM := Lib.hid hmm
          clear hn hmm
          go_wp2_with (first
            | (go_at_call 76; ((with_reducible refine (cutP_any (Sv.r (Sv.r s)) (by assumption) _).mono ?_); rintro e w1 ⟨rfl, nd, rfl⟩; rw [HM.out]))
            | (go_at_call 77; ((with_reducible refine (readT_any (Sv.r (Sv.r s)) (by assumption) _).mono ?_); rintro e w1 ⟨rfl, rfl⟩; rw [HN.out])))
          have ok : Sv.okS s = false := by unfold Sv.okS; simp only [N0.out, M0.out, N1.out, M1.out, HN.out, HM.out]; rfl
          exact bodyPost_ret (v := .tuple #[.agg #[.int .i64 0, .int .i64 0, .int .i64 0], .int .i64 10]) (by simp [results, Tryz.results68, go_sem, q0, q1, q2]) rfl ⟨by rw [parse_fail ok]; rfl, ((((below_drewN hbel nd).setCell (by simp) _).setCell (by simp) _).setCell (by simp) _)⟩
        · have HN := Lib.hid hn
          have HM := Lib.hid hmm
          clear hn hmm
          go_wp2_with (first
            | (go_at_call 76; ((with_reducible refine (cutP_any (Sv.r (Sv.r s)) (by assumption) _).mono ?_); rintro e w1 ⟨rfl, nd, rfl⟩; rw [HM.out]))
            | (go_at_call 77; ((with_reducible refine (readT_any (Sv.r (Sv.r s)) (by assumption) _).mono ?_); rintro e w1 ⟨rfl, rfl⟩; rw [HN.out])))
          go_roundw
          case rel => exact ⟨(below_drewN hbel nd).setCell (by simp) _, by have := HS.out; simpa using this, hb_set_other (hb_drewN HB.out nd) _ (by simp), .inr (.inr (.inr (⟨rfl, rfl, hb_set_same (hb_drewN HC.out nd) 2 _, N0.out, M0.out, N1.out, M1.out, HN.out, HM.out⟩)))⟩
          case measure => simp [intOf]
      · have HN := Lib.hid hn
        clear hn
        go_wp2_with (first
          | (go_at_call 76; ((with_reducible refine (cutP_any (Sv.r (Sv.r s)) (by assumption) _).mono ?_); rintro e w1 ⟨rfl, nd, rfl⟩))
          | (go_at_call 77; ((with_reducible refine (readT_any (Sv.r (Sv.r s)) (by assumption) _).mono ?_); rintro e w1 ⟨rfl, rfl⟩; rw [HN.out])))
        have ok : Sv.okS s = false := by unfold Sv.okS; simp only [N0.out, M0.out, N1.out, M1.out, HN.out]; rfl
        exact bodyPost_ret (v := .tuple #[.agg #[.int .i64 0, .int .i64 0, .int .i64 0], .int .i64 10]) (by simp [results, Tryz.results68, go_sem, q0, q1, q2]) rfl ⟨by rw [parse_fail ok]; rfl, ((((below_drewN hbel nd).setCell (by simp) _).setCell (by simp) _).setCell (by simp) _)⟩
    · have N0 := Lib.hid n0; have M0 := Lib.hid m0; clear n0 m0; have N1 := Lib.hid n1; have M1 := Lib.hid m1; clear n1 m1; have N2 := Lib.hid n2; have M2 := Lib.hid m2; clear n2 m2; have HC := Lib.hid hb1
      have c0 := hb_at hb1 0 rfl
      have c1 := hb_at hb1 1 rfl
      have c2 := hb_at hb1 2 rfl
      have f0 := hb_free hb1 0
      have f1 := hb_free hb1 1
      have f2 := hb_free hb1 2
      clear hb1
      have hlt : w.heap.size < wr.heap.size := by have := HS.out; omega
      go_wp2_with (go_at_call 78; ((with_reducible refine (version_any ⟨Sv.nv s, Sv.nv (Sv.r s), Sv.nv (Sv.r (Sv.r s))⟩ _).mono ?_); rintro e w1 ⟨rfl, hb⟩; obtain ⟨hc1, hf1⟩ := bcell hb))
      have ok : Sv.okS s = true := by unfold Sv.okS; simp only [N0.out, M0.out, N1.out, M1.out, N2.out, M2.out]; rfl
      exact bodyPost_ret (v := .tuple #[.agg #[.int .i64 (Sv.nv s : Nat), .int .i64 (Sv.nv (Sv.r s) : Nat), .int .i64 (Sv.nv (Sv.r (Sv.r s)) : Nat)], .int .i64 0]) (by simp [results, Tryz.results68, go_sem, hc1, hlt, q0, q1, q2]) rfl ⟨by rw [parse_good ok], ((((hbel.trans (hb.mono (by omega))).setCell (by simp) _).setCell (by simp) _).setCell (by simp) _)⟩
end Go.Proofs.YtpedmkdpbdhenaaGreatDoor
