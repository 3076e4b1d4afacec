/- Texts in a row: B1 La Lb P0. -/
import Derived.Test.YtmkjalnlldpdcaaGreatDoorZT3
import Derived.Outline
import Derived.Deep.DeepCutAuto
import Derived.Test.YtmkjalnlldpdcaaGreatDoorZT1
set_option maxHeartbeats 16000000
set_option maxRecDepth 100000
namespace Go.Proofs.YtmkjalnlldpdcaaGreatDoor
open Go.RowKit
namespace Sv
def cutS (s : ByteArray) (c : UInt8) : ByteArray × ByteArray × Bool :=
 if Lib.indexByte s.data.toList c = -1 then (s, ⟨#[]⟩, false) else (s.extract 0 (Lib.indexByte s.data.toList c).toNat, s.extract ((Lib.indexByte s.data.toList c).toNat + 1) s.size, true)
def t (s : ByteArray) : ByteArray := (cutS s 46).1
def r (s : ByteArray) : ByteArray := (cutS s 46).2.1
def m (s : ByteArray) : Bool := (cutS s 46).2.2
def nb (s : ByteArray) : Bool := numB (t s).data.toList
def nv (s : ByteArray) : Nat := numV (t s).data.toList
def okS (s : ByteArray) : Bool := nb s && m s && nb (r s) && m (r s) && nb (r (r s)) && !m (r (r s))
def parseS (s : ByteArray) : V × Int := if okS s then (⟨nv s, nv (r s), nv (r (r s))⟩, 0) else (zero, 10)
theorem index_lt {l : List UInt8} {c : UInt8} {i : Nat} (h : Lib.indexByte l c = i) : i < l.length := by
 have := (Lib.indexByte_some h).1
 exact (List.getElem?_eq_some_iff.1 this).1
theorem cut_sizes (s : ByteArray) (c : UInt8) : (cutS s c).1.size ≤ s.size ∧ (cutS s c).2.1.size ≤ s.size := by
 unfold cutS
 split
 · exact ⟨Nat.le_refl _, Nat.zero_le _⟩
 · constructor <;> (simp [ByteArray.size_extract]; try omega)
end Sv
theorem cut39_any (s : ByteArray) (c : UInt8) (hm : s.size ≤ 4194304) (w : World) : Calls Tryz.prog 273 #[.string s, .string ⟨#[c]⟩] w fun e w' => e = .returned (.tuple #[.string (Sv.cutS s c).1, .string (Sv.cutS s c).2.1, .bool (Sv.cutS s c).2.2]) ∧ Drew w w' := by
 by_cases h : Lib.indexByte s.data.toList c = -1
 · have e : Sv.cutS s c = (s, ⟨#[]⟩, false) := by unfold Sv.cutS; rw [if_pos h]
   rw [e]
   exact (cut_none s c h w).mono fun e w' ⟨he, hw⟩ => ⟨he, 0, hw.symm⟩
 · obtain ⟨i, hi⟩ : ∃ i : Nat, Lib.indexByte s.data.toList c = i := by
    have := Lib.indexByte_ge s.data.toList c
    exact ⟨(Lib.indexByte s.data.toList c).toNat, by omega⟩
   have e : Sv.cutS s c = (s.extract 0 i, s.extract (i + 1) s.size, true) := by unfold Sv.cutS; rw [if_neg h, hi]; rfl
   rw [e]
   exact cut_some s c i (by have := Sv.index_lt hi; simpa using this) hm hi w
theorem cut33_any (s : ByteArray) (c : UInt8) (hm : s.size ≤ 4194304) (w : World) : Calls Tryz.prog 258 #[.string s, .string ⟨#[c]⟩] w fun e w' => e = .returned (.tuple #[.string (Sv.cutS s c).1, .string (Sv.cutS s c).2.1, .bool (Sv.cutS s c).2.2]) ∧ Drew w w' := by
 go_enter Tryz.func258, Tryz.ntmps258
 go_wp2_with (go_at_call 273; refine (cut39_any _ _ hm _).mono ?_; rintro e w' ⟨rfl, n, rfl⟩)
 go_ret3
 exact ⟨rfl, _, rfl⟩
theorem cutP_any (s : ByteArray) (hm : s.size ≤ 4194304) (w : World) : Calls Tryz.prog 258 #[.string s, .string ⟨#[46]⟩] w fun e w' => e = .returned (.tuple #[.string (Sv.t s), .string (Sv.r s), .bool (Sv.m s)]) ∧ Drew w w' := cut33_any s 46 hm w
theorem readT_any (s : ByteArray) (hm : s.size ≤ 4194304) (w : World) : Calls Tryz.prog 259 #[.string (Sv.t s)] w fun e w' => e = .returned (.tuple #[.int .i64 (Sv.nv s : Nat), .bool (Sv.nb s)]) ∧ w = w' :=
 readNumber_any (Sv.t s) (Nat.le_trans (Sv.cut_sizes s 46).1 hm) w
theorem parse_fail {s : ByteArray} (h : Sv.okS s = false) : Sv.parseS s = (Sv.zero, 10) := by unfold Sv.parseS; rw [h]; rfl
theorem parse_good {s : ByteArray} (h : Sv.okS s = true) : Sv.parseS s = (⟨Sv.nv s, Sv.nv (Sv.r s), Sv.nv (Sv.r (Sv.r s))⟩, 0) := by unfold Sv.parseS; rw [h]; rfl
theorem r_size (s : ByteArray) : (Sv.r s).size ≤ s.size := (Sv.cut_sizes s 46).2

def PR (s : ByteArray) (w wr : World) : Value → Value → Prop := fun i sv =>
 Below w.heap.size w wr ∧ wr.heap.size = w.heap.size + 2 ∧ wr.heap[w.heap.size]? = some (.cells #[.int .i64 0, .int .i64 0, .int .i64 0] 52 (0, 0)) ∧
 ((i = .int .i64 0 ∧ sv = .string s ∧ wr.heap[w.heap.size + 1]? = some (.cells #[.int .i64 0, .int .i64 0, .int .i64 0] 170 (0, 0))) ∨ (i = .int .i64 1 ∧ sv = .string (Sv.r s) ∧ wr.heap[w.heap.size + 1]? = some (.cells #[.int .i64 (Sv.nv s : Nat), .int .i64 0, .int .i64 0] 170 (0, 0)) ∧ Sv.nb s = true ∧ Sv.m s = true) ∨ (i = .int .i64 2 ∧ sv = .string (Sv.r (Sv.r s)) ∧ wr.heap[w.heap.size + 1]? = some (.cells #[.int .i64 (Sv.nv s : Nat), .int .i64 (Sv.nv (Sv.r s) : Nat), .int .i64 0] 170 (0, 0)) ∧ Sv.nb s = true ∧ Sv.m s = true ∧ Sv.nb (Sv.r s) = true ∧ Sv.m (Sv.r s) = true) ∨ (i = .int .i64 3 ∧ sv = .string (Sv.r (Sv.r (Sv.r s))) ∧ wr.heap[w.heap.size + 1]? = some (.cells #[.int .i64 (Sv.nv s : Nat), .int .i64 (Sv.nv (Sv.r s) : Nat), .int .i64 (Sv.nv (Sv.r (Sv.r s)) : Nat)] 170 (0, 0)) ∧ Sv.nb s = true ∧ Sv.m s = true ∧ Sv.nb (Sv.r s) = true ∧ Sv.m (Sv.r s) = true ∧ Sv.nb (Sv.r (Sv.r s)) = true ∧ Sv.m (Sv.r (Sv.r s)) = false))

theorem parse_any (s : ByteArray) (hm : s.size ≤ 4194304) (w : World) : Calls Tryz.prog 227 #[.string s] w fun e w' => e = .returned (nxS (Sv.parseS s)) ∧ Below w.heap.size w w' := by
 have hm1 : (Sv.r s).size ≤ 4194304 := Nat.le_trans (r_size s) hm
 have hm2 : (Sv.r (Sv.r s)).size ≤ 4194304 := Nat.le_trans (r_size _) hm1
 go_enter Tryz.func227, Tryz.ntmps227
 go_wp2
 go_loopw [0, 12] (fun sv i wr => PR s w wr i sv) (fun _ i _ => 3 - (intOf i).toNat)
 case atStart =>
  refine ⟨below2X w _ _, by simp, hb_alloc (hb_new w _) _, .inl ⟨rfl, rfl, ?_⟩⟩
  have k2 := hb_new (w.alloc (.cells #[.int .i64 0, .int .i64 0, .int .i64 0] 52)) (.cells #[.int .i64 0, .int .i64 0, .int .i64 0] 170)
  rw [World.size_alloc] at k2
  exact k2
 case round =>
  obtain ⟨hbel, hsz, hb0, hcase⟩ := hrel
  have q0 := hb_at hb0 0 rfl
  have q1 := hb_at hb0 1 rfl
  have q2 := hb_at hb0 2 rfl
  have g0 := hb_free hb0 0
  have g1 := hb_free hb0 1
  have g2 := hb_free hb0 2
  have HB := Hd hb0
  have HS := Hd hsz
  clear hb0 hsz
  rcases hcase with ⟨rfl, rfl, hb1⟩ | ⟨rfl, rfl, hb1, n0, m0⟩ | ⟨rfl, rfl, hb1, n0, m0, n1, m1⟩ | ⟨rfl, rfl, hb1, n0, m0, n1, m1, n2, m2⟩
  · have HC := Hd hb1
    have c0 := hb_at hb1 0 rfl
    have c1 := hb_at hb1 1 rfl
    have c2 := hb_at hb1 2 rfl
    have f0 := hb_free hb1 0
    have f1 := hb_free hb1 1
    have f2 := hb_free hb1 2
    clear hb1
    rcases Bool.eq_false_or_eq_true (Sv.nb s) with hn | hn
    · rcases Bool.eq_false_or_eq_true (Sv.m s) with hmm | hmm
      · have HN := Hd hn
        have HM := Hd hmm
        clear hn hmm
        go_wp2_with (first
         | (go_at_call 258; ((with_reducible refine (cutP_any s Q71 _).mono ?_); rintro e w1 ⟨rfl, nd, rfl⟩; rw [HM.out]))
         | (go_at_call 259; ((with_reducible refine (readT_any s Q71 _).mono ?_); rintro e w1 ⟨rfl, rfl⟩; rw [HN.out])))
        go_roundw
        case rel => exact ⟨(below_drewN hbel nd).setCell (by simp) _, by have := HS.out; simpa using this, hb_set_other (hb_drewN HB.out nd) _ (by simp), .inr (.inl ⟨rfl, rfl, hb_set_same (hb_drewN HC.out nd) 0 _, HN.out, HM.out⟩)⟩
        case measure => simp [intOf]
      · have HN := Hd hn
        have HM := Hd hmm
        clear hn hmm
        go_wp2_with (first
         | (go_at_call 258; ((with_reducible refine (cutP_any s Q71 _).mono ?_); rintro e w1 ⟨rfl, nd, rfl⟩; rw [HM.out]))
         | (go_at_call 259; ((with_reducible refine (readT_any s Q71 _).mono ?_); rintro e w1 ⟨rfl, rfl⟩; rw [HN.out])))
        have ok : Sv.okS s = false := by unfold Sv.okS; simp only [HN.out, HM.out]; rfl
        exact bodyPost_ret (v := .tuple #[.agg #[.int .i64 0, .int .i64 0, .int .i64 0], .int .i64 10]) Q49 rfl ⟨by rw [parse_fail ok]; rfl, ((((below_drewN hbel nd).setCell (by simp) _).setCell (by simp) _).setCell (by simp) _)⟩
    · have HN := Hd hn
      clear hn
      go_wp2_with (first
       | (go_at_call 258; ((with_reducible refine (cutP_any s Q71 _).mono ?_); rintro e w1 ⟨rfl, nd, rfl⟩))
       | (go_at_call 259; ((with_reducible refine (readT_any s Q71 _).mono ?_); rintro e w1 ⟨rfl, rfl⟩; rw [HN.out])))
      have ok : Sv.okS s = false := by unfold Sv.okS; simp only [HN.out]; rfl
      exact bodyPost_ret (v := .tuple #[.agg #[.int .i64 0, .int .i64 0, .int .i64 0], .int .i64 10]) Q49 rfl ⟨by rw [parse_fail ok]; rfl, ((((below_drewN hbel nd).setCell (by simp) _).setCell (by simp) _).setCell (by simp) _)⟩
  · have N0 := Hd n0; have M0 := Hd m0; clear n0 m0; have HC := Hd hb1
    have c0 := hb_at hb1 0 rfl
    have c1 := hb_at hb1 1 rfl
    have c2 := hb_at hb1 2 rfl
    have f0 := hb_free hb1 0
    have f1 := hb_free hb1 1
    have f2 := hb_free hb1 2
    clear hb1
    rcases Bool.eq_false_or_eq_true (Sv.nb (Sv.r s)) with hn | hn
    · rcases Bool.eq_false_or_eq_true (Sv.m (Sv.r s)) with hmm | hmm
      · have HN := Hd hn
        have HM := Hd hmm
        clear hn hmm
        go_wp2_with (first
         | (go_at_call 258; ((with_reducible refine (cutP_any (Sv.r s) Q71 _).mono ?_); rintro e w1 ⟨rfl, nd, rfl⟩; rw [HM.out]))
         | (go_at_call 259; ((with_reducible refine (readT_any (Sv.r s) Q71 _).mono ?_); rintro e w1 ⟨rfl, rfl⟩; rw [HN.out])))
        go_roundw
        case rel => exact ⟨(below_drewN hbel nd).setCell (by simp) _, by have := HS.out; simpa using this, hb_set_other (hb_drewN HB.out nd) _ (by simp), .inr (.inr (.inl ⟨rfl, rfl, hb_set_same (hb_drewN HC.out nd) 1 _, N0.out, M0.out, HN.out, HM.out⟩))⟩
        case measure => simp [intOf]
      · have HN := Hd hn
        have HM := Hd hmm
        clear hn hmm
        go_wp2_with (first
         | (go_at_call 258; ((with_reducible refine (cutP_any (Sv.r s) Q71 _).mono ?_); rintro e w1 ⟨rfl, nd, rfl⟩; rw [HM.out]))
         | (go_at_call 259; ((with_reducible refine (readT_any (Sv.r s) Q71 _).mono ?_); rintro e w1 ⟨rfl, rfl⟩; rw [HN.out])))
        have ok : Sv.okS s = false := by unfold Sv.okS; simp only [N0.out, M0.out, HN.out, HM.out]; rfl
        exact bodyPost_ret (v := .tuple #[.agg #[.int .i64 0, .int .i64 0, .int .i64 0], .int .i64 10]) Q49 rfl ⟨by rw [parse_fail ok]; rfl, ((((below_drewN hbel nd).setCell (by simp) _).setCell (by simp) _).setCell (by simp) _)⟩
    · have HN := Hd hn
      clear hn
      go_wp2_with (first
       | (go_at_call 258; ((with_reducible refine (cutP_any (Sv.r s) Q71 _).mono ?_); rintro e w1 ⟨rfl, nd, rfl⟩))
       | (go_at_call 259; ((with_reducible refine (readT_any (Sv.r s) Q71 _).mono ?_); rintro e w1 ⟨rfl, rfl⟩; rw [HN.out])))
      have ok : Sv.okS s = false := by unfold Sv.okS; simp only [N0.out, M0.out, HN.out]; rfl
      exact bodyPost_ret (v := .tuple #[.agg #[.int .i64 0, .int .i64 0, .int .i64 0], .int .i64 10]) Q49 rfl ⟨by rw [parse_fail ok]; rfl, ((((below_drewN hbel nd).setCell (by simp) _).setCell (by simp) _).setCell (by simp) _)⟩
  · have N0 := Hd n0; have M0 := Hd m0; clear n0 m0; have N1 := Hd n1; have M1 := Hd m1; clear n1 m1; have HC := Hd hb1
    have c0 := hb_at hb1 0 rfl
    have c1 := hb_at hb1 1 rfl
    have c2 := hb_at hb1 2 rfl
    have f0 := hb_free hb1 0
    have f1 := hb_free hb1 1
    have f2 := hb_free hb1 2
    clear hb1
    rcases Bool.eq_false_or_eq_true (Sv.nb (Sv.r (Sv.r s))) with hn | hn
    · rcases Bool.eq_false_or_eq_true (Sv.m (Sv.r (Sv.r s))) with hmm | hmm
      · have HN := Hd hn
        have HM := Hd hmm
        clear hn hmm
        go_wp2_with (first
         | (go_at_call 258; ((with_reducible refine (cutP_any (Sv.r (Sv.r s)) Q71 _).mono ?_); rintro e w1 ⟨rfl, nd, rfl⟩; rw [HM.out]))
         | (go_at_call 259; ((with_reducible refine (readT_any (Sv.r (Sv.r s)) Q71 _).mono ?_); rintro e w1 ⟨rfl, rfl⟩; rw [HN.out])))
        have ok : Sv.okS s = false := by unfold Sv.okS; simp only [N0.out, M0.out, N1.out, M1.out, HN.out, HM.out]; rfl
        exact bodyPost_ret (v := .tuple #[.agg #[.int .i64 0, .int .i64 0, .int .i64 0], .int .i64 10]) Q49 rfl ⟨by rw [parse_fail ok]; rfl, ((((below_drewN hbel nd).setCell (by simp) _).setCell (by simp) _).setCell (by simp) _)⟩
      · have HN := Hd hn
        have HM := Hd hmm
        clear hn hmm
        go_wp2_with (first
         | (go_at_call 258; ((with_reducible refine (cutP_any (Sv.r (Sv.r s)) Q71 _).mono ?_); rintro e w1 ⟨rfl, nd, rfl⟩; rw [HM.out]))
         | (go_at_call 259; ((with_reducible refine (readT_any (Sv.r (Sv.r s)) Q71 _).mono ?_); rintro e w1 ⟨rfl, rfl⟩; rw [HN.out])))
        go_roundw
        case rel => exact ⟨(below_drewN hbel nd).setCell (by simp) _, by have := HS.out; simpa using this, hb_set_other (hb_drewN HB.out nd) _ (by simp), .inr (.inr (.inr (⟨rfl, rfl, hb_set_same (hb_drewN HC.out nd) 2 _, N0.out, M0.out, N1.out, M1.out, HN.out, HM.out⟩)))⟩
        case measure => simp [intOf]
    · have HN := Hd hn
      clear hn
      go_wp2_with (first
       | (go_at_call 258; ((with_reducible refine (cutP_any (Sv.r (Sv.r s)) Q71 _).mono ?_); rintro e w1 ⟨rfl, nd, rfl⟩))
       | (go_at_call 259; ((with_reducible refine (readT_any (Sv.r (Sv.r s)) Q71 _).mono ?_); rintro e w1 ⟨rfl, rfl⟩; rw [HN.out])))
      have ok : Sv.okS s = false := by unfold Sv.okS; simp only [N0.out, M0.out, N1.out, M1.out, HN.out]; rfl
      exact bodyPost_ret (v := .tuple #[.agg #[.int .i64 0, .int .i64 0, .int .i64 0], .int .i64 10]) Q49 rfl ⟨by rw [parse_fail ok]; rfl, ((((below_drewN hbel nd).setCell (by simp) _).setCell (by simp) _).setCell (by simp) _)⟩
  · have N0 := Hd n0; have M0 := Hd m0; clear n0 m0; have N1 := Hd n1; have M1 := Hd m1; clear n1 m1; have N2 := Hd n2; have M2 := Hd m2; clear n2 m2; have HC := Hd hb1
    have c0 := hb_at hb1 0 rfl
    have c1 := hb_at hb1 1 rfl
    have c2 := hb_at hb1 2 rfl
    have f0 := hb_free hb1 0
    have f1 := hb_free hb1 1
    have f2 := hb_free hb1 2
    clear hb1
    have hlt : w.heap.size < wr.heap.size := by have := HS.out; omega
    go_wp2_with (go_at_call 260; ((with_reducible refine (version_any ⟨Sv.nv s, Sv.nv (Sv.r s), Sv.nv (Sv.r (Sv.r s))⟩ _).mono ?_); rintro e w1 ⟨rfl, hb⟩; obtain ⟨hc1, hf1⟩ := bcellX hb))
    have ok : Sv.okS s = true := by unfold Sv.okS; simp only [N0.out, M0.out, N1.out, M1.out, N2.out, M2.out]; rfl
    exact bodyPost_ret (v := .tuple #[.agg #[.int .i64 (Sv.nv s : Nat), .int .i64 (Sv.nv (Sv.r s) : Nat), .int .i64 (Sv.nv (Sv.r (Sv.r s)) : Nat)], .int .i64 0]) (by simp [results, Tryz.results227, go_sem, hc1, hlt, q0, q1, q2]) rfl ⟨by rw [parse_good ok], ((((hbel.trans (hb.mono (by omega))).setCell (by simp) _).setCell (by simp) _).setCell (by simp) _)⟩
end Go.Proofs.YtmkjalnlldpdcaaGreatDoor
namespace Go.Proofs.YtmkjalnlldpdcaaGreatDoor
open Go.RowKit
set_option linter.unusedSimpArgs false
set_option linter.unusedVariables false
def smB (c : UInt8) : Bool := decide (97 ≤ c.toNat) && decide (c.toNat ≤ 122)
theorem isSmall_any (c : UInt8) (w : World) : Calls Tryz.prog 218 #[.int .u8 (c.toNat : Nat)] w fun e w' => e = .returned (.bool (smB c)) ∧ w = w' := by
 have hc : c.toNat < 256 := c.toNat_lt
 have hp : smB c = (decide (97 ≤ c.toNat) && decide (c.toNat ≤ 122)) := rfl
 rw [hp]
 clear hp
 generalize c.toNat = n at *
 by_cases h1 : 97 ≤ n
 · have d1 : decide ((97 : Int) ≤ (n : Int)) = true := by simp; omega
   have e1 : decide (97 ≤ n) = true := by simpa using h1
   by_cases h2 : n ≤ 122
   · have d2 : decide ((n : Int) ≤ 122) = true := by simp; omega
     have e2 : decide (n ≤ 122) = true := by simpa using h2
     rw [e1, e2]
     clear e1 e2
     go_enter Tryz.func218, Tryz.ntmps218
     go_wp2
     go_ret
     exact ⟨rfl, rfl⟩
   · have d2 : decide ((n : Int) ≤ 122) = false := by simp; omega
     have e2 : decide (n ≤ 122) = false := by simpa using h2
     rw [e1, e2]
     clear e1 e2
     go_enter Tryz.func218, Tryz.ntmps218
     go_wp2
     go_ret
     exact ⟨rfl, rfl⟩
 · have d1 : decide ((97 : Int) ≤ (n : Int)) = false := by simp; omega
   have e1 : decide (97 ≤ n) = false := by simpa using h1
   rw [e1, Bool.false_and]
   clear e1
   go_enter Tryz.func218, Tryz.ntmps218
   go_wp2
   go_ret
   exact ⟨rfl, rfl⟩
def grB (c : UInt8) : Bool := decide (65 ≤ c.toNat) && decide (c.toNat ≤ 90)
theorem isGreat_any (c : UInt8) (w : World) : Calls Tryz.prog 221 #[.int .u8 (c.toNat : Nat)] w fun e w' => e = .returned (.bool (grB c)) ∧ w = w' := by
 have hc : c.toNat < 256 := c.toNat_lt
 have hp : grB c = (decide (65 ≤ c.toNat) && decide (c.toNat ≤ 90)) := rfl
 rw [hp]
 clear hp
 generalize c.toNat = n at *
 by_cases h1 : 65 ≤ n
 · have d1 : decide ((65 : Int) ≤ (n : Int)) = true := by simp; omega
   have e1 : decide (65 ≤ n) = true := by simpa using h1
   by_cases h2 : n ≤ 90
   · have d2 : decide ((n : Int) ≤ 90) = true := by simp; omega
     have e2 : decide (n ≤ 90) = true := by simpa using h2
     rw [e1, e2]
     clear e1 e2
     go_enter Tryz.func221, Tryz.ntmps221
     go_wp2
     go_ret
     exact ⟨rfl, rfl⟩
   · have d2 : decide ((n : Int) ≤ 90) = false := by simp; omega
     have e2 : decide (n ≤ 90) = false := by simpa using h2
     rw [e1, e2]
     clear e1 e2
     go_enter Tryz.func221, Tryz.ntmps221
     go_wp2
     go_ret
     exact ⟨rfl, rfl⟩
 · have d1 : decide ((65 : Int) ≤ (n : Int)) = false := by simp; omega
   have e1 : decide (65 ≤ n) = false := by simpa using h1
   rw [e1, Bool.false_and]
   clear e1
   go_enter Tryz.func221, Tryz.ntmps221
   go_wp2
   go_ret
   exact ⟨rfl, rfl⟩
def dgB (c : UInt8) : Bool := decide (48 ≤ c.toNat) && decide (c.toNat ≤ 57)
theorem lexDigit_any (c : UInt8) (w : World) : Calls Tryz.prog 224 #[.int .u8 (c.toNat : Nat)] w fun e w' => e = .returned (.bool (dgB c)) ∧ w = w' := by
 have hc : c.toNat < 256 := c.toNat_lt
 have hp : dgB c = (decide (48 ≤ c.toNat) && decide (c.toNat ≤ 57)) := rfl
 rw [hp]
 clear hp
 generalize c.toNat = n at *
 by_cases h1 : 48 ≤ n
 · have d1 : decide ((48 : Int) ≤ (n : Int)) = true := by simp; omega
   have e1 : decide (48 ≤ n) = true := by simpa using h1
   by_cases h2 : n ≤ 57
   · have d2 : decide ((n : Int) ≤ 57) = true := by simp; omega
     have e2 : decide (n ≤ 57) = true := by simpa using h2
     rw [e1, e2]
     clear e1 e2
     go_enter Tryz.func224, Tryz.ntmps224
     go_wp2
     go_ret
     exact ⟨rfl, rfl⟩
   · have d2 : decide ((n : Int) ≤ 57) = false := by simp; omega
     have e2 : decide (n ≤ 57) = false := by simpa using h2
     rw [e1, e2]
     clear e1 e2
     go_enter Tryz.func224, Tryz.ntmps224
     go_wp2
     go_ret
     exact ⟨rfl, rfl⟩
 · have d1 : decide ((48 : Int) ≤ (n : Int)) = false := by simp; omega
   have e1 : decide (48 ≤ n) = false := by simpa using h1
   rw [e1, Bool.false_and]
   clear e1
   go_enter Tryz.func224, Tryz.ntmps224
   go_wp2
   go_ret
   exact ⟨rfl, rfl⟩
def blB (c : UInt8) : Bool := decide (c.toNat = 32) || decide (c.toNat = 9) || decide (c.toNat = 10)
def notNl (c : UInt8) : Bool := !decide (c.toNat = 10)
def nmB (c : UInt8) : Bool := smB c || grB c || dgB c || decide (c.toNat = 95) || decide (c.toNat = 39)
theorem isNameByte_any (c : UInt8) (w : World) : Calls Tryz.prog 219 #[.int .u8 (c.toNat : Nat)] w fun e w' => e = .returned (.bool (nmB c)) ∧ w = w' := by
 have hp : nmB c = (smB c || grB c || dgB c || decide (c.toNat = 95) || decide (c.toNat = 39)) := rfl
 rw [hp]
 clear hp
 have H1 := Hd (isSmall_any c w)
 have H2 := Hd (isGreat_any c w)
 have H3 := Hd (lexDigit_any c w)
 generalize smB c = b1 at *
 generalize grB c = b2 at *
 generalize dgB c = b3 at *
 generalize c.toNat = n at *
 have hd : (decide (n = 95) = true ∧ ((n : Int) == 95) = true) ∨ (decide (n = 95) = false ∧ ((n : Int) == 95) = false) := by
  by_cases h : n = 95
  · exact .inl ⟨by simpa using h, by subst h; rfl⟩
  · exact .inr ⟨by simpa using h, by rw [beq_eq_false_iff_ne]; omega⟩
 have hf : (decide (n = 39) = true ∧ ((n : Int) == 39) = true) ∨ (decide (n = 39) = false ∧ ((n : Int) == 39) = false) := by
  by_cases h : n = 39
  · exact .inl ⟨by simpa using h, by subst h; rfl⟩
  · exact .inr ⟨by simpa using h, by rw [beq_eq_false_iff_ne]; omega⟩
 rcases hd with ⟨e1, d1⟩ | ⟨e1, d1⟩ <;> rcases hf with ⟨e2, d2⟩ | ⟨e2, d2⟩ <;> rw [e1, e2] <;> clear e1 e2 <;> cases b1 <;> cases b2 <;> cases b3
 all_goals
  go_enter Tryz.func219, Tryz.ntmps219
  go_wp2_with (first
   | (go_at_call 218; refine H1.out.mono ?_; rintro e w1 ⟨rfl, rfl⟩)
   | (go_at_call 221; refine H2.out.mono ?_; rintro e w1 ⟨rfl, rfl⟩)
   | (go_at_call 224; refine H3.out.mono ?_; rintro e w1 ⟨rfl, rfl⟩))
  go_ret
  first | exact ⟨rfl, rfl⟩ | exact ⟨congrArg (fun b => Ending.returned (.bool b)) d2, rfl⟩
def vrB (c : UInt8) : Bool := nmB c && !decide (c.toNat = 39)
theorem varByte_any (c : UInt8) (w : World) : Calls Tryz.prog 251 #[.int .u8 (c.toNat : Nat)] w fun e w' => e = .returned (.bool (vrB c)) ∧ w = w' := by
 have hp : vrB c = (nmB c && !decide (c.toNat = 39)) := rfl
 rw [hp]
 clear hp
 have H1 := Hd (isNameByte_any c w)
 generalize nmB c = b1 at *
 generalize c.toNat = n at *
 have hf : (decide (n = 39) = true ∧ ((n : Int) != 39) = false) ∨ (decide (n = 39) = false ∧ ((n : Int) != 39) = true) := by
  by_cases h : n = 39
  · exact .inl ⟨by simpa using h, by subst h; rfl⟩
  · exact .inr ⟨by simpa using h, by simp; omega⟩
 rcases hf with ⟨e2, d2⟩ | ⟨e2, d2⟩ <;> rw [e2] <;> clear e2 <;> cases b1
 all_goals
  go_enter Tryz.func251, Tryz.ntmps251
  go_wp2_with (go_at_call 219; refine H1.out.mono ?_; rintro e w1 ⟨rfl, rfl⟩)
  go_ret
  first | exact ⟨rfl, rfl⟩ | exact ⟨congrArg (fun b => Ending.returned (.bool b)) d2, rfl⟩
def cnt (p : UInt8 → Bool) (l : List UInt8) : Nat := (l.takeWhile p).length
theorem cnt_le (p : UInt8 → Bool) (l : List UInt8) : cnt p l ≤ l.length := by
 unfold cnt
 induction l with
 | nil => simp
 | cons c l ih => rw [List.takeWhile_cons]; split <;> simp <;> omega
theorem cnt_stop {p : UInt8 → Bool} : ∀ {l : List UInt8} {j : Nat}, (∀ i c, i < j → l[i]? = some c → p c = true) → (∀ c, l[j]? = some c → p c = false) → j ≤ l.length → cnt p l = j := by
 intro l
 unfold cnt
 induction l with
 | nil => intro j _ _ h; simp at h; simp [h]
 | cons c l ih =>
  intro j h1 h2 h3
  cases j with
  | zero => rw [List.takeWhile_cons, h2 c rfl]; simp
  | succ j =>
   rw [List.takeWhile_cons, h1 0 c (by omega) rfl]
   simp only [if_true, List.length_cons]
   rw [ih (j := j) (fun i c' hi hc => h1 (i + 1) c' (by omega) hc) (fun c' hc => h2 c' hc) (by simpa using h3)]
theorem at_list (s : ByteArray) (k : Nat) (h : k < s.size) : s.data.toList[k]? = some s[k] := by
 rw [Array.getElem?_toList, Array.getElem?_eq_getElem (by simpa using h)]
 rfl
theorem len_list (s : ByteArray) : s.data.toList.length = s.size := by simp
theorem countName (s : ByteArray) (hm : s.size ≤ 4194304) (w : World) : Calls Tryz.prog 214 #[.string s, .func (.func 219) #[] #[]] w fun e w' => e = .returned (.int .i64 (cnt nmB s.data.toList : Nat)) ∧ w = w' := by
 go_enter Tryz.func214, Tryz.ntmps214
 go_wp2
 go_loop [5] (fun i => ∃ k : Nat, k ≤ s.size ∧ i = .int .i64 k ∧ ∀ i c, i < k → s.data.toList[i]? = some c → nmB c = true) (fun i => s.size - (intOf i).toNat)
 case atStart => exact ⟨0, Nat.zero_le _, rfl, fun i c h => absurd h (by omega)⟩
 case round =>
  obtain ⟨k, hk, rfl, hp⟩ := hrel
  have HP := Hd hp
  clear hp
  by_cases hlt : k < s.size
  · have HX := Hd (at_list s k hlt)
    have hki : (k : Int) < (s.size : Int) := by omega
    have HC := Hd (fun w => isNameByte_any s[k] w)
    cases hb : nmB s[k]
    · have HB := Hd hb
      clear hb
      go_wp2_with (go_at_call 219; refine (HC.out _).mono ?_; rintro e w' ⟨rfl, rfl⟩; rw [HB.out])
      go_ret
      exact ⟨ret_int Q33, rfl⟩
    · have HB := Hd hb
      clear hb
      go_wp2_with (go_at_call 219; refine (HC.out _).mono ?_; rintro e w' ⟨rfl, rfl⟩; rw [HB.out])
      go_round
      case rel =>
       refine ⟨k + 1, by omega, by go_num, fun i c hi hc => ?_⟩
       by_cases h : i < k
       · exact HP.out i c h hc
       · obtain rfl : i = k := by omega
         rw [HX.out] at hc
         cases hc
         exact HB.out
      case measure => simp [intOf]; omega
  · have hki : ¬ (k : Int) < (s.size : Int) := by omega
    obtain rfl : k = s.size := by omega
    go_wp2
    go_ret
    exact ⟨ret_int Q30, rfl⟩
theorem countDigit (s : ByteArray) (hm : s.size ≤ 4194304) (w : World) : Calls Tryz.prog 214 #[.string s, .func (.func 224) #[] #[]] w fun e w' => e = .returned (.int .i64 (cnt dgB s.data.toList : Nat)) ∧ w = w' := by
 go_enter Tryz.func214, Tryz.ntmps214
 go_wp2
 go_loop [5] (fun i => ∃ k : Nat, k ≤ s.size ∧ i = .int .i64 k ∧ ∀ i c, i < k → s.data.toList[i]? = some c → dgB c = true) (fun i => s.size - (intOf i).toNat)
 case atStart => exact ⟨0, Nat.zero_le _, rfl, fun i c h => absurd h (by omega)⟩
 case round =>
  obtain ⟨k, hk, rfl, hp⟩ := hrel
  have HP := Hd hp
  clear hp
  by_cases hlt : k < s.size
  · have HX := Hd (at_list s k hlt)
    have hki : (k : Int) < (s.size : Int) := by omega
    have HC := Hd (fun w => lexDigit_any s[k] w)
    cases hb : dgB s[k]
    · have HB := Hd hb
      clear hb
      go_wp2_with (go_at_call 224; refine (HC.out _).mono ?_; rintro e w' ⟨rfl, rfl⟩; rw [HB.out])
      go_ret
      exact ⟨ret_int Q33, rfl⟩
    · have HB := Hd hb
      clear hb
      go_wp2_with (go_at_call 224; refine (HC.out _).mono ?_; rintro e w' ⟨rfl, rfl⟩; rw [HB.out])
      go_round
      case rel =>
       refine ⟨k + 1, by omega, by go_num, fun i c hi hc => ?_⟩
       by_cases h : i < k
       · exact HP.out i c h hc
       · obtain rfl : i = k := by omega
         rw [HX.out] at hc
         cases hc
         exact HB.out
      case measure => simp [intOf]; omega
  · have hki : ¬ (k : Int) < (s.size : Int) := by omega
    obtain rfl : k = s.size := by omega
    go_wp2
    go_ret
    exact ⟨ret_int Q30, rfl⟩
theorem countVar (s : ByteArray) (hm : s.size ≤ 4194304) (w : World) : Calls Tryz.prog 214 #[.string s, .func (.func 251) #[] #[]] w fun e w' => e = .returned (.int .i64 (cnt vrB s.data.toList : Nat)) ∧ w = w' := by
 go_enter Tryz.func214, Tryz.ntmps214
 go_wp2
 go_loop [5] (fun i => ∃ k : Nat, k ≤ s.size ∧ i = .int .i64 k ∧ ∀ i c, i < k → s.data.toList[i]? = some c → vrB c = true) (fun i => s.size - (intOf i).toNat)
 case atStart => exact ⟨0, Nat.zero_le _, rfl, fun i c h => absurd h (by omega)⟩
 case round =>
  obtain ⟨k, hk, rfl, hp⟩ := hrel
  have HP := Hd hp
  clear hp
  by_cases hlt : k < s.size
  · have HX := Hd (at_list s k hlt)
    have hki : (k : Int) < (s.size : Int) := by omega
    have HC := Hd (fun w => varByte_any s[k] w)
    cases hb : vrB s[k]
    · have HB := Hd hb
      clear hb
      go_wp2_with (go_at_call 251; refine (HC.out _).mono ?_; rintro e w' ⟨rfl, rfl⟩; rw [HB.out])
      go_ret
      exact ⟨ret_int Q33, rfl⟩
    · have HB := Hd hb
      clear hb
      go_wp2_with (go_at_call 251; refine (HC.out _).mono ?_; rintro e w' ⟨rfl, rfl⟩; rw [HB.out])
      go_round
      case rel =>
       refine ⟨k + 1, by omega, by go_num, fun i c hi hc => ?_⟩
       by_cases h : i < k
       · exact HP.out i c h hc
       · obtain rfl : i = k := by omega
         rw [HX.out] at hc
         cases hc
         exact HB.out
      case measure => simp [intOf]; omega
  · have hki : ¬ (k : Int) < (s.size : Int) := by omega
    obtain rfl : k = s.size := by omega
    go_wp2
    go_ret
    exact ⟨ret_int Q30, rfl⟩
theorem sfx_list (s : ByteArray) (k : Nat) : (s.extract k s.size).data.toList = s.data.toList.drop k := by
 rw [ByteArray.data_extract, Array.toList_extract]
 simp only [List.extract_eq_take_drop]
 rw [List.take_of_length_le (by rw [List.length_drop, len_list]; omega)]
theorem sfx_size (s : ByteArray) (k : Nat) : (s.extract k s.size).size = s.size - k := by
 simp [ByteArray.size_extract]
def sn (l : List UInt8) : Nat := if Lib.hasPrefix l [45, 45] then cnt notNl l else cnt blB l
theorem sn_le (l : List UInt8) : sn l ≤ l.length := by
 unfold sn
 split <;> exact cnt_le _ _
def skF : Nat → List UInt8 → Nat
 | 0, _ => 0
 | f + 1, l => if sn l = 0 then 0 else sn l + skF f (l.drop (sn l))
def skM (l : List UInt8) : Nat := skF (l.length + 1) l
theorem skF_any : ∀ (f g : Nat) (l : List UInt8), l.length < f → l.length < g → skF f l = skF g l := by
 intro f
 induction f with
 | zero => intro g l h; omega
 | succ f ih =>
  intro g l h1 h2
  cases g with
  | zero => omega
  | succ g =>
   unfold skF
   by_cases h : sn l = 0
   · rw [if_pos h, if_pos h]
   · rw [if_neg h, if_neg h]
     have := sn_le l
     rw [ih g (l.drop (sn l)) (by rw [List.length_drop]; omega) (by rw [List.length_drop]; omega)]
theorem skM_zero {l : List UInt8} (h : sn l = 0) : skM l = 0 := by
 unfold skM skF
 rw [if_pos h]
theorem skM_step {l : List UInt8} (h : sn l ≠ 0) : skM l = sn l + skM (l.drop (sn l)) := by
 have hl := sn_le l
 unfold skM
 rw [skF, if_neg h]
 rw [skF_any l.length ((l.drop (sn l)).length + 1) _ (by rw [List.length_drop]; omega) (by omega)]
theorem skM_le : ∀ (n : Nat) (l : List UInt8), l.length = n → skM l ≤ l.length := by
 intro n
 induction n using Nat.strongRecOn with
 | ind n ih =>
  intro l hn
  by_cases h : sn l = 0
  · rw [skM_zero h]; omega
  · have hl := sn_le l
    rw [skM_step h]
    have := ih (l.drop (sn l)).length (by rw [List.length_drop]; omega) _ rfl
    rw [List.length_drop] at this
    omega
end Go.Proofs.YtmkjalnlldpdcaaGreatDoor
namespace Go.Proofs.YtmkjalnlldpdcaaGreatDoor
structure Tk where
 k : Int
 s : ByteArray
 n : Int
def Tk.v (t : Tk) (a : Int) : Value := .agg #[.int .i64 t.k, .string t.s, .int .i64 t.n, .int .i64 a]
def tk0 : Tk := ⟨0, ⟨#[]⟩, 0⟩
end Go.Proofs.YtmkjalnlldpdcaaGreatDoor
