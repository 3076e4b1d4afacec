/- Answers: their bytes, and what bytes are read as (mathematics). -/
import Derived.Test.YtfbfdkjimoomlaaM4
import Derived.Test.YtfbfdkjimoomlaaD5
namespace Go.Proofs.Ytfbfdkjimoomlaa
open Go.RowKit
namespace Cm
open Cx Sv
structure An where
  e : Int
  t : Int
  g : Int
  k : Int
  cn : ByteArray
  cc : ByteArray
  ps : List Pn
  tx : ByteArray
  y : Bool
  r1 : Int
  r2 : Int
  r3 : Int
  r4 : Int
abbrev noAn : An := ⟨0, 0, 0, 0, ⟨#[]⟩, ⟨#[]⟩, [], ⟨#[]⟩, false, 0, 0, 0, 0⟩
def zg (n : Int) : List UInt8 := uv (zig n)
def pinZ (x : Pn) : List UInt8 := txt x.p ++ (zg x.v.a ++ (zg x.v.b ++ zg x.v.c))
def yn (b : Bool) : Nat := if b then 1 else 0
def toldB (a : An) : List UInt8 :=
  zg a.e ++ (zg a.t ++ (zg a.g ++ (zg a.k ++ (txt a.cn ++ (txt a.cc ++ (uv a.ps.length ++ (many pinZ a.ps ++ (txt a.tx ++ (uv (yn a.y) ++ (zg a.r1 ++ (zg a.r2 ++ (zg a.r3 ++ zg a.r4))))))))))))
def i64 (n : Int) : Prop := -9223372036854775808 ≤ n ∧ n ≤ 9223372036854775807
def pinOk (x : Pn) : Prop := x.p.size < 18446744073709551616 ∧ i64 x.v.a ∧ i64 x.v.b ∧ i64 x.v.c
structure anOk (a : An) : Prop where
  e : i64 a.e
  t : i64 a.t
  g : i64 a.g
  k : i64 a.k
  cn : a.cn.size < 18446744073709551616
  cc : a.cc.size < 18446744073709551616
  pl : a.ps.length < 18446744073709551616
  ps : ∀ x ∈ a.ps, pinOk x
  tx : a.tx.size < 18446744073709551616
  r1 : i64 a.r1
  r2 : i64 a.r2
  r3 : i64 a.r3
  r4 : i64 a.r4
def rdZ (st : St) : Pn × St :=
  (⟨str (spT st).1, ⟨zag (spU (spT st).2).1, zag (spU (spU (spT st).2).2).1, zag (spU (spU (spU (spT st).2).2).2).1⟩⟩, (spU (spU (spU (spT st).2).2).2).2)
def rdPs : Nat → St → List Pn × St
  | 0, st => ([], st)
  | _ + 1, none => ([], none)
  | n + 1, some l => ((rdZ (some l)).1 :: (rdPs n (rdZ (some l)).2).1, (rdPs n (rdZ (some l)).2).2)
theorem spU_zg (n : Int) (h : i64 n) (r : List UInt8) : spU (some (zg n ++ r)) = (zig n, some r) := spU_uv _ (zig_lt n h.1 h.2) r
theorem rdZ_pinZ (x : Pn) (h : pinOk x) (r : List UInt8) : rdZ (some (pinZ x ++ r)) = (x, some r) := by
  obtain ⟨p, ⟨a, b, c⟩⟩ := x
  obtain ⟨hp, ha, hb, hc⟩ := h
  simp only at hp ha hb hc
  have e : pinZ ⟨p, ⟨a, b, c⟩⟩ ++ r = txt p ++ (zg a ++ (zg b ++ (zg c ++ r))) := by unfold pinZ; simp only [List.append_assoc]
  rw [e]
  unfold rdZ
  rw [spT_txt p hp]
  simp only
  rw [spU_zg a ha]
  simp only
  rw [spU_zg b hb]
  simp only
  rw [spU_zg c hc, str_of, zag_zig, zag_zig, zag_zig]
theorem rdPs_many (ps : List Pn) (h : ∀ x ∈ ps, pinOk x) (r : List UInt8) : rdPs ps.length (some (many pinZ ps ++ r)) = (ps, some r) := by
  induction ps with
  | nil => rfl
  | cons x l ih =>
    have e : many pinZ (x :: l) ++ r = pinZ x ++ (many pinZ l ++ r) := by show (pinZ x ++ many pinZ l) ++ r = _; rw [List.append_assoc]
    rw [e]
    show ((rdZ _).1 :: (rdPs l.length (rdZ _).2).1, (rdPs l.length (rdZ _).2).2) = _
    rw [rdZ_pinZ x (h x (by simp))]
    simp only
    rw [ih (fun y hy => h y (by simp [hy]))]
theorem zg_zag {st : St} {r : List UInt8} (h : (spU st).2 = some r) : st = some (zg (zag (spU st).1) ++ r) := by
  unfold zg
  rw [zig_zag]
  exact (spU_back h).1
theorem zag_i64 (st : St) : i64 (zag (spU st).1) := zag_in _ (spU_lt st)
theorem rdZ_back {st : St} {r : List UInt8} (h : (rdZ st).2 = some r) : st = some (pinZ (rdZ st).1 ++ r) := by
  have h3 : (spU (spU (spU (spT st).2).2).2).2 = some r := h
  have e3 := zg_zag h3
  have e2 := zg_zag e3
  have e1 := zg_zag e2
  have e0 := spT_back e1
  have e : pinZ (rdZ st).1 ++ r = txt (str (spT st).1) ++ (zg (rdZ st).1.v.a ++ (zg (rdZ st).1.v.b ++ (zg (rdZ st).1.v.c ++ r))) := by unfold pinZ; simp only [List.append_assoc]; rfl
  rw [e, txt_str, List.append_assoc]
  exact e0
theorem rdPs_back (n : Nat) {st : St} {r : List UInt8} (h : (rdPs n st).2 = some r) : (rdPs n st).1.length = n ∧ st = some (many pinZ (rdPs n st).1 ++ r) := by
  induction n generalizing st with
  | zero => exact ⟨rfl, h⟩
  | succ n ih =>
    cases st with
    | none => cases h
    | some l =>
      have h' : (rdPs n (rdZ (some l)).2).2 = some r := h
      obtain ⟨h1, h2⟩ := ih h'
      refine ⟨by show (_ :: _).length = _; simp [h1], ?_⟩
      have h3 := rdZ_back h2
      have e : many pinZ (rdPs (n + 1) (some l)).1 ++ r = pinZ (rdZ (some l)).1 ++ (many pinZ (rdPs n (rdZ (some l)).2).1 ++ r) := by
        show (pinZ _ ++ many pinZ _) ++ r = _; rw [List.append_assoc]
      rw [e]
      exact h3
/-- The states of a reader, one behind the other. -/
structure Ra where
  s1 : St
  s2 : St
  s3 : St
  s4 : St
  s5 : St
  s6 : St
  s7 : St
  s8 : St
  s9 : St
  s10 : St
  s11 : St
  s12 : St
  s13 : St
  s14 : St
def ra (l : List UInt8) : Ra :=
  let s1 := (spU (some l)).2
  let s2 := (spU s1).2
  let s3 := (spU s2).2
  let s4 := (spU s3).2
  let s5 := (spT s4).2
  let s6 := (spT s5).2
  let s7 := (spU s6).2
  let s8 := (rdPs (spU s6).1 s7).2
  let s9 := (spT s8).2
  let s10 := (spU s9).2
  let s11 := (spU s10).2
  let s12 := (spU s11).2
  let s13 := (spU s12).2
  ⟨s1, s2, s3, s4, s5, s6, s7, s8, s9, s10, s11, s12, s13, (spU s13).2⟩
def rawA (l : List UInt8) : An :=
  ⟨zag (spU (some l)).1, zag (spU (ra l).s1).1, zag (spU (ra l).s2).1, zag (spU (ra l).s3).1, str (spT (ra l).s4).1, str (spT (ra l).s5).1, (rdPs (spU (ra l).s6).1 (ra l).s7).1, str (spT (ra l).s8).1,
    (spU (ra l).s9).1 == 1, zag (spU (ra l).s10).1, zag (spU (ra l).s11).1, zag (spU (ra l).s12).1, zag (spU (ra l).s13).1⟩
def decA (l : List UInt8) : An × Int := if stDone (ra l).s14 = true ∧ (spU (ra l).s9).1 ≤ 1 then (rawA l, 0) else (noAn, 8)
theorem decA_back (l : List UInt8) (hd : stDone (ra l).s14 = true) (hy : (spU (ra l).s9).1 ≤ 1) : l = toldB (rawA l) := by
  have d := stDone_some hd
  have e13 := zg_zag (st := (ra l).s13) d
  have e12 := zg_zag (st := (ra l).s12) e13
  have e11 := zg_zag (st := (ra l).s11) e12
  have e10 := zg_zag (st := (ra l).s10) e11
  have e9 := (spU_back (st := (ra l).s9) e10).1
  have e8 := spT_back (st := (ra l).s8) e9
  have e7 := rdPs_back (spU (ra l).s6).1 (st := (ra l).s7) e8
  have e6 := (spU_back (st := (ra l).s6) e7.2).1
  have e5 := spT_back (st := (ra l).s5) e6
  have e4 := spT_back (st := (ra l).s4) e5
  have e3 := zg_zag (st := (ra l).s3) e4
  have e2 := zg_zag (st := (ra l).s2) e3
  have e1 := zg_zag (st := (ra l).s1) e2
  have e0 := zg_zag (st := some l) e1
  have ey : yn (rawA l).y = (spU (ra l).s9).1 := by
    show yn ((spU (ra l).s9).1 == 1) = _
    unfold yn
    rcases Nat.lt_or_ge (spU (ra l).s9).1 1 with h | h
    · have : (spU (ra l).s9).1 = 0 := by omega
      rw [this]; rfl
    · have : (spU (ra l).s9).1 = 1 := by omega
      rw [this]; rfl
  have el : (rawA l).ps.length = (spU (ra l).s6).1 := e7.1
  unfold toldB
  rw [ey, el]
  have et : ∀ x : List UInt8, ∀ r, txt (str x) ++ r = uv x.length ++ (x ++ r) := fun x r => by rw [txt_str, List.append_assoc]
  have e0' := Option.some.inj e0
  rw [List.append_nil] at e0'
  show l = zg (zag (spU (some l)).1) ++ (zg (zag (spU (ra l).s1).1) ++ (zg (zag (spU (ra l).s2).1) ++ (zg (zag (spU (ra l).s3).1) ++ (txt (str (spT (ra l).s4).1) ++ (txt (str (spT (ra l).s5).1) ++ (uv (spU (ra l).s6).1 ++ (many pinZ (rdPs (spU (ra l).s6).1 (ra l).s7).1 ++ (txt (str (spT (ra l).s8).1) ++ (uv (spU (ra l).s9).1 ++ (zg (zag (spU (ra l).s10).1) ++ (zg (zag (spU (ra l).s11).1) ++ (zg (zag (spU (ra l).s12).1) ++ zg (zag (spU (ra l).s13).1)))))))))))))
  rw [et, et, et]
  exact e0'
theorem rawA_toldB (a : An) (h : anOk a) : rawA (toldB a) = a ∧ (ra (toldB a)).s14 = some [] ∧ (spU (ra (toldB a)).s9).1 = yn a.y := by
  have hy : yn a.y < 18446744073709551616 := by unfold yn; split <;> decide
  have u1 := spU_zg a.e h.e
  have u2 := spU_zg a.t h.t
  have u3 := spU_zg a.g h.g
  have u4 := spU_zg a.k h.k
  have u5 := spT_txt a.cn h.cn
  have u6 := spT_txt a.cc h.cc
  have u7 := spU_uv a.ps.length h.pl
  have u8 := rdPs_many a.ps h.ps
  have u9 := spT_txt a.tx h.tx
  have u10 := spU_uv (yn a.y) hy
  have u11 := spU_zg a.r1 h.r1
  have u12 := spU_zg a.r2 h.r2
  have u13 := spU_zg a.r3 h.r3
  have u14 := spU_zg a.r4 h.r4 []
  rw [List.append_nil] at u14
  have hyb : (yn a.y == 1) = a.y := by cases a.y <;> rfl
  unfold rawA ra toldB
  simp only [u1, u2, u3, u4, u5, u6, u7, u8, u9, u10, u11, u12, u13, u14, zag_zig, str_of, hyb, and_self]
theorem decA_toldB (a : An) (h : anOk a) : decA (toldB a) = (a, 0) := by
  obtain ⟨h1, h2, h3⟩ := rawA_toldB a h
  unfold decA
  rw [h1, h2, h3, if_pos]
  refine ⟨rfl, ?_⟩
  unfold yn; split <;> decide
end Cm
end Go.Proofs.Ytfbfdkjimoomlaa
