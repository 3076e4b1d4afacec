/- Commands: which are right, their bytes, and what bytes are read as (mathematics). -/
import Derived.Test.YtfbfdkjimoomlaaE3
import Derived.Test.YtfbfdkjimoomlaaP1
import Derived.Test.YtfbfdkjimoomlaaD3
namespace Go.Proofs.Ytfbfdkjimoomlaa
open Go.RowKit

namespace Cm
open Cx Sv
structure Pn where
  p : ByteArray
  v : V
deriving DecidableEq
structure Cmd where
  k : Int
  a : Pn
  b : Pn
  s : ByteArray
abbrev zV : V := ⟨0, 0, 0⟩
abbrev noPin : Pn := ⟨⟨#[]⟩, zV⟩
abbrev noCmd : Cmd := ⟨0, noPin, noPin, ⟨#[]⟩⟩
def hasPin (k : Int) : Bool := decide (1 ≤ k ∧ k ≤ 8 ∧ k ≠ 7)
def hasOther (k : Int) : Bool := decide (k = 6)
def hasSource (k : Int) : Bool := decide (k = 1 ∨ k = 7)
noncomputable def okPin (x : Pn) : Bool := pkgB x.p.data.toList && right x.v
noncomputable def okOne (k : Int) (x : Pn) : Bool := pkgB x.p.data.toList && (if k = 5 then decide (x.v = zV) else right x.v)
/-- What may be. -/
noncomputable def Right (c : Cmd) : Prop :=
  (1 ≤ c.k ∧ c.k ≤ 10) ∧ (hasPin c.k = true → okOne c.k c.a = true) ∧ (hasPin c.k = false → c.a = noPin) ∧
  (hasOther c.k = true → okPin c.b = true) ∧ (hasOther c.k = false → c.b = noPin) ∧ c.s.size ≤ 20000 ∧ (hasSource c.k = false → c.s = ⟨#[]⟩)
noncomputable def rightB (c : Cmd) : Bool := by classical exact decide (Right c)
theorem right_yes {c : Cmd} (h : Right c) : rightB c = true := by unfold rightB; simp [h]
theorem right_no {c : Cmd} (h : ¬ Right c) : rightB c = false := by unfold rightB; simp [h]
theorem right_of {c : Cmd} (h : rightB c = true) : Right c := by unfold rightB at h; simpa using h
theorem right_not {c : Cmd} (h : rightB c = false) : ¬ Right c := by unfold rightB at h; simpa using h

def num (n : Int) : List UInt8 := uv n.toNat
def pinB (x : Pn) : List UInt8 := txt x.p ++ (num x.v.a ++ (num x.v.b ++ num x.v.c))
def encB (c : Cmd) : List UInt8 := num c.k ++ ((if hasPin c.k then pinB c.a else []) ++ ((if hasOther c.k then pinB c.b else []) ++ (if hasSource c.k then txt c.s else [])))

/-- A state of a reader: what is left, or nothing any more. -/
abbrev St := Option (List UInt8)
def rdPin (f : Nat → Int) (st : St) : Pn × St :=
  (⟨str (spT st).1, ⟨f (spU (spT st).2).1, f (spU (spU (spT st).2).2).1, f (spU (spU (spU (spT st).2).2).2).1⟩⟩, (spU (spU (spU (spT st).2).2).2).2)
def rd1 (f : Nat → Int) (k : Int) (st : St) : Pn × St := if hasPin k then rdPin f st else (noPin, st)
def rd2 (f : Nat → Int) (k : Int) (st : St) : Pn × St := if hasOther k then rdPin f st else (noPin, st)
def rd3 (k : Int) (st : St) : ByteArray × St := if hasSource k then (str (spT st).1, (spT st).2) else (⟨#[]⟩, st)
def raw (f : Nat → Int) (l : List UInt8) : Cmd × St :=
  (⟨f (spU (some l)).1, (rd1 f (f (spU (some l)).1) (spU (some l)).2).1, (rd2 f (f (spU (some l)).1) (rd1 f (f (spU (some l)).1) (spU (some l)).2).2).1,
    (rd3 (f (spU (some l)).1) (rd2 f (f (spU (some l)).1) (rd1 f (f (spU (some l)).1) (spU (some l)).2).2).2).1⟩,
    (rd3 (f (spU (some l)).1) (rd2 f (f (spU (some l)).1) (rd1 f (f (spU (some l)).1) (spU (some l)).2).2).2).2)
noncomputable def dec (f : Nat → Int) (l : List UInt8) : Cmd × Int :=
  if stDone (raw f l).2 = true ∧ rightB (raw f l).1 = true then ((raw f l).1, 0) else (noCmd, 8)

/-- The program's way to make an int of a number; the document's. -/
def wr64 (x : Nat) : Int := if x < 9223372036854775808 then x else (x : Int) - 18446744073709551616
def sm (x : Nat) : Int := if 1000000 < x then 1000000 else x

theorem spU_uv (x : Nat) (hx : x < 18446744073709551616) (r : List UInt8) : spU (some (uv x ++ r)) = (x, some r) := by
  show (if (getUv (uv x ++ r)).2 = 0 then (0, none) else ((getUv (uv x ++ r)).1, some ((uv x ++ r).drop (getUv (uv x ++ r)).2))) = _
  rw [get_uv x hx, if_neg (by rw [uv_len]; omega), List.drop_left]
theorem spT_txt (s : ByteArray) (hs : s.size < 18446744073709551616) (r : List UInt8) : spT (some (txt s ++ r)) = (s.data.toList, some r) := by
  have e : spT (some (txt s ++ r)) = match spU (some (txt s ++ r)) with
    | (_, none) => ([], none)
    | (y, some l) => if l.length < y then ([], none) else (l.take y, some (l.drop y)) := rfl
  rw [e, txt, List.append_assoc, spU_uv _ hs]
  have hsz : s.data.toList.length = s.size := by simp
  show (if (s.data.toList ++ r).length < s.size then ([], none) else ((s.data.toList ++ r).take s.size, some ((s.data.toList ++ r).drop s.size))) = _
  rw [if_neg (by rw [List.length_append]; omega), ← hsz, List.take_left, List.drop_left]
theorem spU_back {st : St} {r : List UInt8} (h : (spU st).2 = some r) : st = some (uv (spU st).1 ++ r) ∧ (spU st).1 < 18446744073709551616 := by
  cases st with
  | none => cases h
  | some l =>
    have e : spU (some l) = if (getUv l).2 = 0 then (0, none) else ((getUv l).1, some (l.drop (getUv l).2)) := rfl
    rw [e] at h ⊢
    by_cases h0 : (getUv l).2 = 0
    · rw [if_pos h0] at h; cases h
    · rw [if_neg h0] at h ⊢
      obtain ⟨h1, h2, h3, h4⟩ := getUv_back l h0
      obtain rfl := Option.some.inj h
      exact ⟨by rw [← h1], h3⟩
theorem spT_back {st : St} {r : List UInt8} (h : (spT st).2 = some r) : st = some (uv (spT st).1.length ++ ((spT st).1 ++ r)) := by
  have e : spT st = match spU st with
    | (_, none) => ([], none)
    | (y, some l) => if l.length < y then ([], none) else (l.take y, some (l.drop y)) := rfl
  rcases hp : spU st with ⟨y, st2⟩
  rw [hp] at e
  cases st2 with
  | none => rw [e] at h; cases h
  | some l =>
    have e2 : spT st = if l.length < y then ([], none) else (l.take y, some (l.drop y)) := e
    by_cases hl : l.length < y
    · rw [e2, if_pos hl] at h; cases h
    · rw [if_neg hl] at e2
      rw [e2] at h ⊢
      obtain rfl := Option.some.inj h
      have hb := spU_back (st := st) (r := l) (by rw [hp])
      rw [hp] at hb
      rw [hb.1]
      simp only
      rw [List.take_append_drop, List.length_take, Nat.min_eq_left (by omega)]
theorem txt_str (l : List UInt8) : txt (str l) = uv l.length ++ l := by rw [txt, str_size, str_list]
theorem stDone_some {st : St} (h : stDone st = true) : st = some [] := by
  cases st with
  | none => cases h
  | some l =>
    have : l.isEmpty = true := h
    cases l with
    | nil => rfl
    | cons a r => cases this
/-- What a state was, if something is left behind the next call: nothing comes back of a bad one. -/
theorem rdPin_back {f : Nat → Int} {st : St} {r : List UInt8} (h : (rdPin f st).2 = some r) :
    ∃ a b c : Nat, (rdPin f st).1 = ⟨str (spT st).1, ⟨f a, f b, f c⟩⟩ ∧ st = some (txt (str (spT st).1) ++ (uv a ++ (uv b ++ (uv c ++ r)))) ∧ a < 18446744073709551616 ∧ b < 18446744073709551616 ∧ c < 18446744073709551616 := by
  refine ⟨_, _, _, rfl, ?_⟩
  have h3 : (spU (spU (spU (spT st).2).2).2).2 = some r := h
  obtain ⟨e3, l3⟩ := spU_back h3
  obtain ⟨e2, l2⟩ := spU_back e3
  obtain ⟨e1, l1⟩ := spU_back e2
  have e0 := spT_back e1
  refine ⟨?_, l1, l2, l3⟩
  rw [txt_str, List.append_assoc]
  exact e0
theorem wr_small {x : Nat} (h : x ≤ 999999) : wr64 x = x := by unfold wr64; rw [if_pos (by omega)]
theorem sm_small {x : Nat} (h : x ≤ 999999) : sm x = x := by unfold sm; rw [if_neg (by omega)]
theorem wr_big {x : Nat} (h : ¬ x ≤ 999999) (hx : x < 18446744073709551616) : wr64 x < 0 ∨ 999999 < wr64 x := by unfold wr64; split <;> omega
theorem sm_big {x : Nat} (h : ¬ x ≤ 999999) : 999999 < sm x := by unfold sm; split <;> omega
/-- A way to make an int that is faithful for small numbers, and shows all others. -/
def Fine (f : Nat → Int) : Prop := (∀ x, x ≤ 999999 → f x = x) ∧ ∀ x, ¬ x ≤ 999999 → x < 18446744073709551616 → f x < 0 ∨ 999999 < f x
theorem fine_wr : Fine wr64 := ⟨fun _ h => wr_small h, fun _ h hx => wr_big h hx⟩
theorem fine_sm : Fine sm := ⟨fun _ h => sm_small h, fun _ h _ => .inr (sm_big h)⟩
theorem Fine.of_in {f : Nat → Int} (hf : Fine f) {x : Nat} (hx : x < 18446744073709551616) (h : 0 ≤ f x ∧ f x ≤ 999999) : x ≤ 999999 ∧ f x = x := by
  by_cases hs : x ≤ 999999
  · exact ⟨hs, hf.1 x hs⟩
  · have := hf.2 x hs hx; omega
theorem spU_lt64 (st : St) : (spU st).1 < 18446744073709551616 := spU_lt st

theorem right_v {v : V} (h : right v = true) : (0 ≤ v.a ∧ v.a ≤ 999999) ∧ (0 ≤ v.b ∧ v.b ≤ 999999) ∧ 0 ≤ v.c ∧ v.c ≤ 999999 := by
  unfold right at h
  simp only [Bool.and_eq_true] at h
  exact ⟨inR_yes h.1.1, inR_yes h.1.2, inR_yes h.2⟩
theorem okOne_v {k : Int} {x : Pn} (h : okOne k x = true) : (0 ≤ x.v.a ∧ x.v.a ≤ 999999) ∧ (0 ≤ x.v.b ∧ x.v.b ≤ 999999) ∧ 0 ≤ x.v.c ∧ x.v.c ≤ 999999 := by
  unfold okOne at h
  rw [Bool.and_eq_true] at h
  by_cases hk : k = 5
  · rw [if_pos hk] at h
    have := of_decide_eq_true h.2
    rw [this]
    decide
  · rw [if_neg hk] at h
    exact right_v h.2
theorem okPin_v {x : Pn} (h : okPin x = true) : (0 ≤ x.v.a ∧ x.v.a ≤ 999999) ∧ (0 ≤ x.v.b ∧ x.v.b ≤ 999999) ∧ 0 ≤ x.v.c ∧ x.v.c ≤ 999999 := by
  unfold okPin at h
  rw [Bool.and_eq_true] at h
  exact right_v h.2
theorem pkg_len {s : ByteArray} (h : pkgB s.data.toList = true) : s.size ≤ 20 := by
  unfold pkgB at h
  have h2 : PkgP s.data.toList := by simpa using h
  have := h2.2.1
  simpa using this

/-- The read pin leads back to its bytes. -/
theorem rdPin_bytes {f : Nat → Int} (hf : Fine f) {st : St} {r : List UInt8} (h : (rdPin f st).2 = some r)
    (hv : (0 ≤ (rdPin f st).1.v.a ∧ (rdPin f st).1.v.a ≤ 999999) ∧ (0 ≤ (rdPin f st).1.v.b ∧ (rdPin f st).1.v.b ≤ 999999) ∧ 0 ≤ (rdPin f st).1.v.c ∧ (rdPin f st).1.v.c ≤ 999999) :
    st = some (pinB (rdPin f st).1 ++ r) := by
  obtain ⟨a, b, c, e, hst, la, lb, lc⟩ := rdPin_back h
  rw [e] at hv ⊢
  obtain ⟨va, vb, vc⟩ := hv
  obtain ⟨_, ea⟩ := hf.of_in la va
  obtain ⟨_, eb⟩ := hf.of_in lb vb
  obtain ⟨_, ec⟩ := hf.of_in lc vc
  unfold pinB num
  simp only [ea, eb, ec, Int.toNat_natCast, List.append_assoc]
  exact hst
theorem rdPin_pinB {f : Nat → Int} (hf : Fine f) (x : Pn) (hv : (0 ≤ x.v.a ∧ x.v.a ≤ 999999) ∧ (0 ≤ x.v.b ∧ x.v.b ≤ 999999) ∧ 0 ≤ x.v.c ∧ x.v.c ≤ 999999) (hp : x.p.size < 18446744073709551616) (r : List UInt8) :
    rdPin f (some (pinB x ++ r)) = (x, some r) := by
  obtain ⟨p, ⟨a, b, c⟩⟩ := x
  obtain ⟨⟨a0, a1⟩, ⟨b0, b1⟩, c0, c1⟩ := hv
  simp only at a0 a1 b0 b1 c0 c1 hp
  have e : pinB ⟨p, ⟨a, b, c⟩⟩ ++ r = txt p ++ (uv a.toNat ++ (uv b.toNat ++ (uv c.toNat ++ r))) := by
    unfold pinB num; simp only [List.append_assoc]
  rw [e]
  unfold rdPin
  rw [spT_txt p hp]
  simp only
  rw [spU_uv _ (by omega)]
  simp only
  rw [spU_uv _ (by omega)]
  simp only
  rw [spU_uv _ (by omega), str_of, hf.1 _ (by omega), hf.1 _ (by omega), hf.1 _ (by omega)]
  simp only
  rw [Int.toNat_of_nonneg a0, Int.toNat_of_nonneg b0, Int.toNat_of_nonneg c0]

theorem right_k {c : Cmd} (h : Right c) : 1 ≤ c.k ∧ c.k ≤ 10 := h.1
theorem raw_encB {f : Nat → Int} (hf : Fine f) (c : Cmd) (h : Right c) : raw f (encB c) = (c, some []) := by
  obtain ⟨⟨k1, k2⟩, hp1, hp0, ho1, ho0, hs, hs0⟩ := h
  obtain ⟨k, a, b, s⟩ := c
  simp only at k1 k2 hp1 hp0 ho1 ho0 hs hs0
  have hk : f (spU (some (encB ⟨k, a, b, s⟩))).1 = k ∧ (spU (some (encB ⟨k, a, b, s⟩))).2 = some ((if hasPin k then pinB a else []) ++ ((if hasOther k then pinB b else []) ++ (if hasSource k then txt s else []))) := by
    unfold encB num
    rw [spU_uv _ (by simp only; omega)]
    exact ⟨by simp only; rw [hf.1 _ (by omega)]; omega, rfl⟩
  unfold raw
  rw [hk.1, hk.2]
  have h1 : ∀ r, rd1 f k (some ((if hasPin k then pinB a else []) ++ r)) = (a, some r) := by
    intro r
    unfold rd1
    cases hb : hasPin k with
    | true =>
      rw [if_pos rfl, if_pos rfl]
      have hok := hp1 hb
      have hpk : pkgB a.p.data.toList = true := by unfold okOne at hok; rw [Bool.and_eq_true] at hok; exact hok.1
      exact rdPin_pinB hf a (okOne_v hok) (by have := pkg_len hpk; omega) r
    | false => rw [if_neg (by decide), if_neg (by decide), hp0 hb]; rfl
  have h2 : ∀ r, rd2 f k (some ((if hasOther k then pinB b else []) ++ r)) = (b, some r) := by
    intro r
    unfold rd2
    cases hb : hasOther k with
    | true =>
      rw [if_pos rfl, if_pos rfl]
      have hok := ho1 hb
      have hpk : pkgB b.p.data.toList = true := by unfold okPin at hok; rw [Bool.and_eq_true] at hok; exact hok.1
      exact rdPin_pinB hf b (okPin_v hok) (by have := pkg_len hpk; omega) r
    | false => rw [if_neg (by decide), if_neg (by decide), ho0 hb]; rfl
  have h3 : rd3 k (some (if hasSource k then txt s else [])) = (s, some []) := by
    unfold rd3
    cases hb : hasSource k with
    | true =>
      rw [if_pos rfl, if_pos rfl]
      have e := spT_txt s (by omega) []
      rw [List.append_nil] at e
      rw [e, str_of]
    | false => rw [if_neg (by decide), if_neg (by decide), hs0 hb]
  rw [h1, h2, h3]
theorem dec_encB {f : Nat → Int} (hf : Fine f) (c : Cmd) (h : Right c) : dec f (encB c) = (c, 0) := by
  unfold dec
  rw [raw_encB hf c h, if_pos ⟨rfl, right_yes h⟩]

theorem raw_back {f : Nat → Int} (hf : Fine f) (l : List UInt8) (hd : stDone (raw f l).2 = true) (hr : Right (raw f l).1) : l = encB (raw f l).1 := by
  have hd2 := stDone_some hd
  obtain ⟨⟨k1, k2⟩, hp1, hp0, ho1, ho0, hs, hs0⟩ := hr
  have hk : (raw f l).1.k = f (spU (some l)).1 := rfl
  have hx := spU_lt64 (some l)
  obtain ⟨_, ek⟩ := hf.of_in hx (by rw [← hk]; omega)
  have e3 : (rd3 (f (spU (some l)).1) (rd2 f (f (spU (some l)).1) (rd1 f (f (spU (some l)).1) (spU (some l)).2).2).2).2 = some [] := hd2
  have s3 : (rd2 f (f (spU (some l)).1) (rd1 f (f (spU (some l)).1) (spU (some l)).2).2).2 = some (if hasSource (raw f l).1.k then txt (raw f l).1.s else []) := by
    show _ = some (if hasSource (f (spU (some l)).1) then txt (rd3 (f (spU (some l)).1) (rd2 f (f (spU (some l)).1) (rd1 f (f (spU (some l)).1) (spU (some l)).2).2).2).1 else [])
    revert e3
    generalize (rd2 f (f (spU (some l)).1) (rd1 f (f (spU (some l)).1) (spU (some l)).2).2).2 = st
    intro e3
    unfold rd3 at e3 ⊢
    cases hb : hasSource (f (spU (some l)).1) with
    | true =>
      rw [hb, if_pos rfl] at e3
      rw [if_pos rfl, if_pos rfl]
      have := spT_back (st := st) (r := []) e3
      rw [List.append_nil] at this
      rw [txt_str]
      exact this
    | false =>
      rw [hb, if_neg (by decide)] at e3
      rw [if_neg (by decide)]
      exact e3
  have s2 : (rd1 f (f (spU (some l)).1) (spU (some l)).2).2 = some ((if hasOther (raw f l).1.k then pinB (raw f l).1.b else []) ++ (if hasSource (raw f l).1.k then txt (raw f l).1.s else [])) := by
    have hb1 : hasOther (f (spU (some l)).1) = true → okPin (rd2 f (f (spU (some l)).1) (rd1 f (f (spU (some l)).1) (spU (some l)).2).2).1 = true := ho1
    show _ = some ((if hasOther (f (spU (some l)).1) then pinB (rd2 f (f (spU (some l)).1) (rd1 f (f (spU (some l)).1) (spU (some l)).2).2).1 else []) ++ _)
    revert s3
    generalize (if hasSource (raw f l).1.k then txt (raw f l).1.s else []) = r
    revert hb1
    generalize (rd1 f (f (spU (some l)).1) (spU (some l)).2).2 = st
    intro hb1 s3
    unfold rd2 at s3 hb1 ⊢
    cases hb : hasOther (f (spU (some l)).1) with
    | true =>
      rw [hb, if_pos rfl] at s3
      simp only [hb, if_pos] at hb1
      rw [if_pos rfl, if_pos rfl]
      exact rdPin_bytes hf s3 (okPin_v (hb1 trivial))
    | false =>
      rw [hb, if_neg (by decide)] at s3
      rw [if_neg (by decide)]
      exact s3
  have s1 : (spU (some l)).2 = some ((if hasPin (raw f l).1.k then pinB (raw f l).1.a else []) ++ ((if hasOther (raw f l).1.k then pinB (raw f l).1.b else []) ++ (if hasSource (raw f l).1.k then txt (raw f l).1.s else []))) := by
    have hb1 : hasPin (f (spU (some l)).1) = true → okOne (f (spU (some l)).1) (rd1 f (f (spU (some l)).1) (spU (some l)).2).1 = true := hp1
    show _ = some ((if hasPin (f (spU (some l)).1) then pinB (rd1 f (f (spU (some l)).1) (spU (some l)).2).1 else []) ++ _)
    revert s2
    generalize ((if hasOther (raw f l).1.k then pinB (raw f l).1.b else []) ++ (if hasSource (raw f l).1.k then txt (raw f l).1.s else [])) = r
    revert hb1
    generalize (spU (some l)).2 = st
    intro hb1 s2
    unfold rd1 at s2 hb1 ⊢
    cases hb : hasPin (f (spU (some l)).1) with
    | true =>
      rw [hb, if_pos rfl] at s2
      simp only [hb, if_pos] at hb1
      rw [if_pos rfl, if_pos rfl]
      exact rdPin_bytes hf s2 (okOne_v (hb1 trivial))
    | false =>
      rw [hb, if_neg (by decide)] at s2
      rw [if_neg (by decide)]
      exact s2
  have s0 := (spU_back s1).1
  have e : num (raw f l).1.k = uv (spU (some l)).1 := by unfold num; rw [hk, ek, Int.toNat_natCast]
  unfold encB
  rw [e]
  exact Option.some.inj s0

theorem dec_yes {f : Nat → Int} (hf : Fine f) {l : List UInt8} {c : Cmd} (h : Right c) (hl : l = encB c) : dec f l = (c, 0) := by rw [hl]; exact dec_encB hf c h
theorem dec_cases {f : Nat → Int} (hf : Fine f) (l : List UInt8) : (∃ c, Right c ∧ l = encB c ∧ dec f l = (c, 0)) ∨ ((∀ c, Right c → l ≠ encB c) ∧ dec f l = (noCmd, 8)) := by
  by_cases h : stDone (raw f l).2 = true ∧ rightB (raw f l).1 = true
  · have hr := right_of h.2
    exact .inl ⟨_, hr, raw_back hf l h.1 hr, by unfold dec; rw [if_pos h]⟩
  · refine .inr ⟨fun c hc hl => h ?_, by unfold dec; rw [if_neg h]⟩
    rw [hl, raw_encB hf c hc]
    exact ⟨rfl, right_yes hc⟩
/-- Both ways to make an int lead to the same command. -/
theorem dec_both {f g : Nat → Int} (hf : Fine f) (hg : Fine g) (l : List UInt8) : dec f l = dec g l := by
  rcases dec_cases hf l with ⟨c, hc, hl, e⟩ | ⟨hn, e⟩
  · rw [e, dec_yes hg hc hl]
  · rcases dec_cases hg l with ⟨c, hc, hl, _⟩ | ⟨_, e2⟩
    · exact absurd hl (hn c hc)
    · rw [e, e2]
end Cm
end Go.Proofs.Ytfbfdkjimoomlaa
