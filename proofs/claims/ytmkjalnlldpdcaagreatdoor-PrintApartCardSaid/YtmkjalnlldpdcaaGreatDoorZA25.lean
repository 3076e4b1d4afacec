/- Texts in a row: Vn Xa Xb Xc. -/
import Derived.ChangeOld
import Derived.ChangeSlices
import Derived.Deep.Fields
import Derived.Deep.Slices
import Derived.LaidMore
import Derived.Lib.AppendIntMem
import Derived.Lib.LaidTab
import Derived.Lib.SmallJoins
import Derived.OpenShut
import Derived.ProofKit
import Derived.ShutString
import Derived.Stop.Joined
import Derived.Test.YtmkjalnlldpdcaaGreatDoorZA9
import Derived.Test.YtmkjalnlldpdcaaGreatDoorZA12
import Derived.Test.YtmkjalnlldpdcaaGreatDoorZA16
import Derived.Test.YtmkjalnlldpdcaaGreatDoorZA17
import Derived.Test.YtmkjalnlldpdcaaGreatDoorZA8
import Derived.Test.YtmkjalnlldpdcaaGreatDoorZA13
import Derived.Test.YtmkjalnlldpdcaaGreatDoorZA19
/- A term by value, its numbers being ints. -/
namespace Go.Proofs.YtmkjalnlldpdcaaGreatDoor
open Go.ChangeShapes Go.WideShapes Go.ChangeAt Go.RowKit Go.Joins Go.Deep
set_option linter.unusedSimpArgs false
set_option linter.unusedVariables false
/-- All numbers are ints. -/
def Nf : Nat → Tm → Prop
  | 0, _ => True
  | d + 1, .mk _ _ _ N kids => (-9223372036854775808 ≤ N ∧ N ≤ 9223372036854775807) ∧ ∀ x ∈ kids, Nf d x
theorem gd_of : ∀ (d : Nat) (t : Tm), Nm d t → Nf d t → Gd d t := by
  intro d
  induction d with
  | zero => intro t _ _; trivial
  | succ d ih =>
    intro t h1 h2
    obtain ⟨k, p, n, N, kids⟩ := t
    obtain ⟨a1, a2, a3⟩ := h1
    obtain ⟨b1, b2⟩ := h2
    exact ⟨a1, a2, b1, fun x hx => ih x (a3 x hx) (b2 x hx)⟩
section
set_option maxRecDepth 100000
variable {H : Type} {enc : TypeId × Value → H} {W : World} {base : Nat} {v : Value} {d : DataW H} {p : List MemPlace}
theorem trod_termC2 : ∀ (fuel : Nat) (cs : List Value) (x : DataW H × List MemPlace), DataW.trod enc Tryz.prog W 0 (fun _ => true) true fuel 24 cs = some x →
    ∃ (k : Int) (p n : ByteArray) (N : Int) (s : Value) (t : Tm), cs = [.int .i64 k, .string p, .string n, .int .i64 N, s] ∧ IsC W fuel (tv k p n N s) t ∧ ∀ D, Nf D t := by
  intro fuel
  induction fuel using Nat.strongRecOn with
  | _ fuel ih =>
    intro cs x h
    obtain ⟨xs, m, rfl, _, hl, hx5, hf⟩ := DataW.trod_struct Tryz.underlying24 h
    rw [cells24] at hl
    match cs, hl with
    | [c0, c1, c2, c3, c4], _ =>
      have hx5' : xs.length = 5 := hx5
      have g0 : DataW.trod enc Tryz.prog W 0 (fun _ => true) true m 3 (([c0, c1, c2, c3, c4].drop 0).take (Tryz.prog.cellsOf 3)) = xs[0]? := hf 0 _ rfl
      have g1 : DataW.trod enc Tryz.prog W 0 (fun _ => true) true m 9 (([c0, c1, c2, c3, c4].drop 1).take (Tryz.prog.cellsOf 9)) = xs[1]? := hf 1 _ rfl
      have g2 : DataW.trod enc Tryz.prog W 0 (fun _ => true) true m 9 (([c0, c1, c2, c3, c4].drop 2).take (Tryz.prog.cellsOf 9)) = xs[2]? := hf 2 _ rfl
      have g3 : DataW.trod enc Tryz.prog W 0 (fun _ => true) true m 3 (([c0, c1, c2, c3, c4].drop 3).take (Tryz.prog.cellsOf 3)) = xs[3]? := hf 3 _ rfl
      have g4 : DataW.trod enc Tryz.prog W 0 (fun _ => true) true m 22 (([c0, c1, c2, c3, c4].drop 4).take (Tryz.prog.cellsOf 22)) = xs[4]? := hf 4 _ rfl
      rw [cells3, List.getElem?_eq_getElem (by omega)] at g0 g3
      rw [cells9, List.getElem?_eq_getElem (by omega)] at g1 g2
      rw [cells22, List.getElem?_eq_getElem (by omega)] at g4
      obtain ⟨k, e0, _, _⟩ := DataW.trod_int Tryz.underlying3 g0
      obtain ⟨p, e1, _, hp⟩ := DataW.trod_string Tryz.underlying9 g1
      obtain ⟨n, e2, _, hn⟩ := DataW.trod_string Tryz.underlying9 g2
      obtain ⟨N, e3, _, w3⟩ := DataW.trod_int Tryz.underlying3 g3
      have b3 := bounds_i64 w3
      simp at e0 e1 e2 e3
      subst e0 e1 e2 e3
      suffices hk : ∃ kids, KidsC W m c4 kids ∧ (∀ q l c, c4 = .slice q l c → l ≤ c) ∧ ∀ x ∈ kids, ∀ D, Nf D x by
        obtain ⟨kids, hk, hc, hnf⟩ := hk
        refine ⟨k, p, n, N, c4, .mk k p n N kids, rfl, IsC.shut hp hn hk hc, fun D => ?_⟩
        cases D with
        | zero => trivial
        | succ D => exact ⟨b3, fun x hx => hnf x hx D⟩
      rcases DataW.trod_slice Tryz.underlying22 g4 with ⟨hcs, _⟩ | ⟨a, len, cap, elems, rest, n', hm', hcs, _, _, hl2, hm, hlen, hel, _, _⟩
      · simp at hcs
        subst hcs
        exact ⟨[], ⟨none, 0, rfl, Nat.zero_le _, fun i y hy => by simp at hy⟩, fun q l c e => by cases e; exact Nat.le_refl _, fun x hx => by simp at hx⟩
      · simp at hcs
        subst hcs
        by_cases hz : len = 0
        · subst hz
          exact ⟨[], ⟨some a, cap, rfl, Nat.zero_le _, fun i y hy => by simp at hy⟩, fun q l c e => by cases e; exact Nat.zero_le _, fun x hx => by simp at hx⟩
        have hi : ∀ i, i < len → ∃ cs' y, W.cells? 0 (a.add (i * 5)) 5 = some cs' ∧ DataW.trod enc Tryz.prog W 0 (fun _ => true) true n' 24 cs' = some y := fun i hi => by
          have he := hel i hi
          rw [cells24, List.getElem?_eq_getElem (by omega)] at he
          obtain ⟨cs', h1, h2⟩ := Option.bind_eq_some_iff.1 he
          exact ⟨cs', _, h1, h2⟩
        obtain ⟨b1, o1, rfl⟩ : ∃ b1 o1, a = ⟨b1, o1, none⟩ := by
          obtain ⟨cs, _, hc, _⟩ := hi 0 (by omega)
          obtain ⟨_, hcl, hat⟩ := World.cells?_some hc
          have h0 := hat 0 (by omega)
          rw [List.getElem?_eq_getElem (by omega)] at h0
          have h1 := World.cell?_spot h0
          obtain ⟨b1, o1, sp⟩ := a
          have h2 : sp = none := by simpa [Addr.add] using h1
          exact ⟨b1, o1, by rw [h2]⟩
        obtain ⟨l, hll, hpl⟩ := pick_list (P := fun i (t : Tm) => ∃ k' p' n2 N' s', TAt W b1 (o1 + i * 5) k' p' n2 N' s' ∧ IsC W m (tv k' p' n2 N' s') t ∧ ∀ D, Nf D t) len (fun i hi2 => by
          obtain ⟨cs, y, hc, ht⟩ := hi i hi2
          obtain ⟨_, hcl, hat⟩ := World.cells?_some hc
          obtain ⟨k', p', n2, N', s', t, rfl, ht2, hnf2⟩ := ih n' (by omega) cs _ ht
          have a0 := hat 0 (by omega)
          have a1 := hat 1 (by omega)
          have a2 := hat 2 (by omega)
          have a3 := hat 3 (by omega)
          have a4 := hat 4 (by omega)
          simp only [Addr.add_lit, Nat.add_zero] at a0 a1 a2 a3 a4
          exact ⟨t, k', p', n2, N', s', ⟨a0, a1, a2, a3, a4⟩, ht2.more (by omega), hnf2⟩)
        refine ⟨l, ⟨some ⟨b1, o1, none⟩, cap, by rw [hll], by omega, fun i y hy => ?_⟩, fun q l' c e => by cases e; omega, fun x hx => ?_⟩
        · obtain ⟨k', p', n2, N', s', h1, h2, _⟩ := hpl i y hy
          exact ⟨b1, o1, k', p', n2, N', s', rfl, h1, h2⟩
        · obtain ⟨i, hi', he⟩ := List.getElem_of_mem hx
          obtain ⟨k', p', n2, N', s', h1, h2, h3⟩ := hpl i x (by rw [List.getElem?_eq_getElem hi', he])
          exact h3
theorem arg_c2 (hval : Value.okWide Tryz.prog W .any base 24 v) (h : DataW.Trod enc Tryz.prog W 0 (fun _ => true) true 24 v d p) : ∃ (m : Nat) (t : Tm), IsC W m v t ∧ ∀ D, Nf D t := by
  obtain ⟨cs, rfl, hsz⟩ := okWide_struct Tryz.underlying24 hval
  obtain ⟨fuel, hf⟩ := h
  obtain ⟨k, p', n, N, s, t, e, ht⟩ := trod_termC2 fuel _ _ hf
  obtain ⟨l⟩ := cs
  simp [Value.cells] at e
  subst e
  exact ⟨fuel, t, ht⟩
end
end Go.Proofs.YtmkjalnlldpdcaaGreatDoor
/- Which tokens a term's text has; sources that are cut into tokens. -/
namespace Go.Proofs.YtmkjalnlldpdcaaGreatDoor
open Go.RowKit
set_option linter.unusedSimpArgs false
set_option linter.unusedVariables false
theorem Lexed.shift {l : List UInt8} {i : Nat} {r : List (Tk × Nat)} (h : Lexed l i r) : ∀ j, ∃ r', Lexed l j r' ∧ r'.map Prod.fst = r.map Prod.fst := by
  induction h with
  | nil i => intro j; exact ⟨[], .nil j, rfl⟩
  | cons l i n m t r h h0 hm hr ih =>
    intro j
    obtain ⟨r', h1, h2⟩ := ih (j + n + m)
    exact ⟨(t, j) :: r', .cons l j n m t r' h h0 hm h1, by rw [List.map_cons, List.map_cons, h2]⟩
/-- A source, behind its blanks, has these tokens. -/
def LexS (l : List UInt8) (q : List Tk) : Prop := ∃ r, Lexed (l.drop (skM l)) (skM l) r ∧ r.map Prod.fst = q
theorem LexS.at {l : List UInt8} {q : List Tk} (h : LexS l q) (j : Nat) : ∃ r, Lexed (l.drop (skM l)) j r ∧ r.map Prod.fst = q := by
  obtain ⟨r, h1, h2⟩ := h
  obtain ⟨r', h3, h4⟩ := h1.shift j
  exact ⟨r', h3, h4.trans h2⟩
theorem LexS.of {l : List UInt8} {q : List Tk} {j : Nat} {r : List (Tk × Nat)} (h : Lexed (l.drop (skM l)) j r) (hq : r.map Prod.fst = q) : LexS l q := by
  obtain ⟨r', h3, h4⟩ := h.shift (skM l)
  exact ⟨r', h3, h4.trans hq⟩
theorem Lexed.few {l : List UInt8} {i : Nat} {r : List (Tk × Nat)} (h : Lexed l i r) : r.length ≤ l.length := by
  induction h with
  | nil i => exact Nat.le_refl _
  | cons l i n m t r h h0 hm hr ih =>
    have hle := first_le h
    rw [List.length_drop] at ih
    rw [List.length_cons]
    omega
theorem LexS.few {l : List UInt8} {q : List Tk} (h : LexS l q) : q.length ≤ l.length := by
  obtain ⟨r, h1, rfl⟩ := h
  have := h1.few
  rw [List.length_drop] at this
  rw [List.length_map]
  omega
theorem LexS.lexM {s : ByteArray} {q : List Tk} (h : LexS s.data.toList q) (hs : s.size ≤ 20000) (hq : q.length ≤ 6000) : ∃ r, Proofs.YtmkjalnlldpdcaaGreatDoor.lexM s = (r, 0, 0) ∧ r.map Prod.fst = q := by
  obtain ⟨r, h1, h2⟩ := h
  have hl : r.length = q.length := by rw [← h2, List.length_map]
  exact ⟨r, lexM_of hs h1 (by omega), h2⟩
/-- Too many tokens. -/
theorem lxM_many {l : List UInt8} {i : Nat} {r : List (Tk × Nat)} (h : Lexed l i r) : ∀ (s : ByteArray) (acc : List (Tk × Nat)), s.data.toList.drop i = l → acc.length ≤ 6000 → 6000 < acc.length + r.length → (lxM s i acc).2.2 = 9 := by
  induction h with
  | nil i => intro s acc hd h1 h2; simp at h2; omega
  | cons l i n m t r h h0 hm hr ih =>
    intro s acc hd h1 h2
    have hne := first_ne h h0
    have hlen := congrArg List.length hd
    rw [List.length_drop, len_list] at hlen
    have hpos := List.length_pos_iff.2 hne
    have hdn : s.data.toList.drop (i + n) = l.drop n := by rw [← hd, List.drop_drop]
    rw [lxM_step, if_neg (by omega), ofL_drop, hd, h]
    simp only []
    rw [if_neg (by omega)]
    by_cases h3 : acc.length = 6000
    · rw [if_pos h3]
    · rw [if_neg h3, hdn, hm]
      exact ih s (acc ++ [(t, i)]) (by rw [← hd, List.drop_drop, Nat.add_assoc]) (by simp; omega) (by simp at h2 ⊢; omega)
theorem LexS.many {s : ByteArray} {q : List Tk} (h : LexS s.data.toList q) (hq : 6000 < q.length) : (Proofs.YtmkjalnlldpdcaaGreatDoor.lexM s).2.2 = 9 := by
  obtain ⟨r, h1, h2⟩ := h
  have hl : r.length = q.length := by rw [← h2, List.length_map]
  unfold Proofs.YtmkjalnlldpdcaaGreatDoor.lexM
  by_cases hb : 20000 < s.size
  · rw [if_pos hb]
  · rw [if_neg hb]
    exact lxM_many h1 s [] rfl (by simp) (by simp; omega)
/-- One text has one row of tokens. -/
theorem Lexed.one {l : List UInt8} {i : Nat} {r : List (Tk × Nat)} (h : Lexed l i r) : ∀ {r' : List (Tk × Nat)}, Lexed l i r' → r' = r := by
  induction h with
  | nil i =>
    intro r' h'
    cases h' with
    | nil => rfl
    | cons l i n m t r h h0 hm hr => exact absurd rfl (first_ne h h0)
  | cons l i n m t r h h0 hm hr ih =>
    intro r' h'
    cases h' with
    | nil => exact absurd rfl (first_ne h h0)
    | cons _ _ n' m' t' r'' h' h0' hm' hr' =>
      rw [h] at h'
      cases h'
      rw [hm] at hm'
      cases hm'
      rw [ih hr']
theorem LexS.one {l : List UInt8} {p q : List Tk} (h1 : LexS l p) (h2 : LexS l q) : p = q := by
  obtain ⟨r, h3, rfl⟩ := h1
  obtain ⟨r', h4, rfl⟩ := h2
  rw [h3.one h4]
theorem LexS.nil : LexS [] [] := ⟨[], Lexed.nil _, rfl⟩
/-- One token, then the rest. -/
theorem LexS.tok {x y : List UInt8} {t : Tk} {q : List Tk} (h : firstT (ofL (x ++ y)) = (t, x.length)) (h0 : 0 < x.length) (hy : LexS y q) : LexS (x ++ y) (t :: q) := by
  have hs := first_sk h h0
  obtain ⟨r, h2, h3⟩ := hy.at (0 + x.length + skM y)
  refine LexS.of (j := 0) (r := (t, 0) :: r) ?_ (by rw [List.map_cons, h3])
  rw [hs, List.drop_zero]
  refine .cons (x ++ y) 0 x.length (skM y) t r h h0 (by rw [List.drop_left]) ?_
  rw [← List.drop_drop, List.drop_left]
  exact h2
theorem sn32 (rest : List UInt8) : sn (32 :: rest) = 1 + cnt blB rest := by
  unfold sn
  have hq : Lib.hasPrefix (32 :: rest) [45, 45] = false := by
    rw [hp2, beq_eq_false_iff_ne]
    intro e
    have := congrArg List.head? e
    rw [head_take (by omega)] at this
    cases this
  rw [hq]
  simp only [Bool.false_eq_true, if_false]
  unfold cnt
  rw [List.takeWhile_cons, if_pos (by decide), List.length_cons]
  omega
theorem sk_run (l : List UInt8) : skM l = cnt blB l + skM (l.drop (cnt blB l)) := by
  by_cases h : cnt blB l = 0
  · rw [h]; simp
  · have hq : Lib.hasPrefix l [45, 45] = false := by
      cases l with
      | nil => rfl
      | cons c r =>
        rw [hp2, beq_eq_false_iff_ne]
        intro e
        have e2 := congrArg List.head? e
        rw [head_take (by omega)] at e2
        have e3 : c = 45 := by simpa using e2
        subst e3
        apply h
        unfold cnt
        rw [List.takeWhile_cons, if_neg (by decide)]
        rfl
    have hs : sn l = cnt blB l := by unfold sn; rw [hq]; simp
    have := skM_step (l := l) (by omega)
    rw [hs] at this
    exact this
theorem sk32 (rest : List UInt8) : skM (32 :: rest) = 1 + skM rest := by
  rw [skM_step (by rw [sn32]; omega), sn32, Nat.add_comm 1, List.drop_succ_cons, sk_run rest]
  omega
theorem LexS.sp {l : List UInt8} {q : List Tk} (h : LexS l q) : LexS (32 :: l) q := by
  obtain ⟨r, h2, h3⟩ := h.at (skM (32 :: l))
  refine ⟨r, ?_, h3⟩
  rw [sk32, show (32 :: l).drop (1 + skM l) = l.drop (skM l) by rw [Nat.add_comm, List.drop_succ_cons], ← sk32]
  exact h2
/-- A sign of one byte. -/
theorem first_one (c : UInt8) (e1 : smB c = false) (e2 : decide (c.toNat = 95) = false) (e3 : grB c = false) (e4 : dgB c = false) (e5 : decide (c.toNat = 45) = false) (e6 : sgB c.toNat = true) (e7 : ¬ c.toNat = 39) (e8 : ¬ c.toNat = 34) (y : List UInt8) :
    firstT (ofL (c :: y)) = (⟨8, ⟨#[c]⟩, 0⟩, 1) := by
  have e9 : ¬ c.toNat = 45 := by simpa using e5
  rw [firstT_at (c := c) rfl, e1, e2, e3, e4, e5, if_neg (by simp), if_neg (by simp), if_neg e7, if_neg e8, if_neg (by simp), signT_ofL, if_neg e9, e6, if_pos rfl]
  rfl
theorem LexS.one40 {y : List UInt8} {q : List Tk} (h : LexS y q) : LexS (40 :: y) (⟨8, sOpen, 0⟩ :: q) := LexS.tok (x := [40]) (first_one 40 (by decide) (by decide) (by decide) (by decide) (by decide) (by decide) (by decide) (by decide) y) (by decide) h
theorem LexS.one41 {y : List UInt8} {q : List Tk} (h : LexS y q) : LexS (41 :: y) (⟨8, sShut, 0⟩ :: q) := LexS.tok (x := [41]) (first_one 41 (by decide) (by decide) (by decide) (by decide) (by decide) (by decide) (by decide) (by decide) y) (by decide) h
theorem LexS.one44 {y : List UInt8} {q : List Tk} (h : LexS y q) : LexS (44 :: y) (⟨8, sComma, 0⟩ :: q) := LexS.tok (x := [44]) (first_one 44 (by decide) (by decide) (by decide) (by decide) (by decide) (by decide) (by decide) (by decide) y) (by decide) h
theorem LexS.one46 {y : List UInt8} {q : List Tk} (h : LexS y q) : LexS (46 :: y) (⟨8, sDot, 0⟩ :: q) := LexS.tok (x := [46]) (first_one 46 (by decide) (by decide) (by decide) (by decide) (by decide) (by decide) (by decide) (by decide) y) (by decide) h
theorem LexS.one58 {y : List UInt8} {q : List Tk} (h : LexS y q) : LexS (58 :: y) (⟨8, sColon, 0⟩ :: q) := LexS.tok (x := [58]) (first_one 58 (by decide) (by decide) (by decide) (by decide) (by decide) (by decide) (by decide) (by decide) y) (by decide) h
theorem LexS.one61 {y : List UInt8} {q : List Tk} (h : LexS y q) : LexS (61 :: y) (⟨8, sEq, 0⟩ :: q) := LexS.tok (x := [61]) (first_one 61 (by decide) (by decide) (by decide) (by decide) (by decide) (by decide) (by decide) (by decide) y) (by decide) h
theorem LexS.one124 {y : List UInt8} {q : List Tk} (h : LexS y q) : LexS (124 :: y) (⟨8, sBar, 0⟩ :: q) := LexS.tok (x := [124]) (first_one 124 (by decide) (by decide) (by decide) (by decide) (by decide) (by decide) (by decide) (by decide) y) (by decide) h
theorem LexS.arrow {y : List UInt8} {q : List Tk} (h : LexS y q) : LexS (45 :: 62 :: y) (⟨8, sArrow, 0⟩ :: q) := by
  refine LexS.tok (x := [45, 62]) ?_ (by decide) h
  have e1 : smB 45 = false := by decide
  have e2 : decide (UInt8.toNat 45 = 95) = false := by decide
  have e3 : grB 45 = false := by decide
  have e4 : dgB 45 = false := by decide
  have e5 : decide (UInt8.toNat 45 = 45) = true := by decide
  have e6 : Lib.hasPrefix ([45, 62] ++ y) [45, 62] = true := by rw [hp2]; rfl
  rw [firstT_at (l := [45, 62] ++ y) (c := 45) rfl, e1, e2, e3, e4, e5, e6, if_neg (by simp), if_neg (by simp), if_neg (by decide), if_neg (by decide), if_neg (by simp), signT_ofL, if_pos (by decide)]
  rfl
/-- Texts that may stand behind a token. -/
def Ah (l : List UInt8) : Prop := ∀ c, l.head? = some c → apart c
theorem Ah.nil : Ah [] := fun c h => by cases h
theorem Ah.cons {c : UInt8} {l : List UInt8} (h : apart c) : Ah (c :: l) := fun d hd => by cases hd; exact h
theorem Ah.app {x y : List UInt8} (h : Ah x) (hy : Ah y) : Ah (x ++ y) := by
  cases x with
  | nil => exact hy
  | cons c r => exact Ah.cons (h c rfl)
theorem ap32 : apart 32 := apart_blank
theorem ap41 : apart 41 := by unfold apart; decide
theorem ap44 : apart 44 := by unfold apart; decide
theorem LexS.right {t : Tk} {y : List UInt8} {q : List Tk} (hr : RightT t) (ha : Ah y) (h : LexS y q) : LexS (tellT t ++ y) (t :: q) :=
  LexS.tok (firstT_ext ha hr.2 hr.1 rfl) hr.1 h
/-- A name that begins with a great letter, with a point behind. -/
theorem first_great {x y : List UInt8} {t : Tk} {n : Nat} (hk : t.k = 2) (hy : ∀ c, y.head? = some c → nmB c = false) (h : firstT (ofL x) = (t, n)) (h0 : 0 < n) : firstT (ofL (x ++ y)) = (t, n) := by
  cases hc : x[0]? with
  | none => rw [firstT_none hc] at h; cases h; omega
  | some c =>
    have hx : x ≠ [] := by intro e; subst e; cases hc
    have hc' : (x ++ y)[0]? = some c := by
      cases x with
      | nil => exact absurd rfl hx
      | cons d r => simpa using hc
    rw [firstT_at hc] at h
    rw [firstT_at hc', cnt_app nmB y hy]
    by_cases h1 : (smB c || (decide (c.toNat = 95) && decide (1 < cnt nmB x))) = true
    · rw [if_pos h1] at h ⊢
      exact nameT_ext hy h
    · rw [if_neg h1] at h ⊢
      by_cases h2 : grB c = true
      · rw [if_pos h2] at h ⊢
        exact nameT_ext hy h
      · exfalso
        rw [if_neg h2] at h
        by_cases h3 : c.toNat = 39
        · rw [if_pos h3, varT_ofL] at h
          split at h <;> cases h
          · omega
          · exact absurd (show (3 : Int) = 2 from hk) (by decide)
        · rw [if_neg h3] at h
          by_cases h4 : c.toNat = 34
          · rw [if_pos h4] at h
            obtain ⟨r, _, rfl⟩ := textT_some h h0
            exact absurd (show (5 : Int) = 2 from hk) (by decide)
          · rw [if_neg h4] at h
            split at h
            · rw [numT_ofL] at h
              split at h
              · cases h; exact absurd (show (6 : Int) = 2 from hk) (by decide)
              · split at h <;> cases h
                · omega
                · exact absurd (show (4 : Int) = 2 from hk) (by decide)
            · rw [signT_ofL] at h
              split at h
              · cases h; exact absurd (show (8 : Int) = 2 from hk) (by decide)
              · split at h <;> cases h
                · exact absurd (show (8 : Int) = 2 from hk) (by decide)
                · omega
theorem LexS.dot {s : ByteArray} {y : List UInt8} {q : List Tk} (hr : RightT ⟨2, s, 0⟩) (h : LexS (46 :: y) q) : LexS (s.data.toList ++ 46 :: y) (⟨2, s, 0⟩ :: q) := by
  have e : tellT ⟨2, s, 0⟩ = s.data.toList := by unfold tellT; rw [if_neg (show ¬ (2 : Int) = 3 by decide), if_neg (show ¬ (2 : Int) = 4 by decide), if_neg (show ¬ (2 : Int) = 5 by decide)]
  have h1 := hr.1
  have h2 := hr.2
  rw [e] at h1 h2
  exact LexS.tok (first_great rfl (fun c hc => by cases hc; decide) h2 h1) h1 h
/-- A sign that is no name: _. -/
theorem LexS.any {y : List UInt8} {q : List Tk} (ha : Ah y) (h : LexS y q) : LexS (95 :: y) (⟨8, sAny, 0⟩ :: q) := by
  have hc : cnt nmB (95 :: y) = 1 := by
    have := cnt_app nmB y (fun c hc => (ha c hc).1) [95]
    exact this
  refine LexS.tok (x := [95]) ?_ (by decide) h
  have e1 : smB 95 = false := by decide
  have e3 : grB 95 = false := by decide
  have e4 : dgB 95 = false := by decide
  have e5 : decide (UInt8.toNat 95 = 45) = false := by decide
  have e6 : sgB (UInt8.toNat 95) = true := by decide
  show firstT (ofL (95 :: y)) = _
  rw [firstT_at (c := 95) rfl, hc, e1, e3, e4, e5, if_neg (by simp), if_neg (by simp), if_neg (by decide), if_neg (by decide), if_neg (by simp), signT_ofL, if_neg (by decide), e6, if_pos rfl]
  rfl
theorem LexS.word {l : List UInt8} {t : Tk} (h : firstT (ofL l) = (t, l.length)) (h0 : 0 < l.length) {y : List UInt8} {q : List Tk} (ha : Ah y) (hy : LexS y q) : LexS (l ++ y) (t :: q) :=
  LexS.tok (firstT_ext ha h h0 rfl) h0 hy
theorem w_fun : firstT (ofL [102, 117, 110]) = (⟨7, kFun, 0⟩, 3) := by kernel_rfl
theorem w_let : firstT (ofL [108, 101, 116]) = (⟨7, kLet, 0⟩, 3) := by kernel_rfl
theorem w_match : firstT (ofL [109, 97, 116, 99, 104]) = (⟨7, kMatch, 0⟩, 5) := by kernel_rfl
theorem w_rec : firstT (ofL [114, 101, 99]) = (⟨7, kRec, 0⟩, 3) := by kernel_rfl
theorem w_in : firstT (ofL [105, 110]) = (⟨7, kIn, 0⟩, 2) := by kernel_rfl
theorem w_with : firstT (ofL [119, 105, 116, 104]) = (⟨7, kWith, 0⟩, 4) := by kernel_rfl
theorem w_end : firstT (ofL [101, 110, 100]) = (⟨7, kEnd, 0⟩, 3) := by kernel_rfl
end Go.Proofs.YtmkjalnlldpdcaaGreatDoor
/- A term's tokens: those that its text is cut into. -/
namespace Go.Proofs.YtmkjalnlldpdcaaGreatDoor
open Go.RowKit
set_option linter.unusedSimpArgs false
set_option linter.unusedVariables false
abbrev sg (b : ByteArray) : Tk := ⟨8, b, 0⟩
abbrev kw (b : ByteArray) : Tk := ⟨7, b, 0⟩
def eachK (s : Tk) : List (List Tk) → List Tk
  | [] => []
  | a :: r => a ++ r.flatMap (s :: ·)
def heldK (l : List (List Tk)) : List Tk := sg sOpen :: (eachK (sg sComma) l ++ [sg sShut])
def withinK (needs : Bool) (x : List Tk) : List Tk := if needs then sg sOpen :: (x ++ [sg sShut]) else x
def annK (l : List (List Tk)) : List Tk := l.flatMap (sg sColon :: ·)
def armsK : Bool → List (List Tk) → List Tk
  | first, a :: c :: r => (if first then kw kWith else sg sBar) :: (a ++ (sg sArrow :: (c ++ armsK false r)))
  | _, _ => []
def qualK (kind : Int) (p n : ByteArray) : List Tk := (if p.toList = [] then [] else [⟨2, p, 0⟩, sg sDot]) ++ [⟨kind, n, 0⟩]
def cmpK (k : Int) (n : ByteArray) (N : Int) (l : List (Tm × List Tk)) : List Tk :=
  if k = 3 then (match l with
    | [a, c] => withinK (kdM a.1 == 3) a.2 ++ (sg sArrow :: c.2)
    | _ => [])
  else if k = 26 then (match l with
    | [a] => kw kFun :: ⟨1, n, 0⟩ :: sg sArrow :: a.2
    | _ => [])
  else if k = 27 then (match l with
    | [a, c] => withinK (openM a.1) a.2 ++ withinK (openM c.1 || kdM c.1 == 27) c.2
    | _ => [])
  else if k = 28 then (match l with
    | a :: c :: r => kw kLet :: ((if N = 1 then [kw kRec] else []) ++ (⟨1, n, 0⟩ :: (annK (r.map Prod.snd) ++ (sg sEq :: (a.2 ++ (kw kIn :: c.2))))))
    | _ => [])
  else if k = 29 then (match l with
    | a :: r => kw kMatch :: (a.2 ++ (armsK true (r.map Prod.snd) ++ [kw kEnd]))
    | _ => [])
  else if k = 30 then (match l with
    | a :: r => sg sOpen :: (a.2 ++ (annK (r.map Prod.snd) ++ [sg sShut]))
    | _ => [])
  else []
/-- A term's tokens. -/
def toks : Nat → Tm → List Tk
  | 0, _ => []
  | d + 1, .mk k p n N kids =>
    if k = 1 then [⟨3, n, 0⟩]
    else if k = 11 then [sg sAny]
    else if k = 13 ∨ k = 22 then [⟨4, e0, N⟩]
    else if k = 14 ∨ k = 23 then [⟨5, n, 0⟩]
    else if k = 12 ∨ k = 21 ∨ k = 2 then qualK 1 p n ++ (if kids.length = 0 then [] else heldK (kids.map (toks d)))
    else if k = 15 ∨ k = 24 then qualK 2 p n ++ (if kids.length = 0 then [] else heldK (kids.map (toks d)))
    else if k = 4 ∨ k = 16 ∨ k = 25 then heldK (kids.map (toks d))
    else cmpK k n N (kids.map fun x => (x, toks d x))
def QualR (kind : Int) (p n : ByteArray) : Prop := RightT ⟨kind, n, 0⟩ ∧ (p.toList = [] ∨ RightT ⟨2, p, 0⟩)
/-- Terms whose text can be read. -/
def WfK : Nat → Tm → Prop
  | 0, _ => False
  | d + 1, .mk k p n N kids => (∀ x ∈ kids, WfK d x) ∧
    ((k = 1 ∧ RightT ⟨3, n, 0⟩) ∨ k = 11 ∨ ((k = 13 ∨ k = 22) ∧ RightT ⟨4, e0, N⟩) ∨ ((k = 14 ∨ k = 23) ∧ RightT ⟨5, n, 0⟩) ∨ ((k = 12 ∨ k = 21 ∨ k = 2) ∧ QualR 1 p n) ∨ ((k = 15 ∨ k = 24) ∧ QualR 2 p n) ∨ (k = 4 ∨ k = 16 ∨ k = 25) ∨
      (k = 3 ∧ kids.length = 2) ∨ (k = 26 ∧ kids.length = 1 ∧ RightT ⟨1, n, 0⟩) ∨ (k = 27 ∧ kids.length = 2) ∨ (k = 28 ∧ 2 ≤ kids.length ∧ RightT ⟨1, n, 0⟩) ∨ (k = 29 ∧ 1 ≤ kids.length ∧ kids.length % 2 = 1) ∨ (k = 30 ∧ 1 ≤ kids.length))
/-- Bytes that are cut into tokens, whatever stands apart behind them. -/
def Lx (l : List UInt8) (q : List Tk) : Prop := ∀ y p, Ah y → LexS y p → LexS (l ++ y) (q ++ p)
theorem Lx.nil : Lx [] [] := fun y p _ h => h
theorem Lx.sp {l : List UInt8} {q : List Tk} (h : Lx l q) : Lx (32 :: l) q := fun y p ha hy => (h y p ha hy).sp
theorem Lx.app {a b : List UInt8} {p q : List Tk} (h1 : Lx a p) (h2 : Lx b q) (hb : Ah b) : Lx (a ++ b) (p ++ q) := fun y r ha hy => by
  rw [List.append_assoc, List.append_assoc]
  exact h1 _ _ (hb.app ha) (h2 y r ha hy)
theorem Lx.open {l : List UInt8} {q : List Tk} (h : Lx l q) : Lx (40 :: l) (sg sOpen :: q) := fun y p ha hy => (h y p ha hy).one40
theorem Lx.shut {l : List UInt8} {q : List Tk} (h : Lx l q) : Lx (41 :: l) (sg sShut :: q) := fun y p ha hy => (h y p ha hy).one41
theorem Lx.comma {l : List UInt8} {q : List Tk} (h : Lx l q) : Lx (44 :: l) (sg sComma :: q) := fun y p ha hy => (h y p ha hy).one44
theorem Lx.colon {l : List UInt8} {q : List Tk} (h : Lx l q) : Lx (58 :: l) (sg sColon :: q) := fun y p ha hy => (h y p ha hy).one58
theorem Lx.eq {l : List UInt8} {q : List Tk} (h : Lx l q) : Lx (61 :: l) (sg sEq :: q) := fun y p ha hy => (h y p ha hy).one61
theorem Lx.bar {l : List UInt8} {q : List Tk} (h : Lx l q) : Lx (124 :: l) (sg sBar :: q) := fun y p ha hy => (h y p ha hy).one124
theorem Lx.arrow {l : List UInt8} {q : List Tk} (h : Lx l q) : Lx (45 :: 62 :: l) (sg sArrow :: q) := fun y p ha hy => (h y p ha hy).arrow
theorem Lx.any : Lx [95] [sg sAny] := fun y p ha hy => LexS.any ha hy
theorem Lx.tok {t : Tk} (hr : RightT t) : Lx (tellT t) [t] := fun y p ha hy => LexS.right hr ha hy
theorem Lx.word {l : List UInt8} {t : Tk} (h : firstT (ofL l) = (t, l.length)) (h0 : 0 < l.length) : Lx l [t] := fun y p ha hy => LexS.word h h0 ha hy
theorem Lx.word' {l b : List UInt8} {t : Tk} {q : List Tk} (h : firstT (ofL l) = (t, l.length)) (h0 : 0 < l.length) (hb : Ah b) (h2 : Lx b q) : Lx (l ++ b) (t :: q) := (Lx.word h h0).app h2 hb
theorem tell_name {k : Int} {n : ByteArray} (hk : k = 1 ∨ k = 2) : tellT ⟨k, n, 0⟩ = n.data.toList := by
  unfold tellT
  rcases hk with rfl | rfl
  · rw [if_neg (show ¬ (1 : Int) = 3 by decide), if_neg (show ¬ (1 : Int) = 4 by decide), if_neg (show ¬ (1 : Int) = 5 by decide)]
  · rw [if_neg (show ¬ (2 : Int) = 3 by decide), if_neg (show ¬ (2 : Int) = 4 by decide), if_neg (show ¬ (2 : Int) = 5 by decide)]
theorem Lx.name {k : Int} {n : ByteArray} (hk : k = 1 ∨ k = 2) (hr : RightT ⟨k, n, 0⟩) : Lx n.data.toList [⟨k, n, 0⟩] := by
  have := Lx.tok hr
  rwa [tell_name hk] at this
theorem Lx.qual {k : Int} {p n : ByteArray} (hk : k = 1 ∨ k = 2) (h : QualR k p n) : Lx (qualT p n) (qualK k p n) := by
  have hn := Lx.name hk h.1
  unfold qualT qualK
  by_cases hp : p.toList = []
  · rw [if_pos hp, if_pos hp]
    exact hn
  · rw [if_neg hp, if_neg hp]
    rcases h.2 with h2 | h2
    · exact absurd h2 hp
    · intro y q ha hy
      have h3 := (hn y q ha hy).one46
      have h4 := LexS.dot h2 h3
      simpa using h4
theorem Ah.flat {α : Type} {s : List UInt8} (hs : Ah s) (hne : s ≠ []) (f : α → List UInt8) (l : List α) : Ah ((l.map f).flatMap (s ++ ·)) := by
  cases l with
  | nil => exact Ah.nil
  | cons a r =>
    rw [List.map_cons, List.flatMap_cons, List.append_assoc]
    cases s with
    | nil => exact absurd rfl hne
    | cons c s => exact Ah.cons (hs c rfl)
theorem Lx.each {f : Tm → List UInt8} {g : Tm → List Tk} : ∀ {kids : List Tm}, (∀ x ∈ kids, Lx (f x) (g x)) → Lx (eachT [44, 32] (kids.map f)) (eachK (sg sComma) (kids.map g)) := by
  have key : ∀ {kids : List Tm}, (∀ x ∈ kids, Lx (f x) (g x)) → Lx ((kids.map f).flatMap ([44, 32] ++ ·)) ((kids.map g).flatMap (sg sComma :: ·)) := by
    intro kids
    induction kids with
    | nil => intro _; exact Lx.nil
    | cons a r ih =>
      intro h
      have h1 := h a (by simp)
      have h2 := ih fun x hx => h x (by simp [hx])
      rw [List.map_cons, List.flatMap_cons, List.map_cons, List.flatMap_cons]
      exact (h1.app h2 (Ah.flat (Ah.cons ap44) (by simp) f r)).sp.comma
  intro kids h
  cases kids with
  | nil => exact Lx.nil
  | cons a r => exact (h a (by simp)).app (key fun x hx => h x (by simp [hx])) (Ah.flat (Ah.cons ap44) (by simp) f r)
theorem Lx.held {f : Tm → List UInt8} {g : Tm → List Tk} {kids : List Tm} (h : ∀ x ∈ kids, Lx (f x) (g x)) : Lx (heldT (kids.map f)) (heldK (kids.map g)) :=
  ((Lx.each h).app (Lx.nil.shut) (Ah.cons ap41)).open
theorem Lx.within {b : Bool} {x : List UInt8} {k : List Tk} (h : Lx x k) : Lx (withinT b x) (withinK b k) := by
  unfold withinT withinK
  cases b
  · exact h
  · exact (h.app (Lx.nil.shut) (Ah.cons ap41)).open
theorem Ah.ann {f : Tm → List UInt8} (l : List Tm) : Ah (annT (l.map f)) := by
  cases l with
  | nil => exact Ah.nil
  | cons a r => exact Ah.cons ap32
theorem Lx.ann {f : Tm → List UInt8} {g : Tm → List Tk} : ∀ {kids : List Tm}, (∀ x ∈ kids, Lx (f x) (g x)) → Lx (annT (kids.map f)) (annK (kids.map g)) := by
  intro kids
  induction kids with
  | nil => intro _; exact Lx.nil
  | cons a r ih =>
    intro h
    exact ((h a (by simp)).app (ih fun x hx => h x (by simp [hx])) (Ah.ann r)).sp.colon.sp
theorem Ah.arms {f : Tm → List UInt8} (b : Bool) (l : List Tm) : Ah (armsT b (l.map f)) := by
  match l with
  | [] => exact Ah.nil
  | [a] => exact Ah.nil
  | a :: c :: r => cases b <;> exact Ah.cons ap32
theorem Lx.arms {f : Tm → List UInt8} {g : Tm → List Tk} : ∀ (n : Nat) (b : Bool) {kids : List Tm}, kids.length ≤ n → (∀ x ∈ kids, Lx (f x) (g x)) → Lx (armsT b (kids.map f)) (armsK b (kids.map g)) := by
  intro n
  induction n with
  | zero =>
    intro b kids hl h
    obtain rfl : kids = [] := List.eq_nil_of_length_eq_zero (by omega)
    exact Lx.nil
  | succ n ih =>
    intro b kids hl h
    match kids, hl, h with
    | [], _, _ => exact Lx.nil
    | [a], _, _ => exact Lx.nil
    | a :: c :: r, hl, h =>
      have h1 := h a (by simp)
      have h2 := h c (by simp)
      have h3 := ih false (kids := r) (by simp at hl; omega) fun x hx => h x (by simp [hx])
      have h4 := (h1.app ((h2.app h3 (Ah.arms false r)).sp.arrow.sp) (Ah.cons ap32)).sp
      cases b
      · exact h4.bar.sp
      · exact (Lx.word' w_with (by decide) (Ah.cons ap32) h4).sp
theorem lx_cmp {d : Nat} {k : Int} {n : ByteArray} {N : Int} {kids : List Tm} (ih : ∀ x ∈ kids, Lx (txt d x) (toks d x))
    (h : (k = 3 ∧ kids.length = 2) ∨ (k = 26 ∧ kids.length = 1 ∧ RightT ⟨1, n, 0⟩) ∨ (k = 27 ∧ kids.length = 2) ∨ (k = 28 ∧ 2 ≤ kids.length ∧ RightT ⟨1, n, 0⟩) ∨ (k = 29 ∧ 1 ≤ kids.length ∧ kids.length % 2 = 1) ∨ (k = 30 ∧ 1 ≤ kids.length)) :
    Lx (cmpT k n N (kids.map fun x => (x, txt d x))) (cmpK k n N (kids.map fun x => (x, toks d x))) := by
  rcases h with ⟨rfl, hl⟩ | ⟨rfl, hl, hr⟩ | ⟨rfl, hl⟩ | ⟨rfl, hl, hr⟩ | ⟨rfl, hl, _⟩ | ⟨rfl, hl⟩
  · match kids, hl, ih with
    | [a, c], _, ih =>
      have h1 := ih a (by simp)
      have h2 := ih c (by simp)
      simp only [cmpT, cmpK, List.map_cons, List.map_nil, Int.reduceEq, if_false, if_true]
      exact (h1.within).app (h2.sp.arrow.sp) (Ah.cons ap32)
  · match kids, hl, ih with
    | [a], _, ih =>
      have h1 := ih a (by simp)
      simp only [cmpT, cmpK, List.map_cons, List.map_nil, Int.reduceEq, if_false, if_true]
      exact Lx.word' w_fun (by decide) (b := 32 :: _) (Ah.cons ap32) (((Lx.name (.inl rfl) hr).app (h1.sp.arrow.sp) (Ah.cons ap32)).sp)
  · match kids, hl, ih with
    | [a, c], _, ih =>
      have h1 := ih a (by simp)
      have h2 := ih c (by simp)
      simp only [cmpT, cmpK, List.map_cons, List.map_nil, Int.reduceEq, if_false, if_true]
      exact (h1.within).app (h2.within.sp) (Ah.cons ap32)
  · match kids, hl, ih with
    | a :: c :: r, _, ih =>
      have h1 := ih a (by simp)
      have h2 := ih c (by simp)
      have h3 := Lx.ann (kids := r) fun x hx => ih x (by simp [hx])
      simp only [cmpT, cmpK, List.map_cons, List.map_map, Function.comp_def, Int.reduceEq, if_false, if_true]
      have h4 := (h1.app (Lx.word' w_in (by decide) (b := 32 :: _) (Ah.cons ap32) h2.sp).sp (Ah.cons ap32)).sp.eq.sp
      have h5 := h3.app h4 (Ah.cons ap32)
      have h6 := (Lx.name (.inl rfl) hr).app h5 ((Ah.ann r).app (Ah.cons ap32))
      by_cases hN : N = 1
      · rw [if_pos hN, if_pos hN]
        exact Lx.word' w_let (by decide) (b := 32 :: _) (Ah.cons ap32) (Lx.word' w_rec (by decide) (b := 32 :: _) (Ah.cons ap32) h6.sp).sp
      · rw [if_neg hN, if_neg hN]
        exact Lx.word' w_let (by decide) (b := 32 :: _) (Ah.cons ap32) h6.sp
  · match kids, hl, ih with
    | a :: r, _, ih =>
      have h1 := ih a (by simp)
      have h3 := Lx.arms r.length true (kids := r) (Nat.le_refl _) fun x hx => ih x (by simp [hx])
      simp only [cmpT, cmpK, List.map_cons, List.map_map, Function.comp_def, Int.reduceEq, if_false, if_true]
      have h4 := h3.app (Lx.word w_end (by decide)).sp (Ah.cons ap32)
      have h5 := h1.app h4 ((Ah.arms true r).app (Ah.cons ap32))
      exact Lx.word' w_match (by decide) (b := 32 :: _) (Ah.cons ap32) h5.sp
  · match kids, hl, ih with
    | a :: r, _, ih =>
      have h1 := ih a (by simp)
      have h3 := Lx.ann (kids := r) fun x hx => ih x (by simp [hx])
      simp only [cmpT, cmpK, List.map_cons, List.map_map, Function.comp_def, Int.reduceEq, if_false, if_true]
      exact (h1.app (h3.app Lx.nil.shut (Ah.cons ap41)) ((Ah.ann r).app (Ah.cons ap41))).open
/-- A term's text is cut into its tokens. -/
theorem lx_txt : ∀ (d : Nat) (x : Tm), WfK d x → Lx (txt d x) (toks d x) := by
  intro d
  induction d with
  | zero => intro x h; cases h
  | succ d ih =>
    intro x h
    obtain ⟨k, p, n, N, kids⟩ := x
    obtain ⟨hk, h⟩ := h
    have ih' : ∀ x ∈ kids, Lx (txt d x) (toks d x) := fun x hx => ih x (hk x hx)
    have hq : ∀ K : Int, K = 1 ∨ K = 2 → QualR K p n → Lx (qualT p n ++ (if kids.length = 0 then [] else heldT (kids.map (txt d)))) (qualK K p n ++ (if kids.length = 0 then [] else heldK (kids.map (toks d)))) := by
      intro K hK hq
      by_cases h0 : kids.length = 0
      · rw [if_pos h0, if_pos h0, List.append_nil, List.append_nil]
        exact Lx.qual hK hq
      · rw [if_neg h0, if_neg h0]
        intro y q ha hy
        have h1 := Lx.held ih' y q ha hy
        have h2 : LexS (qualT p n ++ (heldT (kids.map (txt d)) ++ y)) (qualK K p n ++ (heldK (kids.map (toks d)) ++ q)) := by
          have h3 := Lx.qual hK hq
          refine h3 _ _ ?_ h1
          exact Ah.cons (by unfold apart; decide)
        simpa using h2
    rcases h with ⟨rfl, h⟩ | rfl | ⟨hk', h⟩ | ⟨hk', h⟩ | ⟨hk', h⟩ | ⟨hk', h⟩ | hk' | h
    · have e1 : txt (d + 1) (.mk 1 p n N kids) = tellT ⟨3, n, 0⟩ := by simp [txt]
      have e2 : toks (d + 1) (.mk 1 p n N kids) = [⟨3, n, 0⟩] := by simp [toks]
      rw [e1, e2]; exact Lx.tok h
    · have e1 : txt (d + 1) (.mk 11 p n N kids) = [95] := by simp [txt]
      have e2 : toks (d + 1) (.mk 11 p n N kids) = [sg sAny] := by simp [toks]
      rw [e1, e2]; exact Lx.any
    · have e1 : txt (d + 1) (.mk k p n N kids) = tellT ⟨4, ⟨#[]⟩, N⟩ := by rcases hk' with rfl | rfl <;> simp [txt]
      have e2 : toks (d + 1) (.mk k p n N kids) = [⟨4, e0, N⟩] := by rcases hk' with rfl | rfl <;> simp [toks]
      rw [e1, e2]; exact Lx.tok h
    · have e1 : txt (d + 1) (.mk k p n N kids) = tellT ⟨5, n, 0⟩ := by rcases hk' with rfl | rfl <;> simp [txt]
      have e2 : toks (d + 1) (.mk k p n N kids) = [⟨5, n, 0⟩] := by rcases hk' with rfl | rfl <;> simp [toks]
      rw [e1, e2]; exact Lx.tok h
    · have e1 : txt (d + 1) (.mk k p n N kids) = qualT p n ++ (if kids.length = 0 then [] else heldT (kids.map (txt d))) := by rcases hk' with rfl | rfl | rfl <;> simp [txt]
      have e2 : toks (d + 1) (.mk k p n N kids) = qualK 1 p n ++ (if kids.length = 0 then [] else heldK (kids.map (toks d))) := by rcases hk' with rfl | rfl | rfl <;> simp [toks]
      rw [e1, e2]; exact hq 1 (.inl rfl) h
    · have e1 : txt (d + 1) (.mk k p n N kids) = qualT p n ++ (if kids.length = 0 then [] else heldT (kids.map (txt d))) := by rcases hk' with rfl | rfl <;> simp [txt]
      have e2 : toks (d + 1) (.mk k p n N kids) = qualK 2 p n ++ (if kids.length = 0 then [] else heldK (kids.map (toks d))) := by rcases hk' with rfl | rfl <;> simp [toks]
      rw [e1, e2]; exact hq 2 (.inr rfl) h
    · have e1 : txt (d + 1) (.mk k p n N kids) = heldT (kids.map (txt d)) := by rcases hk' with rfl | rfl | rfl <;> simp [txt]
      have e2 : toks (d + 1) (.mk k p n N kids) = heldK (kids.map (toks d)) := by rcases hk' with rfl | rfl | rfl <;> simp [toks]
      rw [e1, e2]; exact Lx.held ih'
    · have e1 : txt (d + 1) (.mk k p n N kids) = cmpT k n N (kids.map fun x => (x, txt d x)) := by rcases h with ⟨rfl, _⟩ | ⟨rfl, _⟩ | ⟨rfl, _⟩ | ⟨rfl, _⟩ | ⟨rfl, _⟩ | ⟨rfl, _⟩ <;> simp [txt]
      have e2 : toks (d + 1) (.mk k p n N kids) = cmpK k n N (kids.map fun x => (x, toks d x)) := by rcases h with ⟨rfl, _⟩ | ⟨rfl, _⟩ | ⟨rfl, _⟩ | ⟨rfl, _⟩ | ⟨rfl, _⟩ | ⟨rfl, _⟩ <;> simp [toks]
      rw [e1, e2]; exact lx_cmp ih' h
theorem lexS_txt {d : Nat} {x : Tm} (h : WfK d x) : LexS (txt d x) (toks d x) := by
  have := lx_txt d x h [] [] Ah.nil LexS.nil
  simpa using this
end Go.Proofs.YtmkjalnlldpdcaaGreatDoor
/- Types and patterns are read from their tokens as they were, unless they lie too deep. -/
namespace Go.Proofs.YtmkjalnlldpdcaaGreatDoor
open Go.RowKit
set_option linter.unusedSimpArgs false
set_option linter.unusedVariables false
/-- What a reader comes to: this, with these tokens left; or, where Z, a fault 9. -/
def Rds {α : Type} (Z : Prop) (r : Res α) (a : α) (q : List Tk) : Prop := (∃ ts', r = .ok (a, ts') ∧ ts'.map Prod.fst = q) ∨ (Z ∧ ∃ p, r = .error (p, 9))
theorem Rds.ok {α : Type} {Z : Prop} {a : α} {ts : Ts} {q : List Tk} (h : ts.map Prod.fst = q) : Rds Z (.ok (a, ts)) a q := .inl ⟨ts, rfl, h⟩
theorem Rds.die {α : Type} {Z : Prop} {E : Nat} {ts : Ts} {a : α} {q : List Tk} (h : Z) : Rds Z (die E ts 9 : Res α) a q := .inr ⟨h, _, rfl⟩
theorem Rds.bnd {α β : Type} {Z : Prop} {r : Res α} {f : α → Ts → Res β} {a : α} {b : β} {q p : List Tk} (h : Rds Z r a q) (hf : ∀ ts, ts.map Prod.fst = q → Rds Z (f a ts) b p) : Rds Z (Proofs.YtmkjalnlldpdcaaGreatDoor.bnd r f) b p := by
  rcases h with ⟨ts, rfl, h2⟩ | ⟨hz, e, rfl⟩
  · exact hf ts h2
  · exact .inr ⟨hz, e, rfl⟩
def kdK (q : List Tk) : Int := (q.headD tk0).k
def txK (q : List Tk) : ByteArray := (q.headD tk0).s
def isK (k : Int) (x : ByteArray) (q : List Tk) : Bool := decide (kdK q = k) && decide (txK q = x)
theorem kd_eq (ts : Ts) : kd ts = kdK (ts.map Prod.fst) := by cases ts <;> rfl
theorem tx_eq (ts : Ts) : tx ts = txK (ts.map Prod.fst) := by cases ts <;> rfl
theorem isB_eq (k : Int) (x : ByteArray) (ts : Ts) : isB k x ts = isK k x (ts.map Prod.fst) := by unfold isB isK; rw [kd_eq, tx_eq]
theorem isK_yes (k : Int) (x : ByteArray) (q : List Tk) (n : Int) : isK k x (⟨k, x, n⟩ :: q) = true := by simp [isK, kdK, txK]
theorem isK_kind {k k' : Int} {x s : ByteArray} {n : Int} {q : List Tk} (h : ¬ k' = k) : isK k x (⟨k', s, n⟩ :: q) = false := by simp [isK, kdK, h]
theorem isK_text {k k' : Int} {x s : ByteArray} {n : Int} {q : List Tk} (h : ¬ s = x) : isK k x (⟨k', s, n⟩ :: q) = false := by simp [isK, txK, h]
theorem tail_map {ts : Ts} {t : Tk} {q : List Tk} (h : ts.map Prod.fst = t :: q) : ts.tail.map Prod.fst = q := by
  cases ts with
  | nil => cases h
  | cons a r => simp at h; exact h.2
theorem nx_map {ts : Ts} {t : Tk} {q : List Tk} (h : ts.map Prod.fst = t :: q) (E : Nat) : (nx E ts).1 = t := by
  cases ts with
  | nil => cases h
  | cons a r => simp at h; exact h.1
theorem take_back {Z : Prop} {E : Nat} {k : Int} {s : ByteArray} {n : Int} {q : List Tk} {ts : Ts} (h : ts.map Prod.fst = ⟨k, s, n⟩ :: q) : Rds Z (takeP E k ts) s q := by
  have h1 : kd ts = k := by rw [kd_eq, h]; rfl
  have h2 : tx ts = s := by rw [tx_eq, h]; rfl
  unfold takeP
  rw [if_pos h1, h2]
  exact Rds.ok (tail_map h)
theorem key_back {Z : Prop} {E : Nat} {k : Int} {x : ByteArray} {n : Int} {q : List Tk} {ts : Ts} (h : ts.map Prod.fst = ⟨k, x, n⟩ :: q) : Rds Z (keyP E k x ts) () q := by
  unfold keyP
  rw [isB_eq, h, isK_yes, if_pos rfl]
  exact Rds.ok (tail_map h)
/-- A reader reads this from its tokens, where what stands behind is such. -/
def RdK {α : Type} (Z : Prop) (one : Ts → Res α) (a : α) (k : List Tk) (St : List Tk → Prop) : Prop := ∀ ts q, ts.map Prod.fst = k ++ q → St q → Rds Z (one ts) a q
theorem RdK.weak {α : Type} {Z : Prop} {one : Ts → Res α} {a : α} {k : List Tk} {S T : List Tk → Prop} (h : RdK Z one a k S) (hST : ∀ q, T q → S q) : RdK Z one a k T := fun ts q e hq => h ts q e (hST q hq)
/-- More of some, each behind a sign. -/
theorem sevF_back {α : Type} {Z : Prop} {E : Nat} {bt : ByteArray} {one : Ts → Res α} {K : α → List Tk} {St : List Tk → Prop} (hbt : ∀ q, St (⟨8, bt, 0⟩ :: q)) :
    ∀ (kids : List α) (f : Nat) (ts : Ts) (acc : List α) (q : List Tk), (∀ x ∈ kids, RdK Z one x (K x) St) → ts.map Prod.fst = (kids.map K).flatMap (⟨8, bt, 0⟩ :: ·) ++ q → isK 8 bt q = false → St q → kids.length < f →
    Rds Z (sevF E bt one f ts acc) (acc ++ kids) q := by
  intro kids
  induction kids with
  | nil =>
    intro f ts acc q _ h hb hq hf
    cases f with
    | zero => omega
    | succ f =>
      have h' : ts.map Prod.fst = q := by simpa using h
      unfold sevF
      rw [isB_eq, h', hb, List.append_nil]
      exact Rds.ok h'
  | cons a r ih =>
    intro f ts acc q hK h hb hq hf
    cases f with
    | zero => omega
    | succ f =>
      have h' : ts.map Prod.fst = ⟨8, bt, 0⟩ :: (K a ++ ((r.map K).flatMap (⟨8, bt, 0⟩ :: ·) ++ q)) := by rw [h]; simp
      unfold sevF
      rw [isB_eq, h', isK_yes, if_pos rfl]
      have hst : St ((r.map K).flatMap (⟨8, bt, 0⟩ :: ·) ++ q) := by
        cases r with
        | nil => exact hq
        | cons b r => exact hbt _
      refine Rds.bnd (hK a (by simp) _ _ (tail_map h') hst) fun ts1 h1 => ?_
      have := ih f ts1 (acc ++ [a]) q (fun x hx => hK x (by simp [hx])) h1 hb hq (by simp at hf; omega)
      rw [List.append_assoc] at this
      exact this
theorem flatK_len (s : Tk) : ∀ l : List (List Tk), l.length ≤ (l.flatMap (s :: ·)).length
  | [] => Nat.le_refl _
  | a :: r => by
    have := flatK_len s r
    simp at this ⊢
    omega
/-- Some, a sign between them. -/
theorem sev_back {α : Type} {Z : Prop} {E : Nat} {bt : ByteArray} {one : Ts → Res α} {K : α → List Tk} {St : List Tk → Prop} (hbt : ∀ q, St (⟨8, bt, 0⟩ :: q)) {a : α} {r : List α} (hK : ∀ x ∈ a :: r, RdK Z one x (K x) St)
    {ts : Ts} {q : List Tk} (h : ts.map Prod.fst = eachK ⟨8, bt, 0⟩ ((a :: r).map K) ++ q) (hb : isK 8 bt q = false) (hq : St q) : Rds Z (sevP E bt one ts) (a :: r) q := by
  unfold sevP
  have h' : ts.map Prod.fst = K a ++ ((r.map K).flatMap (⟨8, bt, 0⟩ :: ·) ++ q) := by rw [h]; simp [eachK]
  have hst : St ((r.map K).flatMap (⟨8, bt, 0⟩ :: ·) ++ q) := by
    cases r with
    | nil => exact hq
    | cons b r => exact hbt _
  refine Rds.bnd (hK a (by simp) _ _ h' hst) fun ts1 h1 => ?_
  unfold sevL
  have hl := congrArg List.length h1
  have hf := flatK_len ⟨8, bt, 0⟩ (r.map K)
  simp only [List.length_map, List.length_append] at hl hf
  exact sevF_back hbt r _ ts1 [a] q (fun x hx => hK x (by simp [hx])) h1 hb hq (by omega)
theorem no_comma (q : List Tk) : isK 8 sComma (sg sShut :: q) = false := isK_text (by decide)
/-- Some in parentheses, or none. -/
theorem held_back {Z : Prop} {E : Nat} {one : Ts → Res Tm} {K : Tm → List Tk} {St : List Tk → Prop} (h1 : ∀ q, St (sg sComma :: q)) (h2 : ∀ q, St (sg sShut :: q)) {kids : List Tm} (hK : ∀ x ∈ kids, RdK Z one x (K x) St) :
    RdK Z (heldP E one) kids (if kids.length = 0 then [] else heldK (kids.map K)) (fun q => kids.length = 0 → isK 8 sOpen q = false) := by
  intro ts q h hq
  unfold heldP
  cases kids with
  | nil =>
    have h' : ts.map Prod.fst = q := by simpa using h
    rw [isB_eq, h', hq rfl]
    exact Rds.ok h'
  | cons a r =>
    have h' : ts.map Prod.fst = sg sOpen :: (eachK (sg sComma) ((a :: r).map K) ++ (sg sShut :: q)) := by rw [h]; simp [heldK]
    rw [isB_eq, h', isK_yes, if_pos rfl]
    refine Rds.bnd (sev_back (bt := sComma) h1 hK (tail_map h') (no_comma q) (h2 q)) fun ts1 e1 => ?_
    refine Rds.bnd (key_back e1) fun ts2 e2 => Rds.ok e2
/-- Parentheses that are opened, up to those that shut them. -/
theorem open_back {Z : Prop} {E : Nat} {one : Ts → Res Tm} {K : Tm → List Tk} {St : List Tk → Prop} (h1 : ∀ q, St (sg sComma :: q)) {kids : List Tm} (hK : ∀ x ∈ kids, RdK Z one x (K x) St) (hs : ∀ x ∈ kids, ∀ q, isK 8 sShut (K x ++ q) = false)
    {ts : Ts} {q : List Tk} (h : ts.map Prod.fst = sg sOpen :: (eachK (sg sComma) (kids.map K) ++ q)) (hq : St q) (hc : isK 8 sComma q = false) (h0 : kids = [] → isK 8 sShut q = true) : Rds Z (openP E one ts) kids q := by
  unfold openP
  refine Rds.bnd (key_back h) fun ts1 e1 => ?_
  cases kids with
  | nil =>
    have e2 : ts1.map Prod.fst = q := by simpa [eachK] using e1
    show Rds Z (if isB 8 sShut ts1 = true then _ else _) _ _
    rw [isB_eq, e2, h0 rfl, if_pos rfl]
    exact Rds.ok e2
  | cons a r =>
    have hn : isB 8 sShut ts1 = false := by
      rw [isB_eq, e1]
      have := hs a (by simp) ((r.map K).flatMap (sg sComma :: ·) ++ q)
      simpa [eachK] using this
    show Rds Z (if isB 8 sShut ts1 = true then _ else _) _ _
    rw [hn]
    exact sev_back (bt := sComma) h1 hK e1 hc hq
theorem shutT_tuple {kind : Int} {kids : List Tm} (h : kids.length ≠ 1) : shutT kind kids = .mk kind e0 e0 0 kids := by
  match kids, h with
  | [], _ => rfl
  | [a], h => exact absurd rfl h
  | a :: b :: r, _ => rfl
theorem shut_back {Z : Prop} {E : Nat} {kind : Int} {kids : List Tm} {ts : Ts} {q : List Tk} (h : ts.map Prod.fst = sg sShut :: q) : Rds Z (shutP E kind kids ts) (shutT kind kids) q := by
  unfold shutP
  exact Rds.bnd (key_back h) fun ts1 e1 => Rds.ok e1
/-- A tuple; one thing in parentheses. -/
theorem tuple_back {Z : Prop} {E : Nat} {kind : Int} {one : Ts → Res Tm} {K : Tm → List Tk} {St : List Tk → Prop} (h1 : ∀ q, St (sg sComma :: q)) (h2 : ∀ q, St (sg sShut :: q)) {kids : List Tm} (hK : ∀ x ∈ kids, RdK Z one x (K x) St) (hs : ∀ x ∈ kids, ∀ q, isK 8 sShut (K x ++ q) = false) :
    RdK Z (fun ts => bnd (openP E one ts) fun l ts => shutP E kind l ts) (shutT kind kids) (heldK (kids.map K)) (fun _ => True) := by
  intro ts q h _
  have h' : ts.map Prod.fst = sg sOpen :: (eachK (sg sComma) (kids.map K) ++ (sg sShut :: q)) := by rw [h]; simp [heldK]
  exact Rds.bnd (open_back h1 hK hs h' (h2 q) (no_comma q) fun _ => isK_yes _ _ _ _) fun ts1 e1 => shut_back e1
theorem e0_list : e0.toList = [] := by rw [ByteArray.toList_eq]; rfl
theorem toList_nil {s : ByteArray} (h : s.toList = []) : s = e0 := toList_injX (by rw [h, e0_list])
theorem bare_eq {p n : ByteArray} {N : Int} (h : bareB p n N = true) : p = e0 ∧ n = e0 ∧ N = 0 := by
  unfold bareB at h
  simp only [Bool.and_eq_true, beq_iff_eq] at h
  exact ⟨toList_nil h.1, toList_nil h.2.1, h.2.2⟩
theorem qual_eq {kind : Int} {p n : ByteArray} {N : Int} (h : qualB kind p n N = true) : N = 0 ∧ QualR kind p n := by
  unfold qualB rB at h
  simp only [Bool.and_eq_true, Bool.or_eq_true, beq_iff_eq] at h
  refine ⟨h.1, rightB_of h.2.1, ?_⟩
  rcases h.2.2 with h2 | h2
  · exact .inl h2
  · exact .inr (rightB_of h2)
theorem named_eq {kind : Int} {p n : ByteArray} {N : Int} (h : namedB kind p n N = true) : p = e0 ∧ N = 0 ∧ RightT ⟨kind, n, 0⟩ := by
  unfold namedB at h
  simp only [Bool.and_eq_true, beq_iff_eq] at h
  have h2 := qual_eq h.2
  exact ⟨toList_nil h.1, h2.1, h2.2.1⟩
theorem num_eq {p n : ByteArray} {N : Int} (h : numB p n N = true) : p = e0 ∧ n = e0 ∧ RightT ⟨4, e0, N⟩ := by
  have h2 := num_r h
  unfold numB at h
  simp only [Bool.and_eq_true, beq_iff_eq] at h
  exact ⟨toList_nil h.1, toList_nil h.2.1, h2⟩
theorem len0 {α : Type} {l : List α} (h : (l.length == 0) = true) : l = [] := List.eq_nil_of_length_eq_zero (by simpa using h)
theorem qualK_plain {kind : Int} {p n : ByteArray} (h : p = e0) : qualK kind p n = [⟨kind, n, 0⟩] := by
  subst h
  unfold qualK
  rw [if_pos e0_list]
  rfl
/-- What may stand behind a type. -/
def StT (q : List Tk) : Prop := isK 8 sArrow q = false ∧ isK 8 sOpen q = false
theorem StT.comma (q : List Tk) : StT (sg sComma :: q) := ⟨isK_text (by decide), isK_text (by decide)⟩
theorem StT.shut (q : List Tk) : StT (sg sShut :: q) := ⟨isK_text (by decide), isK_text (by decide)⟩
theorem typ_head : ∀ (d : Nat) (x : Tm), typeB d x = true → ∀ q, isK 8 sShut (toks d x ++ q) = false := by
  intro d
  induction d with
  | zero => intro x h; cases h
  | succ d ih =>
    intro x h q
    obtain ⟨k, p, n, N, kids⟩ := x
    simp only [typeB] at h
    by_cases h1 : k = 1
    · subst h1; simp only [toks, if_true]; exact isK_kind (by decide)
    rw [if_neg h1] at h
    by_cases h2 : k = 2
    · subst h2
      have e : toks (d + 1) (.mk 2 p n N kids) = qualK 1 p n ++ (if kids.length = 0 then [] else heldK (kids.map (toks d))) := by simp [toks]
      rw [e]
      unfold qualK
      split
      · exact isK_kind (by decide)
      · exact isK_kind (by decide)
    rw [if_neg h2] at h
    by_cases h3 : k = 3
    · subst h3
      rw [if_pos rfl, zip_two] at h
      simp only [Bool.and_eq_true, beq_iff_eq] at h
      match kids, h with
      | [A, C], h =>
        have hA := List.all_eq_true.1 h.2.2 A (by simp)
        have e : toks (d + 1) (.mk 3 p n N [A, C]) = withinK (kdM A == 3) (toks d A) ++ (sg sArrow :: toks d C) := by simp [toks, cmpK]
        rw [e]
        unfold withinK
        split
        · exact isK_text (by decide)
        · rw [List.append_assoc]; exact ih A hA _
    rw [if_neg h3] at h
    by_cases h4 : k = 4
    · subst h4
      have e : toks (d + 1) (.mk 4 p n N kids) = heldK (kids.map (toks d)) := by simp [toks]
      rw [e]
      exact isK_text (by decide)
    rw [if_neg h4] at h
    cases h
/-- A type that stands alone, or in parentheses, is read. -/
theorem tyAtom_back {Z : Prop} {E : Nat} {one : Ts → Res Tm} {d : Nat} (H : ∀ y, typeB d y = true → RdK Z one y (toks d y) StT) {x : Tm} (h : typeB (d + 1) x = true) (h3 : ¬ kdM x = 3) :
    RdK Z (tyAtomP E one) x (toks (d + 1) x) (fun q => isK 8 sOpen q = false) := by
  obtain ⟨k, p, n, N, kids⟩ := x
  simp only [typeB] at h
  by_cases h1 : k = 1
  · subst h1
    simp only [if_true, Bool.and_eq_true] at h
    obtain ⟨rfl, rfl, hr⟩ := named_eq h.1
    obtain rfl := len0 h.2
    have e : toks (d + 1) (.mk 1 e0 n 0 []) = [⟨3, n, 0⟩] := by simp [toks]
    rw [e]
    intro ts q ht hq
    have hk : kd ts = 3 := by rw [kd_eq, ht]; rfl
    unfold tyAtomP
    rw [if_pos hk]
    exact Rds.bnd (take_back ht) fun ts1 e1 => Rds.ok e1
  rw [if_neg h1] at h
  by_cases h2 : k = 2
  · subst h2
    simp only [if_true, Bool.and_eq_true] at h
    obtain ⟨rfl, hr⟩ := qual_eq h.1
    have hall := List.all_eq_true.1 h.2
    have e : toks (d + 1) (.mk 2 p n 0 kids) = qualK 1 p n ++ (if kids.length = 0 then [] else heldK (kids.map (toks d))) := by simp [toks]
    rw [e]
    have HC : ∀ pp, RdK Z (tyConP E pp one) (.mk 2 pp n 0 kids) (⟨1, n, 0⟩ :: (if kids.length = 0 then [] else heldK (kids.map (toks d)))) (fun q => isK 8 sOpen q = false) := by
      intro pp ts q ht hq
      unfold tyConP
      refine Rds.bnd (take_back ht) fun ts1 e1 => ?_
      refine Rds.bnd (held_back (one := one) (K := toks d) StT.comma StT.shut (fun y hy => H y (hall y hy)) ts1 q e1 fun _ => hq) fun ts2 e2 => Rds.ok e2
    intro ts q ht hq
    by_cases hp : p.toList = []
    · obtain rfl := toList_nil hp
      rw [qualK_plain rfl] at ht
      have hk : kd ts = 1 := by rw [kd_eq, ht]; rfl
      unfold tyAtomP
      rw [if_neg (by rw [hk]; decide), if_neg (by rw [hk]; decide), if_pos hk]
      exact HC e0 ts q ht hq
    · have e2 : qualK 1 p n = [⟨2, p, 0⟩, sg sDot, ⟨1, n, 0⟩] := by unfold qualK; rw [if_neg hp]; rfl
      rw [e2] at ht
      have hk : kd ts = 2 := by rw [kd_eq, ht]; rfl
      unfold tyAtomP
      rw [if_neg (by rw [hk]; decide), if_pos hk]
      refine Rds.bnd (take_back ht) fun ts1 e1 => ?_
      refine Rds.bnd (key_back e1) fun ts2 e3 => ?_
      exact HC p ts2 q e3 hq
  rw [if_neg h2] at h
  have h3' : ¬ k = 3 := h3
  rw [if_neg h3'] at h
  by_cases h4 : k = 4
  · subst h4
    rw [if_pos rfl] at h
    unfold tupB at h
    simp only [Bool.and_eq_true] at h
    obtain ⟨rfl, rfl, rfl⟩ := bare_eq h.1
    have hall := List.all_eq_true.1 h.2.2
    have hne : kids.length ≠ 1 := by simpa using h.2.1
    have e : toks (d + 1) (.mk 4 e0 e0 0 kids) = heldK (kids.map (toks d)) := by simp [toks]
    rw [e]
    intro ts q ht hq
    have hk : kd ts = 8 := by rw [kd_eq, ht]; rfl
    unfold tyAtomP
    rw [if_neg (by rw [hk]; decide), if_neg (by rw [hk]; decide), if_neg (by rw [hk]; decide), ← shutT_tuple hne]
    exact tuple_back (K := toks d) StT.comma StT.shut (fun y hy => H y (hall y hy)) (fun y hy => typ_head d y (hall y hy)) ts q ht trivial
  rw [if_neg h4] at h
  cases h
theorem tyHeld_back {Z : Prop} {E : Nat} {one : Ts → Res Tm} {d : Nat} {x : Tm} (H : RdK Z one x (toks d x) StT) (h : typeB d x = true) :
    RdK Z (tyAtomP E one) x (sg sOpen :: (toks d x ++ [sg sShut])) (fun _ => True) := by
  intro ts q ht _
  have hk : kd ts = 8 := by rw [kd_eq, ht]; rfl
  unfold tyAtomP
  rw [if_neg (by rw [hk]; decide), if_neg (by rw [hk]; decide), if_neg (by rw [hk]; decide)]
  exact tuple_back (kind := 4) (K := toks d) (kids := [x]) StT.comma StT.shut (fun y hy => by cases List.mem_singleton.1 hy; exact H) (fun y hy => by cases List.mem_singleton.1 hy; exact typ_head d x h) ts q (by rw [ht]; simp [heldK, eachK]) trivial
theorem typ_back (Z : Prop) (E : Nat) : ∀ (d : Nat) (x : Tm) (g : Nat), typeB d x = true → (Z ∨ d ≤ g) → RdK Z (typP E g) x (toks d x) StT := by
  intro d
  induction d using Nat.strongRecOn with
  | ind d ih =>
  cases d with
  | zero => intro x g h; cases h
  | succ d =>
    intro x g h hz ts q ht hq
    cases g with
    | zero =>
      unfold typP
      rcases hz with hz | hz
      · exact Rds.die hz
      · omega
    | succ g =>
      have H : ∀ y, typeB d y = true → RdK Z (typP E g) y (toks d y) StT := fun y hy => ih d (by omega) y g hy (hz.imp id (by omega))
      unfold typP
      by_cases h3 : kdM x = 3
      · obtain ⟨k, p, n, N, kids⟩ := x
        obtain rfl : k = 3 := h3
        simp only [typeB, Int.reduceEq, if_false, if_true, zip_two, Bool.and_eq_true, beq_iff_eq] at h
        obtain ⟨rfl, rfl, rfl⟩ := bare_eq h.1
        match kids, h with
        | [A, C], h =>
          have hall := List.all_eq_true.1 h.2.2
          have hA := hall A (by simp)
          have hC := hall C (by simp)
          have e : toks (d + 1) (.mk 3 e0 e0 0 [A, C]) = withinK (kdM A == 3) (toks d A) ++ (sg sArrow :: toks d C) := by simp [toks, cmpK]
          rw [e, List.append_assoc] at ht
          have hA' : Rds Z (tyAtomP E (typP E g) ts) A (sg sArrow :: (toks d C ++ q)) := by
            by_cases hA3 : kdM A = 3
            · rw [show (kdM A == 3) = true by simpa using hA3] at ht
              exact tyHeld_back (H A hA) hA ts _ ht trivial
            · rw [show (kdM A == 3) = false by simpa using hA3] at ht
              cases d with
              | zero => cases hA
              | succ d =>
                have H2 : ∀ y, typeB d y = true → RdK Z (typP E g) y (toks d y) StT := fun y hy => ih d (by omega) y g hy (hz.imp id (by omega))
                exact tyAtom_back H2 hA hA3 ts _ ht (isK_text (by decide))
          refine Rds.bnd hA' fun ts1 e1 => ?_
          show Rds Z (if isB 8 sArrow ts1 = true then _ else _) _ _
          rw [isB_eq, e1, isK_yes, if_pos rfl]
          exact Rds.bnd (H C hC _ q (tail_map e1) hq) fun ts2 e2 => Rds.ok e2
      · refine Rds.bnd (tyAtom_back H h h3 ts q ht hq.2) fun ts1 e1 => ?_
        show Rds Z (if isB 8 sArrow ts1 = true then _ else _) _ _
        rw [isB_eq, e1, hq.1]
        exact Rds.ok e1
end Go.Proofs.YtmkjalnlldpdcaaGreatDoor
