/- Texts in a row: Tb Tc. -/
import Derived.Test.YtlbnaddgdgbckaaGreatDoorZ40
import Derived.Test.YtlbnaddgdgbckaaGreatDoorZ41
import Derived.Test.YtlbnaddgdgbckaaGreatDoorZ38
/- Parentheses around an expression, or a type, change nothing, unless something lies too deep then. -/
namespace Go.Proofs.YtlbnaddgdgbckaaGreatDoor
set_option linter.unusedSimpArgs false
set_option linter.unusedVariables false
theorem kd_shut {us : Ts} (h : isB 8 sShut us = true) : kd us = 8 ∧ tx us = sShut := isB_kd h
theorem isB_other {k k' : Int} {x : ByteArray} {us : Ts} (h : kd us = k) (hk : k ≠ k') : ¬ isB k' x us = true := fun e => hk (h.symm.trans (isB_kd e).1)
theorem isB_text {k : Int} {x y : ByteArray} {us : Ts} (h : tx us = x) (hk : x ≠ y) : ¬ isB k y us = true := fun e => hk (h.symm.trans (isB_kd e).2)
theorem open_shut {E : Nat} {f : Ts → Res Tm} {us : Ts} (h : isB 8 sShut us = true) : ∃ p, openP E f us = .error p := by
  refine ⟨((nx E us).2, 10), ?_⟩
  unfold openP keyP
  rw [if_neg (isB_text (kd_shut h).2 (by decide))]
  rfl
theorem expr_shut (E g : Nat) {us : Ts} (h : isB 8 sShut us = true) : ∃ p, exprP E g us = .error p := by
  obtain ⟨h1, h2⟩ := kd_shut h
  cases g with
  | zero => exact ⟨_, rfl⟩
  | succ g =>
    obtain ⟨p, hp⟩ := open_shut (E := E) (f := exprP E g) h
    refine ⟨p, ?_⟩
    unfold exprP
    rw [if_neg (isB_other h1 (by decide)), if_neg (isB_other h1 (by decide)), if_neg (isB_other h1 (by decide))]
    unfold appP atomP
    rw [if_neg (by rw [h1]; decide), if_neg (by rw [h1]; decide), if_neg (by rw [h1]; decide), if_neg (by rw [h1]; decide), hp]
    rfl
theorem typ_shut (E g : Nat) {us : Ts} (h : isB 8 sShut us = true) : ∃ p, typP E g us = .error p := by
  obtain ⟨h1, h2⟩ := kd_shut h
  cases g with
  | zero => exact ⟨_, rfl⟩
  | succ g =>
    obtain ⟨p, hp⟩ := open_shut (E := E) (f := typP E g) h
    refine ⟨p, ?_⟩
    unfold typP tyAtomP
    rw [if_neg (by rw [h1]; decide), if_neg (by rw [h1]; decide), if_neg (by rw [h1]; decide), hp]
    rfl
theorem exprP_open (E g : Nat) (us : Ts) : exprP E (g + 1) (tokO :: us) =
    bnd (bnd (if isB 8 sShut us then .ok ([], us) else sevP E sComma (exprP E g) us) fun l ts =>
      if l.length = 1 ∧ isB 8 sColon ts = true then bnd (annP E (typP E g) ts) fun a ts => shutP E 25 [.mk 30 e0 e0 0 (l ++ a)] ts
      else shutP E 25 l ts) fun t ts => appF E (atomP E (exprP E g) (typP E g)) 50 t ts := rfl
theorem typP_open (E g : Nat) (us : Ts) : typP E (g + 1) (tokO :: us) =
    bnd (bnd (if isB 8 sShut us then .ok ([], us) else sevP E sComma (typP E g) us) fun l ts => shutP E 4 l ts) fun t ts =>
      if isB 8 sArrow ts then bnd (typP E g ts.tail) fun u ts => .ok (.mk 3 e0 e0 0 [t, u], ts) else .ok (t, ts) := rfl
theorem sev_one {E : Nat} {f : Ts → Res Tm} {us rest : Ts} {x : Tm} (h : f us = .ok (x, tokC :: rest)) : sevP E sComma f us = .ok ([x], tokC :: rest) := by
  unfold sevP
  rw [h]
  rfl
theorem sev_err {E : Nat} {f : Ts → Res Tm} {us : Ts} {p : Nat × Nat} (h : f us = .error p) : sevP E sComma f us = .error p := by
  unfold sevP
  rw [h]
  rfl
theorem expr_wrap {E g : Nat} {us rest : Ts} {x : Tm} (h : exprP E g us = .ok (x, tokC :: rest)) (hr : begB rest = false) : exprP E (g + 1) (tokO :: us) = .ok (x, rest) := by
  have hn : ¬ isB 8 sShut us = true := fun e => by
    obtain ⟨p, hp⟩ := expr_shut E g e
    rw [hp] at h
    cases h
  rw [exprP_open, if_neg hn, sev_one h]
  show appF E (atomP E (exprP E g) (typP E g)) 50 x rest = _
  unfold appF
  rw [hr]
  rfl
theorem typ_wrap {E g : Nat} {us rest : Ts} {x : Tm} (h : typP E g us = .ok (x, tokC :: rest)) (hr : isB 8 sArrow rest = false) : typP E (g + 1) (tokO :: us) = .ok (x, rest) := by
  have hn : ¬ isB 8 sShut us = true := fun e => by
    obtain ⟨p, hp⟩ := typ_shut E g e
    rw [hp] at h
    cases h
  rw [typP_open, if_neg hn, sev_one h]
  show (if isB 8 sArrow rest = true then _ else _) = _
  rw [hr]
  rfl
theorem expr_wrap9 {E g : Nat} {us : Ts} {p : Nat × Nat} (h : exprP E g us = .error p) (hn : ¬ isB 8 sShut us = true) : exprP E (g + 1) (tokO :: us) = .error p := by
  rw [exprP_open, if_neg hn, sev_err h]
  rfl
theorem typ_wrap9 {E g : Nat} {us : Ts} {p : Nat × Nat} (h : typP E g us = .error p) (hn : ¬ isB 8 sShut us = true) : typP E (g + 1) (tokO :: us) = .error p := by
  rw [typP_open, if_neg hn, sev_err h]
  rfl
theorem inert_shuts {n : Nat} (hn : 1 ≤ n) : Inert (List.replicate n tokC) := by
  obtain ⟨k, rfl⟩ : ∃ k, n = k + 1 := ⟨n - 1, by omega⟩
  exact .inl ⟨rfl, rfl⟩
theorem beg_shuts (n : Nat) : begB (List.replicate n tokC) = false := by cases n <;> rfl
theorem arrow_shuts (n : Nat) : isB 8 sArrow (List.replicate n tokC) = false := by cases n <;> rfl
theorem parens_exprP {E n : Nat} (h1 : 1 ≤ n) (h2 : n ≤ 40) {ts : Ts} {x : Tm} (h : exprP E 40 ts = .ok (x, [])) : ∀ k, k ≤ n →
    exprP E (40 - n + k) (List.replicate k tokO ++ (ts ++ List.replicate n tokC)) = .ok (x, List.replicate (n - k) tokC) ∨ ∃ p, exprP E (40 - n + k) (List.replicate k tokO ++ (ts ++ List.replicate n tokC)) = .error (p, 9) := by
  have h3 := exprP_x E 40 ts x [] h (List.replicate n tokC) (inert_shuts h1)
  rw [List.nil_append] at h3
  have hs : ∀ k, ¬ isB 8 sShut (List.replicate k tokO ++ (ts ++ List.replicate n tokC)) = true := by
    intro k e
    cases k with
    | zero =>
      obtain ⟨p, hp⟩ := expr_shut E 40 e
      rw [List.replicate_zero, List.nil_append] at hp
      rw [hp] at h3
      cases h3
    | succ k => exact absurd e (by rw [List.replicate_succ, List.cons_append]; exact Bool.noConfusion)
  intro k
  induction k with
  | zero =>
    intro _
    have h4 := exprP_l E (40 - n) n (ts ++ List.replicate n tokC)
    rw [Nat.sub_add_cancel h2, h3] at h4
    rw [List.replicate_zero, List.nil_append, Nat.add_zero, Nat.sub_zero]
    exact h4
  | succ k ih =>
    intro hk
    rw [List.replicate_succ, List.cons_append, ← Nat.add_assoc]
    rcases ih (by omega) with h5 | ⟨p, h5⟩
    · left
      rw [show n - k = (n - (k + 1)) + 1 by omega, List.replicate_succ] at h5
      exact expr_wrap h5 (beg_shuts _)
    · right
      exact ⟨p, expr_wrap9 h5 (hs k)⟩
theorem parens_typP {E n : Nat} (h1 : 1 ≤ n) (h2 : n ≤ 40) {ts : Ts} {x : Tm} (h : typP E 40 ts = .ok (x, [])) : ∀ k, k ≤ n →
    typP E (40 - n + k) (List.replicate k tokO ++ (ts ++ List.replicate n tokC)) = .ok (x, List.replicate (n - k) tokC) ∨ ∃ p, typP E (40 - n + k) (List.replicate k tokO ++ (ts ++ List.replicate n tokC)) = .error (p, 9) := by
  have h3 := typP_x E 40 ts x [] h (List.replicate n tokC) (inert_shuts h1)
  rw [List.nil_append] at h3
  have hs : ∀ k, ¬ isB 8 sShut (List.replicate k tokO ++ (ts ++ List.replicate n tokC)) = true := by
    intro k e
    cases k with
    | zero =>
      obtain ⟨p, hp⟩ := typ_shut E 40 e
      rw [List.replicate_zero, List.nil_append] at hp
      rw [hp] at h3
      cases h3
    | succ k => exact absurd e (by rw [List.replicate_succ, List.cons_append]; exact Bool.noConfusion)
  intro k
  induction k with
  | zero =>
    intro _
    have h4 := typP_l E (40 - n) n (ts ++ List.replicate n tokC)
    rw [Nat.sub_add_cancel h2, h3] at h4
    rw [List.replicate_zero, List.nil_append, Nat.add_zero, Nat.sub_zero]
    exact h4
  | succ k ih =>
    intro hk
    rw [List.replicate_succ, List.cons_append, ← Nat.add_assoc]
    rcases ih (by omega) with h5 | ⟨p, h5⟩
    · left
      rw [show n - k = (n - (k + 1)) + 1 by omega, List.replicate_succ] at h5
      exact typ_wrap h5 (arrow_shuts _)
    · right
      exact ⟨p, typ_wrap9 h5 (hs k)⟩
theorem whole_ok {α : Type} {E : Nat} {f : Ts → Res α} {ts : Ts} {x : α} (h : wholeP E f ts = .ok x) : f ts = .ok (x, []) := by
  unfold wholeP at h
  cases hx : f ts with
  | error e => rw [hx] at h; cases h
  | ok y =>
    obtain ⟨a, us⟩ := y
    rw [hx] at h
    simp only [] at h
    by_cases h0 : us.length = 0
    · rw [if_pos h0] at h
      cases h
      rw [List.length_eq_zero_iff.1 h0]
    · rw [if_neg h0] at h
      cases h
theorem read_ok {α : Type} {s : ByteArray} {one : Nat → Ts → Res α} {x : α} (h : readM s one = .ok x) : ∃ r, lexM s = (r, 0, 0) ∧ one s.size r = .ok (x, []) := by
  unfold readM at h
  by_cases h0 : (lexM s).2.2 = 0
  · rw [if_neg (fun e => e h0)] at h
    have h1 := (lexM_lexed h0).2.2.2
    exact ⟨(lexM s).1, Prod.ext rfl (Prod.ext h1 h0), whole_ok h⟩
  · rw [if_pos h0] at h
    cases h
/-- A source, with parentheses around it. -/
def parL (n : Nat) (l : List UInt8) : List UInt8 := List.replicate n 40 ++ (l ++ 10 :: List.replicate n 41)
theorem map_rep (n : Nat) (x : Tk × Nat) : (List.replicate n x).map Prod.fst = List.replicate n x.1 := List.map_replicate
theorem parens_read {one : Nat → Ts → Res Tm} (hs : ∀ E E', Sim1 (one E) (one E'))
    (hp : ∀ {E n : Nat} {ts : Ts} {x : Tm}, 1 ≤ n → n ≤ 40 → one E ts = .ok (x, []) → one E (List.replicate n tokO ++ (ts ++ List.replicate n tokC)) = .ok (x, []) ∨ ∃ p, one E (List.replicate n tokO ++ (ts ++ List.replicate n tokC)) = .error (p, 9))
    {s t : ByteArray} {n : Nat} (hn : 1 ≤ n) (hn3 : n ≤ 3) (hz : s.size ≤ 3000) (ht : t.data.toList = parL n s.data.toList) {x : Tm} (h : readM s one = .ok x) :
    readM t one = .ok x ∨ ∃ p, readM t one = .error (p, 9) := by
  obtain ⟨r, h1, h2⟩ := read_ok h
  obtain ⟨h3, h4⟩ := lexM_S h1
  have hf := h3.few
  rw [len_list, List.length_map] at hf
  have h5 : LexS t.data.toList (List.replicate n tokO.1 ++ (r.map Prod.fst ++ List.replicate n tokC.1)) := by
    rw [ht]
    exact lexS_opens (h3.app (lexS_shuts n)) n
  have hsz : t.size = s.size + 2 * n + 1 := by
    have := congrArg List.length ht
    unfold parL at this
    rw [len_list] at this
    simp at this
    omega
  obtain ⟨r', h6, h7⟩ := h5.lexM (by omega) (by simp; omega)
  have h8 := hs s.size t.size r r rfl
  rw [h2] at h8
  cases hx : one t.size r with
  | error p => rw [hx] at h8; exact h8.elim
  | ok y =>
    obtain ⟨x', us⟩ := y
    rw [hx] at h8
    obtain ⟨h9, h10⟩ := h8
    obtain rfl : x = x' := h9
    have hus : us = [] := by
      have := Eqv.len h10
      exact List.length_eq_zero_iff.1 this.symm
    subst hus
    have he : Eqv (List.replicate n tokO ++ (r ++ List.replicate n tokC)) r' := by
      show List.map Prod.fst _ = List.map Prod.fst r'
      rw [h7, List.map_append, List.map_append, map_rep, map_rep]
    have h11 := hs t.size t.size _ _ he
    have h12 : readM t one = wholeP t.size (one t.size) r' := by
      unfold readM
      rw [h6, if_neg (fun h => h rfl)]
    rw [h12]
    unfold wholeP
    rcases hp hn (by omega) hx with h13 | ⟨p, h13⟩
    · rw [h13] at h11
      cases hy : one t.size r' with
      | error p => rw [hy] at h11; exact h11.elim
      | ok z =>
        obtain ⟨z, vs⟩ := z
        rw [hy] at h11
        obtain ⟨h14, h15⟩ := h11
        obtain rfl : x = z := h14
        left
        show (if vs.length = 0 then _ else _) = _
        rw [if_pos (show vs.length = 0 from (Eqv.len h15).symm)]
    · rw [h13] at h11
      cases hy : one t.size r' with
      | ok z => rw [hy] at h11; exact h11.elim
      | error q =>
        rw [hy] at h11
        obtain ⟨q1, q2⟩ := q
        obtain rfl : 9 = q2 := h11
        exact .inr ⟨q1, rfl⟩
theorem parens_expr {s t : ByteArray} {n : Nat} (hn : 1 ≤ n) (hn3 : n ≤ 3) (hz : s.size ≤ 3000) (ht : t.data.toList = parL n s.data.toList) {x : Tm} (h : exprM s = .ok x) :
    exprM t = .ok x ∨ ∃ p, exprM t = .error (p, 9) :=
  parens_read (one := fun E ts => exprP E 40 ts) (fun E E' => exprP_s E E' 40) (fun {E n ts x} h1 h2 h => by
    have := parens_exprP h1 h2 h n (Nat.le_refl _)
    rw [Nat.sub_add_cancel h2, Nat.sub_self, List.replicate_zero] at this
    exact this) hn hn3 hz ht h
theorem parens_typ {s t : ByteArray} {n : Nat} (hn : 1 ≤ n) (hn3 : n ≤ 3) (hz : s.size ≤ 3000) (ht : t.data.toList = parL n s.data.toList) {x : Tm} (h : typM s = .ok x) :
    typM t = .ok x ∨ ∃ p, typM t = .error (p, 9) :=
  parens_read (one := fun E ts => typP E 40 ts) (fun E E' => typP_s E E' 40) (fun {E n ts x} h1 h2 h => by
    have := parens_typP h1 h2 h n (Nat.le_refl _)
    rw [Nat.sub_add_cancel h2, Nat.sub_self, List.replicate_zero] at this
    exact this) hn hn3 hz ht h
/-- A source that is read has no fault 0. -/
theorem readM_err {α : Type} {s : ByteArray} {one : Nat → Ts → Res α} {y : Nat × Nat} (h9 : ∀ E ts p, one E ts = .error p → p.2 ≠ 0) (h : readM s one = .error y) : y.2 ≠ 0 := by
  unfold readM at h
  split at h
  · rename_i h0
    cases h
    exact h0
  · unfold wholeP at h
    split at h
    · rename_i e he
      cases h
      exact h9 _ _ _ he
    · split at h
      · cases h
      · cases h; exact (by decide : (10 : Nat) ≠ 0)
end Go.Proofs.YtlbnaddgdgbckaaGreatDoor
/- ParseParens: the walk. -/
namespace Go.Proofs.YtlbnaddgdgbckaaGreatDoor
open Go.RowKit
set_option linter.unusedSimpArgs false
set_option linter.unusedVariables false
/-- A reader's answer: what it read, and the number of its fault. -/
def ExprZ (z : Int) (X : Except (Nat × Nat) Tm) (w : World) (e : Ending) (w' : World) : Prop := ∃ (k : Int) (p n : ByteArray) (N : Int) (q : Option Addr) (l c a : Nat), e = .returned (.tuple #[tv k p n N (.slice q l c), .int .i64 a, .int .i64 z]) ∧ Below w.heap.size w w' ∧ (∀ t, X = .ok t → TmV w w' (tv k p n N (.slice q l c)) t)
theorem exprR_z {s : ByteArray} {z : Int} (hz : ((errOf (exprM s) : Nat) : Int) = z) (hm : s.size ≤ 4194304) (w : World) (hw : EscW w) : Calls Tryz.prog 12 #[.string s] w (ExprZ z (exprM s) w) := by
  refine (exprR_any s hm w hw).mono ?_
  rintro e w' ⟨hb, h2⟩
  subst hz
  cases h : exprM s with
  | ok t =>
    rw [h] at h2
    obtain ⟨v, rfl, hV⟩ := h2
    obtain ⟨k, p, n, N, q, l, c, rfl⟩ := hV.shape
    exact ⟨k, p, n, N, q, l, c, 0, rfl, hb, fun t' e => by cases e; exact hV⟩
  | error y =>
    rw [h] at h2
    exact ⟨0, ⟨#[]⟩, ⟨#[]⟩, 0, none, 0, 0, y.1, h2, hb, fun t' e => by cases e⟩
theorem typR_z {s : ByteArray} {z : Int} (hz : ((errOf (typM s) : Nat) : Int) = z) (hm : s.size ≤ 4194304) (w : World) (hw : EscW w) : Calls Tryz.prog 13 #[.string s] w (ExprZ z (typM s) w) := by
  refine (typR_any s hm w hw).mono ?_
  rintro e w' ⟨hb, h2⟩
  subst hz
  cases h : typM s with
  | ok t =>
    rw [h] at h2
    obtain ⟨v, rfl, hV⟩ := h2
    obtain ⟨k, p, n, N, q, l, c, rfl⟩ := hV.shape
    exact ⟨k, p, n, N, q, l, c, 0, rfl, hb, fun t' e => by cases e; exact hV⟩
  | error y =>
    rw [h] at h2
    exact ⟨0, ⟨#[]⟩, ⟨#[]⟩, 0, none, 0, 0, y.1, h2, hb, fun t' e => by cases e⟩
theorem par_n (x : Int) (h1 : -9223372036854775808 ≤ x) (h2 : x ≤ 9223372036854775807) : ∃ n : Nat, 1 ≤ n ∧ n ≤ 3 ∧ RowKit.wrap64 (1 + (RowKit.wrap64 (x.tmod 3 + 3)).tmod 3) = (n : Int) := by
  have b1 := Int.lt_tmod_of_pos x (b := 3) (by decide)
  have b2 := Int.tmod_lt_of_pos x (b := 3) (by decide)
  have e : RowKit.wrap64 (x.tmod 3 + 3) = x.tmod 3 + 3 := by unfold RowKit.wrap64; omega
  rw [e]
  have b3 := Int.tmod_nonneg (a := x.tmod 3 + 3) 3 (by omega)
  have b4 := Int.tmod_lt_of_pos (x.tmod 3 + 3) (b := 3) (by decide)
  have e2 : RowKit.wrap64 (1 + (x.tmod 3 + 3).tmod 3) = 1 + (x.tmod 3 + 3).tmod 3 := by unfold RowKit.wrap64; omega
  rw [e2]
  exact ⟨(1 + (x.tmod 3 + 3).tmod 3).toNat, by omega, by omega, by omega⟩
/-- Of a source, and the one with parentheses around: what their answers may be. -/
def Around (z1 z2 : Int) (X1 X2 : Except (Nat × Nat) Tm) : Prop := z1 ≠ 0 ∨ (z1 = 0 ∧ z2 = 9) ∨ (z1 = 0 ∧ z2 = 0 ∧ ∃ t, X1 = .ok t ∧ X2 = .ok t)
theorem par_list {s : ByteArray} {n : Nat} (h1 : 1 ≤ n) (h3 : n ≤ 3) : ((⟨#[40, 40, 40]⟩ : ByteArray).extract 0 n ++ s ++ ⟨#[10]⟩ ++ (⟨#[41, 41, 41]⟩ : ByteArray).extract 0 n).data.toList = parL n s.data.toList := by
  have hn : n = 1 ∨ n = 2 ∨ n = 3 := by omega
  rcases hn with rfl | rfl | rfl <;> simp [parL, List.replicate, ByteArray.data_append, ByteArray.data_extract]
theorem errOf_pos {X : Except (Nat × Nat) Tm} (h : ∀ y, X = .error y → y.2 ≠ 0) {y : Nat × Nat} (hX : X = .error y) : ((errOf X : Nat) : Int) ≠ 0 := by
  subst hX
  have := h y rfl
  show ((y.2 : Nat) : Int) ≠ 0
  omega
end Go.Proofs.YtlbnaddgdgbckaaGreatDoor
