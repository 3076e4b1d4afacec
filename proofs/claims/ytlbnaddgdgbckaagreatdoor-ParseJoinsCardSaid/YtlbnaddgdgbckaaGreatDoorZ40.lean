/- Texts in a row: Ta Rf. -/
import Derived.Test.YtlbnaddgdgbckaaGreatDoorZ37
/- Two sources with a byte 10 between are cut into the tokens of both; parentheses around a source. -/
namespace Go.Proofs.YtlbnaddgdgbckaaGreatDoor
open Go.RowKit
set_option linter.unusedSimpArgs false
set_option linter.unusedVariables false
theorem apart10 : apart 10 := by unfold apart; decide
/-- A token is read from a text with such a byte behind. -/
theorem firstT_more {x y : List UInt8} {t : Tk} {n : Nat} (hy : ∀ c, y.head? = some c → apart c) (h : firstT (ofL x) = (t, n)) (h0 : 0 < n) : firstT (ofL (x ++ y)) = (t, n) := by
  have hn := first_le h
  cases hc : x[0]? with
  | none => rw [firstT_none hc] at h; cases h; omega
  | some c =>
    have hc' : (x ++ y)[0]? = some c := by rw [List.getElem?_append_left (by omega), hc]
    rw [firstT_at hc] at h
    rw [firstT_at hc', cnt_app nmB y fun c hc => (hy c hc).1]
    by_cases h1 : (smB c || (decide (c.toNat = 95) && decide (1 < cnt nmB x))) = true
    · rw [if_pos h1] at h ⊢
      exact nameT_ext (fun c hc => (hy c hc).1) h
    · rw [if_neg h1] at h ⊢
      by_cases h2 : grB c = true
      · rw [if_pos h2] at h ⊢
        exact nameT_ext (fun c hc => (hy c hc).1) h
      · rw [if_neg h2] at h ⊢
        by_cases h3 : c.toNat = 39
        · rw [if_pos h3] at h ⊢
          exact varT_ext (fun c hc => (hy c hc).2.1) h h0
        · rw [if_neg h3] at h ⊢
          by_cases h4 : c.toNat = 34
          · rw [if_pos h4] at h ⊢
            exact textT_agree h h0 fun j hj => by rw [List.getElem?_append_left (by omega)]
          · rw [if_neg h4] at h ⊢
            have hp : (dgB c || (decide (c.toNat = 45) && !Lib.hasPrefix (x ++ y) [45, 62])) = (dgB c || (decide (c.toNat = 45) && !Lib.hasPrefix x [45, 62])) := by
              by_cases h6 : c.toNat = 45
              · by_cases h7 : 2 ≤ x.length
                · rw [hp2, hp2, take_app_le _ _ h7]
                · exfalso
                  have hx : x = [45] := by
                    match x, hc, h7 with
                    | [], hc, _ => cases hc
                    | [d], hc, _ =>
                      have : d = c := by simpa using hc
                      subst this
                      rw [show d = 45 from UInt8.toNat_inj.1 h6]
                    | _ :: _ :: _, _, h7 => simp at h7
                  subst hx
                  have hh : Lib.hasPrefix [45] [45, 62] = false := rfl
                  have h8 : (dgB c || (decide (c.toNat = 45) && !Lib.hasPrefix [45] [45, 62])) = true := by rw [hh, h6]; simp
                  rw [if_pos h8, num45] at h
                  cases h
                  omega
              · rw [show decide (c.toNat = 45) = false from by simpa using h6, Bool.false_and, Bool.false_and]
            rw [hp]
            by_cases h5 : (dgB c || (decide (c.toNat = 45) && !Lib.hasPrefix x [45, 62])) = true
            · rw [if_pos h5] at h ⊢
              exact numT_ext (fun c hc => ⟨(hy c hc).2.2.2.1, (hy c hc).2.2.2.2, (hy c hc).2.2.1⟩) h h0
            · rw [if_neg h5] at h ⊢
              rw [signT_ofL] at h ⊢
              by_cases h6 : c.toNat = 45
              · rw [if_pos h6] at h ⊢
                have : 2 = n := congrArg Prod.snd h
                rw [take_app_le _ _ (by omega)]
                exact h
              · rw [if_neg h6] at h ⊢
                by_cases h7 : sgB c.toNat = true
                · rw [if_pos h7] at h ⊢
                  have : 1 = n := congrArg Prod.snd h
                  rw [take_app_le _ _ (by omega)]
                  exact h
                · rw [if_neg h7] at h ⊢
                  exact h
theorem cnt_all (p : UInt8 → Bool) (y : List UInt8) : ∀ x : List UInt8, cnt p (x ++ y) = if cnt p x < x.length then cnt p x else x.length + cnt p y := by
  intro x
  induction x with
  | nil => simp
  | cons c x ih =>
    unfold cnt at ih ⊢
    rw [List.cons_append, List.takeWhile_cons, List.takeWhile_cons]
    cases hp : p c with
    | false => simp
    | true =>
      simp only [if_true, List.length_cons]
      rw [ih]
      split <;> rename_i h
      · rw [if_pos (by omega)]
      · rw [if_neg (by omega)]; omega
theorem hp_app {l y : List UInt8} (hl : l ≠ []) (hy : ∀ c, y.head? = some c → c ≠ 45) : Lib.hasPrefix (l ++ y) [45, 45] = Lib.hasPrefix l [45, 45] := by
  rw [hp2, hp2]
  match l, hl with
  | [], hl => exact absurd rfl hl
  | [a], _ =>
    cases y with
    | nil => rfl
    | cons c r =>
      have hc := hy c rfl
      rw [Bool.eq_iff_iff]
      simp [hc]
  | a :: b :: r, _ => rfl
theorem sn10 (rest : List UInt8) : sn (10 :: rest) = 1 + cnt blB rest := by
  unfold sn
  have hq : Lib.hasPrefix (10 :: rest) [45, 45] = false := by
    rw [hp2, beq_eq_false_iff_ne]
    intro e
    have := congrArg List.head? e
    rw [head_take (by omega)] at this
    cases this
  rw [hq]
  simp only [Bool.false_eq_true, if_false]
  unfold cnt
  rw [List.takeWhile_cons, if_pos (by decide), List.length_cons]
  omega
theorem sk_run (l : List UInt8) : skM l = cnt blB l + skM (l.drop (cnt blB l)) := by
  by_cases h : cnt blB l = 0
  · rw [h]; simp
  · have hq : Lib.hasPrefix l [45, 45] = false := by
      cases l with
      | nil => rfl
      | cons c r =>
        rw [hp2, beq_eq_false_iff_ne]
        intro e
        have e2 := congrArg List.head? e
        rw [head_take (by omega)] at e2
        have e3 : c = 45 := by simpa using e2
        subst e3
        apply h
        unfold cnt
        rw [List.takeWhile_cons, if_neg (by decide)]
        rfl
    have hs : sn l = cnt blB l := by unfold sn; rw [hq]; simp
    have := skM_step (l := l) (by omega)
    rw [hs] at this
    exact this
theorem sk10 (rest : List UInt8) : skM (10 :: rest) = 1 + skM rest := by
  rw [skM_step (by rw [sn10]; omega), sn10, Nat.add_comm 1, List.drop_succ_cons, sk_run rest]
  omega
theorem sk_app (rest : List UInt8) : ∀ (k : Nat) (l : List UInt8), l.length = k → skM (l ++ 10 :: rest) = if skM l = l.length then l.length + 1 + skM rest else skM l := by
  intro k
  induction k using Nat.strongRecOn with
  | ind k ih =>
    intro l hk
    by_cases hl : l = []
    · subst hl
      rw [List.nil_append, sk10, sk_nil]
      simp
    · have hpos := List.length_pos_iff.2 hl
      have hpre := hp_app (y := 10 :: rest) hl (fun c hc => by cases hc; decide)
      have step : ∀ j, sn (l ++ 10 :: rest) = j → sn l = j → 0 < j → skM (l ++ 10 :: rest) = if skM l = l.length then l.length + 1 + skM rest else skM l := by
        intro j h1 h2 h3
        have hle := sn_le l
        have hskl := skM_le _ (l.drop j) rfl
        have h4 := ih (l.drop j).length (by rw [List.length_drop]; omega) (l.drop j) rfl
        rw [skM_step (l := l ++ 10 :: rest) (by omega), h1, List.drop_append_of_le_length (by omega), h4, skM_step (l := l) (by omega), h2]
        rw [List.length_drop] at hskl ⊢
        split <;> rename_i h5
        · rw [if_pos (by omega)]; omega
        · rw [if_neg (by omega)]
      cases hp : Lib.hasPrefix l [45, 45] with
      | true =>
        rw [hp] at hpre
        have h1 : sn l = cnt notNl l := by unfold sn; rw [hp]; rfl
        have h2 : sn (l ++ 10 :: rest) = cnt notNl l := by unfold sn; rw [hpre]; exact cnt_app notNl _ (fun c hc => by cases hc; rfl) l
        refine step _ h2 h1 ?_
        rw [hp2] at hp
        cases l with
        | nil => cases hp
        | cons c r =>
          have e := congrArg List.head? (show (c :: r).take 2 = [45, 45] by simpa using hp)
          rw [head_take (by omega)] at e
          have e3 : c = 45 := by simpa using e
          subst e3
          unfold cnt
          rw [List.takeWhile_cons, if_pos (by decide)]
          simp
      | false =>
        rw [hp] at hpre
        have h1 : sn l = cnt blB l := by unfold sn; rw [hp]; simp
        have h2 : sn (l ++ 10 :: rest) = cnt blB (l ++ 10 :: rest) := by unfold sn; rw [hpre]; simp
        rw [cnt_all] at h2
        by_cases h3 : cnt blB l < l.length
        · rw [if_pos h3] at h2
          by_cases h4 : cnt blB l = 0
          · rw [skM_zero (l := l) (by omega), skM_zero (l := l ++ 10 :: rest) (by omega), if_neg (by omega)]
          · exact step _ h2 h1 (by omega)
        · have hle := cnt_le blB l
          have e1 : cnt blB l = l.length := by omega
          have e2 : skM l = l.length := by
            rw [skM_step (by omega), h1, e1, List.drop_length, sk_nil]
            omega
          rw [if_pos e2]
          have e3 : cnt blB (l ++ 10 :: rest) = l.length + cnt blB (10 :: rest) := by rw [cnt_all, if_neg h3]
          rw [sk_run (l ++ 10 :: rest), e3, ← List.drop_drop, List.drop_left, Nat.add_assoc, ← sk_run (10 :: rest), sk10]
          omega
theorem Lexed.shift {l : List UInt8} {i : Nat} {r : List (Tk × Nat)} (h : Lexed l i r) : ∀ j, ∃ r', Lexed l j r' ∧ r'.map Prod.fst = r.map Prod.fst := by
  induction h with
  | nil i => intro j; exact ⟨[], .nil j, rfl⟩
  | cons l i n m t r h h0 hm hr ih =>
    intro j
    obtain ⟨r', h1, h2⟩ := ih (j + n + m)
    exact ⟨(t, j) :: r', .cons l j n m t r' h h0 hm h1, by rw [List.map_cons, List.map_cons, h2]⟩
theorem Lexed.nil_of {l : List UInt8} {i : Nat} {r : List (Tk × Nat)} (h : Lexed l i r) (e : l = []) : r = [] := by
  induction h with
  | nil i => rfl
  | cons l i n m t r h h0 hm hr _ => exact absurd e (first_ne h h0)
/-- A source, behind its blanks, has these tokens. -/
def LexS (l : List UInt8) (q : List Tk) : Prop := ∃ r, Lexed (l.drop (skM l)) (skM l) r ∧ r.map Prod.fst = q
theorem LexS.at {l : List UInt8} {q : List Tk} (h : LexS l q) (j : Nat) : ∃ r, Lexed (l.drop (skM l)) j r ∧ r.map Prod.fst = q := by
  obtain ⟨r, h1, h2⟩ := h
  obtain ⟨r', h3, h4⟩ := h1.shift j
  exact ⟨r', h3, h4.trans h2⟩
theorem LexS.of {l : List UInt8} {q : List Tk} {j : Nat} {r : List (Tk × Nat)} (h : Lexed (l.drop (skM l)) j r) (hq : r.map Prod.fst = q) : LexS l q := by
  obtain ⟨r', h3, h4⟩ := h.shift (skM l)
  exact ⟨r', h3, h4.trans hq⟩
theorem Lexed.app {l : List UInt8} {i : Nat} {r : List (Tk × Nat)} {rest : List UInt8} {q : List Tk} (hq : LexS rest q) (h : Lexed l i r) : l ≠ [] → ∃ r', Lexed (l ++ 10 :: rest) i r' ∧ r'.map Prod.fst = r.map Prod.fst ++ q := by
  induction h with
  | nil i => intro hl; exact absurd rfl hl
  | cons l i n m t r h h0 hm hr ih =>
    intro _
    have hle := first_le h
    have h1 : firstT (ofL (l ++ 10 :: rest)) = (t, n) := firstT_more (fun c hc => by cases hc; exact apart10) h h0
    have h2 : (l ++ 10 :: rest).drop n = l.drop n ++ 10 :: rest := List.drop_append_of_le_length hle
    have h3 := sk_app rest _ (l.drop n) rfl
    have hsk := skM_le _ (l.drop n) rfl
    rw [hm] at h3 hsk
    rw [List.length_drop] at h3 hsk
    by_cases hall : m = l.length - n
    · rw [if_pos hall] at h3
      have hnil : l.drop (n + m) = [] := List.drop_eq_nil_of_le (by omega)
      rw [hnil] at hr
      obtain rfl : r = [] := hr.nil_of rfl
      obtain ⟨r', h4, h5⟩ := hq.at (i + n + (l.length - n + 1 + skM rest))
      refine ⟨(t, i) :: r', .cons _ i n (l.length - n + 1 + skM rest) t r' h1 h0 (by rw [h2]; exact h3) ?_, by rw [List.map_cons, h5]; rfl⟩
      have e : (l ++ 10 :: rest).drop (n + (l.length - n + 1 + skM rest)) = rest.drop (skM rest) := by
        rw [show n + (l.length - n + 1 + skM rest) = l.length + (skM rest + 1) by omega, ← List.drop_drop, List.drop_left, List.drop_succ_cons]
      rw [e]
      exact h4
    · rw [if_neg hall] at h3
      obtain ⟨r', h4, h5⟩ := ih (fun e => by have := congrArg List.length e; rw [List.length_drop, List.length_nil] at this; omega)
      refine ⟨(t, i) :: r', .cons _ i n m t r' h1 h0 (by rw [h2]; exact h3) ?_, by rw [List.map_cons, h5]; rfl⟩
      rw [List.drop_append_of_le_length (by omega)]
      exact h4
theorem LexS.app {l rest : List UInt8} {p q : List Tk} (h1 : LexS l p) (h2 : LexS rest q) : LexS (l ++ 10 :: rest) (p ++ q) := by
  obtain ⟨r, h3, h4⟩ := h1
  have h5 := sk_app rest _ l rfl
  have hsk := skM_le _ l rfl
  by_cases hall : skM l = l.length
  · rw [if_pos hall] at h5
    have hnil : l.drop (skM l) = [] := List.drop_eq_nil_of_le (by omega)
    rw [hnil] at h3
    obtain rfl : r = [] := h3.nil_of rfl
    rw [List.map_nil] at h4
    subst h4
    obtain ⟨r', h6, h7⟩ := h2
    refine LexS.of (r := r') (j := skM rest) ?_ h7
    rw [h5, show l.length + 1 + skM rest = l.length + (skM rest + 1) by omega, ← List.drop_drop, List.drop_left, List.drop_succ_cons]
    exact h6
  · rw [if_neg hall] at h5
    obtain ⟨r', h6, h7⟩ := Lexed.app h2 h3 (fun e => by have := congrArg List.length e; rw [List.length_drop, List.length_nil] at this; omega)
    refine LexS.of (r := r') (j := skM l) ?_ (h7.trans (by rw [h4]))
    rw [h5, List.drop_append_of_le_length (by omega)]
    exact h6
theorem Lexed.few {l : List UInt8} {i : Nat} {r : List (Tk × Nat)} (h : Lexed l i r) : r.length ≤ l.length := by
  induction h with
  | nil i => exact Nat.le_refl _
  | cons l i n m t r h h0 hm hr ih =>
    have hle := first_le h
    rw [List.length_drop] at ih
    rw [List.length_cons]
    omega
theorem LexS.few {l : List UInt8} {q : List Tk} (h : LexS l q) : q.length ≤ l.length := by
  obtain ⟨r, h1, rfl⟩ := h
  have := h1.few
  rw [List.length_drop] at this
  rw [List.length_map]
  omega
theorem lexM_S {s : ByteArray} {r : List (Tk × Nat)} (h : lexM s = (r, 0, 0)) : LexS s.data.toList (r.map Prod.fst) ∧ r.length ≤ 6000 := by
  have h1 := lexM_lexed (s := s) (by rw [h])
  rw [h] at h1
  exact ⟨⟨r, h1.2.1, rfl⟩, h1.2.2.1⟩
theorem LexS.lexM {s : ByteArray} {q : List Tk} (h : LexS s.data.toList q) (hs : s.size ≤ 20000) (hq : q.length ≤ 6000) : ∃ r, lexM s = (r, 0, 0) ∧ r.map Prod.fst = q := by
  obtain ⟨r, h1, h2⟩ := h
  have hl : r.length = q.length := by rw [← h2, List.length_map]
  exact ⟨r, lexM_of hs h1 (by omega), h2⟩
/-- Too many tokens. -/
theorem lxM_many {l : List UInt8} {i : Nat} {r : List (Tk × Nat)} (h : Lexed l i r) : ∀ (s : ByteArray) (acc : List (Tk × Nat)), s.data.toList.drop i = l → acc.length ≤ 6000 → 6000 < acc.length + r.length → (lxM s i acc).2.2 = 9 := by
  induction h with
  | nil i => intro s acc hd h1 h2; simp at h2; omega
  | cons l i n m t r h h0 hm hr ih =>
    intro s acc hd h1 h2
    have hne := first_ne h h0
    have hlen := congrArg List.length hd
    rw [List.length_drop, len_list] at hlen
    have hpos := List.length_pos_iff.2 hne
    have hdn : s.data.toList.drop (i + n) = l.drop n := by rw [← hd, List.drop_drop]
    rw [lxM_step, if_neg (by omega), ofL_drop, hd, h]
    simp only []
    rw [if_neg (by omega)]
    by_cases h3 : acc.length = 6000
    · rw [if_pos h3]
    · rw [if_neg h3, hdn, hm]
      exact ih s (acc ++ [(t, i)]) (by rw [← hd, List.drop_drop, Nat.add_assoc]) (by simp; omega) (by simp at h2 ⊢; omega)
theorem LexS.many {s : ByteArray} {q : List Tk} (h : LexS s.data.toList q) (hq : 6000 < q.length) : (Proofs.YtlbnaddgdgbckaaGreatDoor.lexM s).2.2 = 9 := by
  obtain ⟨r, h1, h2⟩ := h
  have hl : r.length = q.length := by rw [← h2, List.length_map]
  unfold Proofs.YtlbnaddgdgbckaaGreatDoor.lexM
  by_cases hb : 20000 < s.size
  · rw [if_pos hb]
  · rw [if_neg hb]
    exact lxM_many h1 s [] rfl (by simp) (by simp; omega)
theorem sk_tok {l : List UInt8} {t : Tk} (h : firstT (ofL l) = (t, 1)) : skM l = 0 := first_sk h (by decide)
theorem LexS.open {l : List UInt8} {q : List Tk} (h : LexS l q) : LexS (40 :: l) (tokO.1 :: q) := by
  have h1 := first40 l
  have h0 := sk_tok h1
  obtain ⟨r, h2, h3⟩ := h.at (0 + 1 + skM l)
  refine LexS.of (j := 0) (r := (tokO.1, 0) :: r) ?_ (by rw [List.map_cons, h3])
  rw [h0, List.drop_zero]
  refine .cons (40 :: l) 0 1 (skM l) tokO.1 r h1 (by decide) rfl ?_
  rw [show (40 :: l).drop (1 + skM l) = l.drop (skM l) by rw [Nat.add_comm, List.drop_succ_cons]]
  exact h2
theorem LexS.shut {l : List UInt8} {q : List Tk} (h : LexS l q) : LexS (41 :: l) (tokC.1 :: q) := by
  have h1 := first41 l
  have h0 := sk_tok h1
  obtain ⟨r, h2, h3⟩ := h.at (0 + 1 + skM l)
  refine LexS.of (j := 0) (r := (tokC.1, 0) :: r) ?_ (by rw [List.map_cons, h3])
  rw [h0, List.drop_zero]
  refine .cons (41 :: l) 0 1 (skM l) tokC.1 r h1 (by decide) rfl ?_
  rw [show (41 :: l).drop (1 + skM l) = l.drop (skM l) by rw [Nat.add_comm, List.drop_succ_cons]]
  exact h2
theorem LexS.nil : LexS [] [] := ⟨[], Lexed.nil _, rfl⟩
theorem lexS_shuts : ∀ n, LexS (List.replicate n 41) (List.replicate n tokC.1)
  | 0 => LexS.nil
  | n + 1 => by rw [List.replicate_succ, List.replicate_succ]; exact (lexS_shuts n).shut
theorem lexS_opens {l : List UInt8} {q : List Tk} (h : LexS l q) : ∀ n, LexS (List.replicate n 40 ++ l) (List.replicate n tokO.1 ++ q)
  | 0 => h
  | n + 1 => by rw [List.replicate_succ, List.replicate_succ, List.cons_append, List.cons_append]; exact (lexS_opens h n).open
end Go.Proofs.YtlbnaddgdgbckaaGreatDoor
/- At less depth: the same answer, or a fault 9. -/
namespace Go.Proofs.YtlbnaddgdgbckaaGreatDoor
set_option linter.unusedSimpArgs false
set_option linter.unusedVariables false
variable {α β : Type}
def LimR (x y : Res α) : Prop := y = x ∨ ∃ p, y = .error (p, 9)
def Lim1 (f g : Ts → Res α) : Prop := ∀ ts, LimR (f ts) (g ts)
theorem LimR.refl (x : Res α) : LimR x x := .inl rfl
theorem LimR.bnd {x y : Res α} {f g : α → Ts → Res β} (h : LimR x y) (hf : ∀ a ts, LimR (f a ts) (g a ts)) : LimR (bnd x f) (bnd y g) := by
  rcases h with rfl | ⟨p, rfl⟩
  · cases y with
    | error e => exact .inl rfl
    | ok a => exact hf a.1 a.2
  · exact .inr ⟨p, rfl⟩
theorem LimR.ite {c : Prop} [Decidable c] {x y x' y' : Res α} (h1 : LimR x y) (h2 : LimR x' y') : LimR (if c then x else x') (if c then y else y') := by
  by_cases hc : c
  · rw [if_pos hc, if_pos hc]; exact h1
  · rw [if_neg hc, if_neg hc]; exact h2
theorem sevF_l {E : Nat} {bt : ByteArray} {f g : Ts → Res α} (hs : Lim1 f g) : ∀ (n : Nat) (ts : Ts) (acc : List α), LimR (sevF E bt f n ts acc) (sevF E bt g n ts acc)
  | 0, ts, acc => LimR.refl _
  | n + 1, ts, acc => LimR.ite (LimR.bnd (hs _) fun a ts => sevF_l hs n ts _) (LimR.refl _)
theorem sevP_l {E : Nat} {bt : ByteArray} {f g : Ts → Res α} (hs : Lim1 f g) (ts : Ts) : LimR (sevP E bt f ts) (sevP E bt g ts) := LimR.bnd (hs _) fun a ts => sevF_l hs _ _ _
theorem heldP_l {E : Nat} {f g : Ts → Res α} (hs : Lim1 f g) (ts : Ts) : LimR (heldP E f ts) (heldP E g ts) := LimR.ite (LimR.bnd (sevP_l hs _) fun l ts => LimR.refl _) (LimR.refl _)
theorem openP_l {E : Nat} {f g : Ts → Res Tm} (hs : Lim1 f g) (ts : Ts) : LimR (openP E f ts) (openP E g ts) := LimR.bnd (LimR.refl _) fun _ ts => LimR.ite (LimR.refl _) (sevP_l hs _)
theorem conP_l {E : Nat} {k : Int} {p : ByteArray} {f g : Ts → Res Tm} (hs : Lim1 f g) (ts : Ts) : LimR (conP E k p f ts) (conP E k p g ts) := LimR.bnd (LimR.refl _) fun s ts => LimR.bnd (heldP_l hs _) fun l ts => LimR.refl _
theorem tyConP_l {E : Nat} {p : ByteArray} {f g : Ts → Res Tm} (hs : Lim1 f g) (ts : Ts) : LimR (tyConP E p f ts) (tyConP E p g ts) := LimR.bnd (LimR.refl _) fun s ts => LimR.bnd (heldP_l hs _) fun l ts => LimR.refl _
theorem tyAtomP_l {E : Nat} {f g : Ts → Res Tm} (hs : Lim1 f g) (ts : Ts) : LimR (tyAtomP E f ts) (tyAtomP E g ts) :=
  LimR.ite (LimR.refl _) (LimR.ite (LimR.bnd (LimR.refl _) fun p ts => LimR.bnd (LimR.refl _) fun _ ts => tyConP_l hs _) (LimR.ite (tyConP_l hs _) (LimR.bnd (openP_l hs _) fun l ts => LimR.refl _)))
theorem die_l {E : Nat} {ts : Ts} (x : Res α) : LimR x (die E ts 9) := .inr ⟨_, rfl⟩
theorem typP_l (E : Nat) : ∀ (g k : Nat), Lim1 (typP E (g + k)) (typP E g)
  | 0, k, ts => die_l _
  | g + 1, k, ts => by
    have e : g + 1 + k = (g + k) + 1 := by omega
    rw [e]
    exact LimR.bnd (tyAtomP_l (typP_l E g k) ts) fun t ts => LimR.ite (LimR.bnd (typP_l E g k _) fun u ts => LimR.refl _) (LimR.refl _)
theorem annP_l {E : Nat} {f g : Ts → Res Tm} (hs : Lim1 f g) (ts : Ts) : LimR (annP E f ts) (annP E g ts) := LimR.ite (LimR.bnd (hs _) fun t ts => LimR.refl _) (LimR.refl _)
theorem patP_l (E : Nat) : ∀ (g k : Nat), Lim1 (patP E (g + k)) (patP E g)
  | 0, k, ts => die_l _
  | g + 1, k, ts => by
    have e : g + 1 + k = (g + k) + 1 := by omega
    rw [e]
    exact LimR.ite (LimR.refl _) (LimR.ite (LimR.refl _) (LimR.ite (LimR.refl _) (LimR.ite (LimR.bnd (LimR.refl _) fun p ts => conP_l (patP_l E g k) ts) (LimR.ite (LimR.refl _) (LimR.bnd (openP_l (patP_l E g k) _) fun l ts => LimR.refl _)))))
theorem appF_l {E : Nat} {f g : Ts → Res Tm} (hs : Lim1 f g) : ∀ (k : Nat) (t : Tm) (ts : Ts), LimR (appF E f k t ts) (appF E g k t ts)
  | 0, t, ts => LimR.refl _
  | k + 1, t, ts => LimR.ite (LimR.bnd (hs _) fun a ts => appF_l hs k _ ts) (LimR.refl _)
theorem appP_l {E : Nat} {f g : Ts → Res Tm} (hs : Lim1 f g) (ts : Ts) : LimR (appP E f ts) (appP E g ts) := LimR.bnd (hs _) fun t ts => appF_l hs 50 t ts
theorem atomP_l {E : Nat} {f g f' g' : Ts → Res Tm} (hs : Lim1 f g) (ht : Lim1 f' g') : Lim1 (atomP E f f') (atomP E g g') := fun ts =>
  LimR.ite (LimR.refl _) (LimR.ite (LimR.refl _) (LimR.ite (LimR.bnd (LimR.refl _) fun p ts => LimR.ite (conP_l hs _) (LimR.refl _)) (LimR.ite (LimR.refl _)
    (LimR.bnd (openP_l hs _) fun l ts => LimR.ite (LimR.bnd (annP_l ht _) fun a ts => LimR.refl _) (LimR.refl _)))))
theorem funP_l {E : Nat} {f g : Ts → Res Tm} (hs : Lim1 f g) (ts : Ts) : LimR (funP E f ts) (funP E g ts) := LimR.bnd (LimR.refl _) fun s ts => LimR.bnd (LimR.refl _) fun _ ts => LimR.bnd (hs _) fun x ts => LimR.refl _
theorem letR_l {E : Nat} {f g f' g' : Ts → Res Tm} (hs : Lim1 f g) (ht : Lim1 f' g') {N : Int} (ts : Ts) : LimR (letR E f f' N ts) (letR E g g' N ts) :=
  LimR.bnd (LimR.refl _) fun s ts => LimR.bnd (annP_l ht _) fun a ts => LimR.bnd (LimR.refl _) fun _ ts => LimR.bnd (hs _) fun x ts => LimR.bnd (LimR.refl _) fun _ ts => LimR.bnd (hs _) fun y ts => LimR.refl _
theorem letP_l {E : Nat} {f g f' g' : Ts → Res Tm} (hs : Lim1 f g) (ht : Lim1 f' g') (ts : Ts) : LimR (letP E f f' ts) (letP E g g' ts) := LimR.ite (letR_l hs ht _) (letR_l hs ht _)
theorem armP_l {E : Nat} {f g f' g' : Ts → Res Tm} (hp : Lim1 f g) (hs : Lim1 f' g') : Lim1 (armP E f f') (armP E g g') := fun ts => LimR.bnd (hp _) fun p ts => LimR.bnd (LimR.refl _) fun _ ts => LimR.bnd (hs _) fun x ts => LimR.refl _
theorem matP_l {E : Nat} {f g f' g' : Ts → Res Tm} (hp : Lim1 f g) (hs : Lim1 f' g') (ts : Ts) : LimR (matP E f f' ts) (matP E g g' ts) :=
  LimR.bnd (hs _) fun x ts => LimR.bnd (LimR.refl _) fun _ ts => LimR.bnd (sevP_l (armP_l hp hs) _) fun l ts => LimR.refl _
theorem exprP_l (E : Nat) : ∀ (g k : Nat), Lim1 (exprP E (g + k)) (exprP E g)
  | 0, k, ts => die_l _
  | g + 1, k, ts => by
    have e : g + 1 + k = (g + k) + 1 := by omega
    rw [e]
    exact LimR.ite (funP_l (exprP_l E g k) _) (LimR.ite (letP_l (exprP_l E g k) (typP_l E g k) _) (LimR.ite (matP_l (patP_l E g k) (exprP_l E g k) _) (appP_l (atomP_l (exprP_l E g k) (typP_l E g k)) _)))
end Go.Proofs.YtlbnaddgdgbckaaGreatDoor
