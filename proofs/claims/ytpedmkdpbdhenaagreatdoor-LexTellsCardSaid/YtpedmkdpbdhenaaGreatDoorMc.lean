
/- Mathematics of sources: what a source is cut into; a source told anew. -/
import Derived.Test.YtpedmkdpbdhenaaGreatDoorLo
import Derived.Test.YtpedmkdpbdhenaaGreatDoorMb
namespace Go.Proofs.YtpedmkdpbdhenaaGreatDoor
open Go.RowKit
set_option linter.unusedSimpArgs false
set_option linter.unusedVariables false
theorem first_le {l : List UInt8} {t : Tk} {n : Nat} (h : firstT (ofL l) = (t, n)) : n ≤ l.length := by
  have := firstT_le (ofL l)
  rw [h, ofL_size] at this
  exact this
theorem first_ne {l : List UInt8} {t : Tk} {n : Nat} (h : firstT (ofL l) = (t, n)) (h0 : 0 < n) : l ≠ [] := by
  intro e
  have := first_le h
  rw [e, List.length_nil] at this
  omega
theorem cnt0 {p : UInt8 → Bool} {l : List UInt8} (h : ∀ c, l.head? = some c → p c = false) : cnt p l = 0 := by
  have := cnt_app p l h []
  rw [List.nil_append] at this
  rw [this]
  rfl
theorem far10 (c : UInt8) (h : c.toNat = 32 ∨ c.toNat = 9 ∨ c.toNat = 10) : smB c = false ∧ grB c = false ∧ dgB c = false ∧ sgB c.toNat = false := by
  unfold smB grB dgB sgB
  generalize c.toNat = n at *
  rcases h with rfl | rfl | rfl <;> decide
/-- A token begins with no blank, and with no remark. -/
theorem first_head {l : List UInt8} {t : Tk} {n : Nat} (h : firstT (ofL l) = (t, n)) (h0 : 0 < n) : cnt blB l = 0 ∧ Lib.hasPrefix l [45, 45] = false := by
  cases hc : l[0]? with
  | none => rw [firstT_none hc] at h; cases h; omega
  | some c =>
    have hh : l.head? = some c := by rw [List.head?_eq_getElem?, hc]
    rw [firstT_at hc] at h
    constructor
    · apply cnt0
      intro d hd
      rw [hh] at hd
      cases hd
      cases hb : blB c with
      | false => rfl
      | true =>
        unfold blB at hb
        simp only [Bool.or_eq_true, decide_eq_true_eq] at hb
        have hf := far10 c (by omega)
        rw [hf.1, hf.2.1, hf.2.2.1, signT_ofL, hf.2.2.2] at h
        rw [if_neg (by simp; omega), if_neg (by simp), if_neg (by omega), if_neg (by omega), if_neg (by simp; omega), if_neg (by omega), if_neg (by simp)] at h
        cases h
        omega
    · cases hp : Lib.hasPrefix l [45, 45] with
      | false => rfl
      | true =>
        rw [hp2] at hp
        have hp' : l.take 2 = [45, 45] := by simpa using hp
        have hc45 : c = 45 := by
          have := congrArg List.head? hp'
          rw [head_take (by omega), hh] at this
          simpa using this
        subst hc45
        have hq : Lib.hasPrefix l [45, 62] = false := by rw [hp2, hp']; rfl
        have hs : smB 45 = false := by decide
        have hg : grB 45 = false := by decide
        have hd : dgB 45 = false := by decide
        have h45 : (45 : UInt8).toNat = 45 := rfl
        rw [hs, hg, hd, hq, h45] at h
        rw [if_neg (by simp), if_neg (by simp), if_neg (by omega), if_neg (by omega), if_pos (by simp), numT_ofL] at h
        have hv : verM (ofL l) = 0 := by
          rcases Nat.eq_zero_or_pos (verM (ofL l)) with e | e
          · exact e
          · have h1 : Sv.okS ((ofL l).extract 0 (verM (ofL l))) = true := verF_ok (ofL l) (min (ofL l).size 20) e
            have h2 := (okS_bytes h1).2 45
            rw [ofL_take, ofL_list, head_take e, hh] at h2
            have := h2 rfl
            cases this
        have hi : intM l = 0 := by
          unfold intM
          have hz : intN (l.drop 1) = 0 := by
            match l, hp' with
            | a :: b :: r, hp' =>
              have : a = 45 ∧ b = 45 := by simpa using hp'
              rw [this.2]
              show intN (45 :: r) = 0
              unfold intN
              have hz : zhB (45 :: r) = false := rfl
              rw [hz, cnt0 (fun c hc => by cases hc; rfl)]
              rfl
            | [], hp' => cases hp'
            | [a], hp' => cases hp'
          rw [hz, hp1, hh]
          simp
        rw [hv, hi] at h
        cases h
        omega
theorem first_sn {l : List UInt8} {t : Tk} {n : Nat} (h : firstT (ofL l) = (t, n)) (h0 : 0 < n) : sn l = 0 := by
  obtain ⟨h1, h2⟩ := first_head h h0
  unfold sn
  rw [h2, h1]
  rfl
theorem first_sk {l : List UInt8} {t : Tk} {n : Nat} (h : firstT (ofL l) = (t, n)) (h0 : 0 < n) : skM l = 0 := skM_zero (first_sn h h0)
theorem sk_nil : skM [] = 0 := rfl
theorem sn_take {l : List UInt8} {k : Nat} (h : sn l ≠ 0) (hk : sn l ≤ k) : sn (l.take k) = sn l := by
  unfold sn at h hk ⊢
  cases hp : Lib.hasPrefix l [45, 45]
  · rw [hp] at h hk
    simp only [Bool.false_eq_true, if_false] at h hk ⊢
    have hq : Lib.hasPrefix (l.take k) [45, 45] = false := by
      rw [hp2] at hp ⊢
      rw [beq_eq_false_iff_ne] at hp ⊢
      intro e
      apply hp
      rw [← e, take_take_le]
      have := congrArg List.length e
      simp at this
      omega
    rw [hq]
    simp only [Bool.false_eq_true, if_false]
    rw [cnt_take]
    omega
  · rw [hp] at h hk
    simp only [if_true] at h hk ⊢
    have hq : Lib.hasPrefix (l.take k) [45, 45] = true := by
      have h2 : 2 ≤ cnt notNl l := by
        rw [hp2] at hp
        match l, hp with
        | a :: b :: r, hp =>
          have : a = 45 ∧ b = 45 := by simpa using hp
          rw [this.1, this.2]
          unfold cnt
          rw [List.takeWhile_cons, if_pos (by decide), List.takeWhile_cons, if_pos (by decide)]
          simp
        | [], hp => cases hp
        | [a], hp => simp at hp
      rw [hp2] at hp ⊢
      rw [take_take_le _ (by omega)]
      exact hp
    rw [hq]
    simp only [if_true]
    rw [cnt_take]
    omega
/-- What is skipped is skipped alone. -/
theorem sk_take : ∀ (k : Nat) (l : List UInt8), l.length = k → skM (l.take (skM l)) = skM l := by
  intro k
  induction k using Nat.strongRecOn with
  | ind k ih =>
    intro l hl
    by_cases h : sn l = 0
    · rw [skM_zero h]; rfl
    · have hle := sn_le l
      have h1 := skM_step h
      have h2 := ih (l.drop (sn l)).length (by rw [List.length_drop]; omega) _ rfl
      generalize hb : skM (l.drop (sn l)) = b at *
      rw [h1]
      have h3 := sn_take h (k := sn l + b) (by omega)
      rw [skM_step (by rw [h3]; exact h), h3]
      rw [List.drop_take, Nat.add_sub_cancel_left, h2]
/-- What a source is cut into. -/
inductive Lexed : List UInt8 → Nat → List (Tk × Nat) → Prop
  | nil (i : Nat) : Lexed [] i []
  | cons (l : List UInt8) (i n m : Nat) (t : Tk) (r : List (Tk × Nat)) (h : firstT (ofL l) = (t, n)) (h0 : 0 < n) (hm : skM (l.drop n) = m) (hr : Lexed (l.drop (n + m)) (i + n + m) r) : Lexed l i ((t, i) :: r)
theorem lxM_ok (s : ByteArray) : ∀ (k i : Nat) (acc : List (Tk × Nat)), s.size - i = k → i ≤ s.size → acc.length ≤ 6000 → (lxM s i acc).2.2 = 0 →
    ∃ r, (lxM s i acc).1 = acc ++ r ∧ Lexed (s.data.toList.drop i) i r ∧ acc.length + r.length ≤ 6000 ∧ (lxM s i acc).2.1 = 0 := by
  intro k
  induction k using Nat.strongRecOn with
  | ind k ih =>
    intro i acc hk hi hacc h
    rw [lxM_step] at h ⊢
    by_cases h1 : s.size ≤ i
    · rw [if_pos h1] at h ⊢
      refine ⟨[], by simp, ?_, by simpa using hacc, rfl⟩
      rw [List.drop_eq_nil_of_le (by rw [len_list]; omega)]
      exact .nil _
    · rw [if_neg h1] at h ⊢
      by_cases h2 : (firstT (s.extract i s.size)).2 = 0
      · rw [if_pos h2] at h; cases h
      · rw [if_neg h2] at h ⊢
        by_cases h3 : acc.length = 6000
        · rw [if_pos h3] at h; cases h
        · rw [if_neg h3] at h ⊢
          have hle := firstT_le (s.extract i s.size)
          rw [sfx_size] at hle
          rw [ofL_drop] at h h2 hle ⊢
          cases hf : firstT (ofL (s.data.toList.drop i)) with
          | mk t n =>
            rw [hf] at h h2 hle
            simp only [] at h h2 hle ⊢
            have hsk := skM_le _ (s.data.toList.drop (i + n)) rfl
            rw [List.length_drop, len_list] at hsk
            obtain ⟨r, e1, e2, e3, e4⟩ := ih (s.size - (i + n + skM (s.data.toList.drop (i + n)))) (by omega) (i + n + skM (s.data.toList.drop (i + n))) (acc ++ [(t, i)]) rfl (by omega) (by simp; omega) h
            refine ⟨(t, i) :: r, ?_, ?_, ?_, e4⟩
            · rw [e1]; simp
            · refine .cons _ i n (skM (s.data.toList.drop (i + n))) t r hf (by omega) (by rw [List.drop_drop]) ?_
              rw [List.drop_drop, ← Nat.add_assoc]
              exact e2
            · simp at e3 ⊢; omega
theorem lxM_of {l : List UInt8} {i : Nat} {r : List (Tk × Nat)} (h : Lexed l i r) : ∀ (s : ByteArray) (acc : List (Tk × Nat)), s.data.toList.drop i = l → acc.length + r.length ≤ 6000 → lxM s i acc = (acc ++ r, 0, 0) := by
  induction h with
  | nil i =>
    intro s acc hd _
    have := congrArg List.length hd
    rw [List.length_drop, len_list, List.length_nil] at this
    rw [lxM_step, if_pos (by omega)]
    simp
  | cons l i n m t r h h0 hm hr ih =>
    intro s acc hd hl
    have hne := first_ne h h0
    have hlen := congrArg List.length hd
    rw [List.length_drop, len_list] at hlen
    have hpos := List.length_pos_iff.2 hne
    have hdn : s.data.toList.drop (i + n) = l.drop n := by rw [← hd, List.drop_drop]
    rw [lxM_step, if_neg (by omega), ofL_drop, hd, h]
    simp only []
    rw [if_neg (by omega), if_neg (by simp at hl; omega), hdn, hm]
    rw [ih s (acc ++ [(t, i)]) (by rw [← hd, List.drop_drop, Nat.add_assoc]) (by simp at hl ⊢; omega)]
    simp
theorem lexM_lexed {s : ByteArray} (h : (lexM s).2.2 = 0) : s.size ≤ 20000 ∧ Lexed (s.data.toList.drop (skM s.data.toList)) (skM s.data.toList) (lexM s).1 ∧ (lexM s).1.length ≤ 6000 ∧ (lexM s).2.1 = 0 := by
  unfold lexM at h ⊢
  by_cases hb : 20000 < s.size
  · rw [if_pos hb] at h; cases h
  · rw [if_neg hb] at h ⊢
    have hsk := skM_le _ s.data.toList rfl
    rw [len_list] at hsk
    obtain ⟨r, e1, e2, e3, e4⟩ := lxM_ok s _ (skM s.data.toList) [] rfl hsk (by simp) h
    rw [List.nil_append] at e1
    rw [e1]
    exact ⟨by omega, e2, by simpa using e3, e4⟩
theorem lexM_bad {s : ByteArray} (h : (lexM s).2.2 ≠ 0) : (lexM s).1 = [] := by
  have key : ∀ (f i : Nat) (acc : List (Tk × Nat)), (lxF s f i acc).2.2 ≠ 0 → (lxF s f i acc).1 = [] := by
    intro f
    induction f with
    | zero => intro i acc h; exact absurd rfl h
    | succ f ih =>
      intro i acc h
      unfold lxF at h ⊢
      split at h
      · exact absurd rfl h
      · rename_i h1
        rw [if_neg h1]
        split at h
        · rename_i h2; rw [if_pos h2]
        · rename_i h2
          rw [if_neg h2]
          split at h
          · rename_i h3; rw [if_pos h3]
          · rename_i h3
            rw [if_neg h3]
            exact ih _ _ h
  unfold lexM at h ⊢
  split at h
  · rename_i h1; rw [if_pos h1]
  · rename_i h1
    rw [if_neg h1]
    exact key _ _ _ h
theorem lexM_of {s : ByteArray} {r : List (Tk × Nat)} (hs : s.size ≤ 20000) (h : Lexed (s.data.toList.drop (skM s.data.toList)) (skM s.data.toList) r) (hl : r.length ≤ 6000) : lexM s = (r, 0, 0) := by
  unfold lexM
  rw [if_neg (by omega), lxM_of h s [] rfl (by simpa using hl)]
  rfl
theorem Lexed.head {l : List UInt8} {i : Nat} {r : List (Tk × Nat)} (h : Lexed l i r) : (r[0]? = none → l = []) ∧ (∀ u b, r[0]? = some (u, b) → b = i) := by
  cases h with
  | nil =>
    refine ⟨fun _ => rfl, ?_⟩
    intro u b h
    cases h
  | cons n m t r h h0 hm hr =>
    refine ⟨?_, ?_⟩
    · intro h
      cases h
    · intro u b h
      cases h
      rfl
/-- Where tokens stand, and what stands there. -/
theorem Lexed.place {l : List UInt8} {i : Nat} {r : List (Tk × Nat)} (h : Lexed l i r) : ∀ (j : Nat) (t : Tk) (a : Nat), r[j]? = some (t, a) →
    ∃ n m, i ≤ a ∧ firstT (ofL (l.drop (a - i))) = (t, n) ∧ 0 < n ∧ skM (l.drop (a - i + n)) = m ∧ (a - i) + n + m ≤ l.length ∧ (∀ u b, r[j + 1]? = some (u, b) → b = a + n + m) ∧ (r[j + 1]? = none → (a - i) + n + m = l.length) := by
  induction h with
  | nil i => intro j t a h; cases h
  | cons l i n m t r h h0 hm hr ih =>
    have hle := first_le h
    have hsk := skM_le _ (l.drop n) rfl
    rw [hm, List.length_drop] at hsk
    intro j u a hj
    cases j with
    | zero =>
      cases hj
      refine ⟨n, m, Nat.le_refl _, ?_, h0, ?_, by omega, fun v b hv => (Lexed.head hr).2 v b hv, fun hn => ?_⟩
      · rw [Nat.sub_self, List.drop_zero]; exact h
      · rw [Nat.sub_self, Nat.zero_add]; exact hm
      · have := congrArg List.length ((Lexed.head hr).1 hn)
        rw [List.length_drop, List.length_nil] at this
        omega
    | succ j =>
      obtain ⟨n', m', e1, e2, e3, e4, e5, e6, e7⟩ := ih j u a hj
      rw [List.drop_drop] at e2 e4
      rw [List.length_drop] at e5 e7
      have ha : n + m + (a - (i + n + m)) = a - i := by omega
      have ha' : n + m + (a - (i + n + m) + n') = a - i + n' := by omega
      rw [ha] at e2
      rw [ha'] at e4
      refine ⟨n', m', by omega, e2, e3, e4, by omega, e6, fun hn => ?_⟩
      have := e7 hn
      omega
/-- A token with what is skipped behind it, alone. -/
theorem lex_one {x : List UInt8} {t : Tk} {n m : Nat} (h : firstT (ofL x) = (t, n)) (h0 : 0 < n) (hm : skM (x.drop n) = m) (he : n + m = x.length) (hs : x.length ≤ 20000) : lexM (ofL x) = ([(t, 0)], 0, 0) := by
  apply lexM_of
  · rw [ofL_size]; exact hs
  · rw [ofL_list, first_sk h h0, List.drop_zero]
    refine .cons x 0 n m t [] h h0 hm ?_
    rw [List.drop_eq_nil_of_le (by omega)]
    exact .nil _
  · simp
theorem lex_piece {l : List UInt8} {t : Tk} {n m : Nat} (h : firstT (ofL l) = (t, n)) (h0 : 0 < n) (hm : skM (l.drop n) = m) (he : n + m ≤ 20000) : lexM (ofL (l.take (n + m))) = ([(t, 0)], 0, 0) := by
  have hle := first_le h
  have hsk := skM_le _ (l.drop n) rfl
  rw [hm, List.length_drop] at hsk
  have hlen : (l.take (n + m)).length = n + m := by rw [List.length_take]; omega
  refine lex_one (firstT_pre h h0 (by omega)) h0 (m := m) ?_ hlen.symm (by omega)
  rw [List.drop_take, Nat.add_sub_cancel_left]
  have := sk_take _ (l.drop n) rfl
  rw [hm] at this
  exact this
theorem lex_blanks {l : List UInt8} (h : l.length ≤ 20000) : lexM (ofL (l.take (skM l))) = ([], 0, 0) := by
  have hsk := skM_le _ l rfl
  apply lexM_of
  · rw [ofL_size, List.length_take]; omega
  · rw [ofL_list, sk_take _ l rfl, List.drop_eq_nil_of_le (by rw [List.length_take]; omega)]
    exact .nil _
  · simp
/-- A token that may be: it is read from what is told of it. -/
def RightT (t : Tk) : Prop := 0 < (tellT t).length ∧ firstT (ofL (tellT t)) = (t, (tellT t).length)
theorem read_right {l : List UInt8} {t : Tk} {n : Nat} (h : firstT (ofL l) = (t, n)) (h0 : 0 < n) : RightT t := by
  have hle := first_le h
  have ht := told_any h h0
  have hlen : (tellT t).length = n := by rw [ht, List.length_take]; omega
  refine ⟨by omega, ?_⟩
  rw [hlen, ht]
  exact firstT_pre h h0 (Nat.le_refl _)
theorem Lexed.right {l : List UInt8} {i : Nat} {r : List (Tk × Nat)} (h : Lexed l i r) : ∀ x ∈ r, RightT x.1 := by
  induction h with
  | nil i => intro x hx; cases hx
  | cons l i n m t r h h0 hm hr ih =>
    intro x hx
    cases hx with
    | head => exact read_right h h0
    | tail _ hx => exact ih x hx
/-- Tokens, told. -/
def joinT : List Tk → List UInt8
  | [] => []
  | [t] => tellT t
  | t :: u :: r => tellT t ++ 32 :: joinT (u :: r)
theorem joinT_cons (t : Tk) (r : List Tk) : joinT (t :: r) = tellT t ++ (if r = [] then [] else 32 :: joinT r) := by
  cases r with
  | nil => simp [joinT]
  | cons u r => simp [joinT]
theorem joinT_eq : ∀ ts : List Tk, joinT ts = Lib.join (ts.map tellT) [32] := by
  intro ts
  induction ts with
  | nil => rfl
  | cons t r ih =>
    cases r with
    | nil => simp [joinT, Lib.join_one]
    | cons u r =>
      rw [joinT, ih, List.map_cons, List.map_cons, List.map_cons, Lib.join, Lib.join, List.intercalate, List.intercalate]
      simp
theorem sk_blank {l : List UInt8} {t : Tk} {n : Nat} (h : firstT (ofL l) = (t, n)) (h0 : 0 < n) : skM (32 :: l) = 1 := by
  have h1 := first_head h h0
  have hs : sn (32 :: l) = 1 := by
    unfold sn
    have hq : Lib.hasPrefix (32 :: l) [45, 45] = false := by
      rw [hp2, beq_eq_false_iff_ne]
      intro e
      have := congrArg List.head? e
      rw [head_take (by omega)] at this
      cases this
    rw [hq]
    simp only [Bool.false_eq_true, if_false]
    have := h1.1
    unfold cnt at this ⊢
    rw [List.takeWhile_cons, if_pos (by decide), List.length_cons, this]
  rw [skM_step (by omega), hs]
  show 1 + skM l = 1
  rw [first_sk h h0]
/-- Tokens that may be are read from what is told of them. -/
theorem lex_back : ∀ (ts : List Tk), (∀ t ∈ ts, RightT t) → ∀ i, ∃ r, r.map Prod.fst = ts ∧ Lexed (joinT ts) i r ∧ (ts ≠ [] → ∃ t n, firstT (ofL (joinT ts)) = (t, n) ∧ 0 < n) := by
  intro ts
  induction ts with
  | nil => intro _ i; exact ⟨[], rfl, .nil i, fun h => absurd rfl h⟩
  | cons t r ih =>
    intro hR i
    obtain ⟨h0, h1⟩ := hR t (List.mem_cons_self ..)
    have ih' := ih fun u hu => hR u (List.mem_cons_of_mem _ hu)
    cases r with
    | nil =>
      refine ⟨[(t, i)], rfl, ?_, fun _ => ⟨t, _, h1, h0⟩⟩
      refine .cons _ i (tellT t).length 0 t [] h1 h0 ?_ ?_
      · show skM ((tellT t).drop (tellT t).length) = 0
        rw [List.drop_length]; rfl
      · show Lexed ((tellT t).drop ((tellT t).length + 0)) _ []
        rw [Nat.add_zero, List.drop_length]
        exact .nil _
    | cons u r =>
      obtain ⟨_, _, _, hf⟩ := ih' 0
      obtain ⟨u', n', hf1, hf2⟩ := hf (by simp)
      have hx : firstT (ofL (tellT t ++ 32 :: joinT (u :: r))) = (t, (tellT t).length) := firstT_ext (fun c hc => by cases hc; exact apart_blank) h1 h0 rfl
      obtain ⟨q, e1, e2, _⟩ := ih' (i + (tellT t).length + 1)
      refine ⟨(t, i) :: q, by rw [List.map_cons, e1], ?_, fun _ => ⟨t, _, hx, h0⟩⟩
      refine .cons _ i (tellT t).length 1 t q hx h0 ?_ ?_
      · show skM ((tellT t ++ 32 :: joinT (u :: r)).drop (tellT t).length) = 1
        rw [List.drop_left]
        exact sk_blank hf1 hf2
      · show Lexed ((tellT t ++ 32 :: joinT (u :: r)).drop ((tellT t).length + 1)) _ q
        rw [← List.drop_drop, List.drop_left]
        exact e2
theorem lexM_back {ts : List Tk} (hR : ∀ t ∈ ts, RightT t) (h1 : (joinT ts).length ≤ 20000) (h2 : ts.length ≤ 6000) : ∃ r, lexM (ofL (joinT ts)) = (r, 0, 0) ∧ r.map Prod.fst = ts := by
  obtain ⟨r, e1, e2, e3⟩ := lex_back ts hR 0
  have hl : r.length = ts.length := by rw [← e1, List.length_map]
  have hs : skM (joinT ts) = 0 := by
    cases ts with
    | nil => rfl
    | cons t q =>
      obtain ⟨u, n, h3, h4⟩ := e3 (by simp)
      exact first_sk h3 h4
  refine ⟨r, lexM_of (by rw [ofL_size]; exact h1) ?_ (by omega), e1⟩
  rw [ofL_list, hs, List.drop_zero]
  exact e2
theorem Lexed.lens {l : List UInt8} {i : Nat} {r : List (Tk × Nat)} (h : Lexed l i r) : (joinT (r.map Prod.fst)).length ≤ 2 * l.length := by
  induction h with
  | nil i => simp [joinT]
  | cons l i n m t r h h0 hm hr ih =>
    have hle := first_le h
    have ht := congrArg List.length (told_any h h0)
    rw [List.length_take] at ht
    rw [List.length_drop] at ih
    rw [List.map_cons, joinT_cons, List.length_append]
    split
    · simp; omega
    · rw [List.length_cons]
      show (tellT t).length + _ ≤ _
      omega
theorem escE_len (c : UInt8) : (escE c).length ≤ 2 := by
  unfold escE
  repeat' split
  all_goals simp
theorem telL_len (l : List UInt8) : (telL l).length ≤ 2 * l.length + 2 := by
  unfold telL
  rw [List.length_cons, List.length_append]
  have : (l.flatMap escE).length ≤ 2 * l.length := by
    induction l with
    | nil => simp
    | cons c l ih =>
      have := escE_len c
      rw [List.flatMap_cons, List.length_append, List.length_cons]
      omega
  rw [List.length_cons, List.length_nil]
  omega
theorem tellT_len (t : Tk) (h0 : -9223372036854775808 ≤ t.n) (h1 : t.n ≤ 9223372036854775807) : (tellT t).length ≤ 2 * t.s.size + 22 := by
  unfold tellT
  have hs := len_list t.s
  split
  · rw [List.length_cons, hs]; omega
  · split
    · have := Lib.itoa_length_le t.n h0 h1
      omega
    · split
      · have := telL_len t.s.data.toList
        rw [hs] at this
        omega
      · rw [hs]; omega
end Go.Proofs.YtpedmkdpbdhenaaGreatDoor
