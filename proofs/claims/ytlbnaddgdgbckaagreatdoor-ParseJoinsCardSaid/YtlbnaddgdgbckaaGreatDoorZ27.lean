/- Texts in a row: Mb Mc. -/
import Derived.Test.YtlbnaddgdgbckaaGreatDoorZ26
import Derived.Lib.ItoaNum
import Derived.Lib.ItoaMem
import Derived.Lib.ItoaLen
/- Mathematics of tokens: what is told of a token that was read is the bytes that it was read from. -/
namespace Go.Proofs.YtlbnaddgdgbckaaGreatDoor
open Go.RowKit
set_option linter.unusedSimpArgs false
set_option linter.unusedVariables false
namespace Sv
theorem foldl_le (l : List UInt8) : ∀ a, a * 10 ^ l.length ≤ l.foldl (fun n c => 10 * n + (c.toNat - 48)) a := by
  induction l with
  | nil => intro a; simp
  | cons c l ih =>
    intro a
    have h1 := ih (10 * a + (c.toNat - 48))
    have h3 : (a * 10) * 10 ^ l.length ≤ (10 * a + (c.toNat - 48)) * 10 ^ l.length := Nat.mul_le_mul_right _ (by omega)
    rw [List.length_cons, Nat.pow_succ, Nat.mul_comm (10 ^ l.length) 10, ← Nat.mul_assoc]
    exact Nat.le_trans h3 h1
theorem dd_step (m : Nat) : Lib.decDigits m = (if m / 10 = 0 then [] else Lib.decDigits (m / 10)) ++ [UInt8.ofNat (48 + m % 10)] := by
  by_cases h : m < 10
  · have h0 : m / 10 = 0 := by omega
    have h1 : m % 10 = m := by omega
    rw [Lib.decDigits_one h, if_pos h0, h1]; rfl
  · have h0 : ¬ m / 10 = 0 := by omega
    rw [Lib.decDigits, dif_neg h, if_neg h0]
theorem dd_len : ∀ (k m : Nat), m < 10 ^ (k + 1) → (Lib.decDigits m).length ≤ k + 1 := by
  intro k
  induction k with
  | zero => intro m h; rw [Lib.decDigits_one (by simpa using h)]; simp
  | succ k ih =>
    intro m h
    rw [dd_step, List.length_append, List.length_singleton]
    have h2 : m / 10 < 10 ^ (k + 1) := by rw [Nat.pow_succ] at h; omega
    split
    · simp
    · have := ih _ h2; omega
theorem back_dig {b : UInt8} (h : isDig b = true) : UInt8.ofNat (48 + (b.toNat - 48)) = b := by
  have := isDig_yes h
  have e : 48 + (b.toNat - 48) = b.toNat := by omega
  rw [e, UInt8.ofNat_toNat]
theorem val_pos {L : List UInt8} (hd : ∀ c ∈ L, isDig c = true) (hn : L ≠ []) (h48 : L.head? ≠ some 48) : 1 ≤ val L := by
  cases L with
  | nil => exact absurd rfl hn
  | cons x l =>
    have hx := isDig_yes (hd x (by simp))
    have hne : x.toNat ≠ 48 := fun e => h48 (by simp only [List.head?_cons]; congr 1; exact UInt8.toNat_inj.1 e)
    have h5 := foldl_le l (10 * 0 + (x.toNat - 48))
    have h6 : val (x :: l) = l.foldl (fun n c => 10 * n + (c.toNat - 48)) (10 * 0 + (x.toNat - 48)) := rfl
    have h7 : 1 ≤ 10 ^ l.length := Nat.pow_pos (by decide)
    have h8 : 1 * 10 ^ l.length ≤ (10 * 0 + (x.toNat - 48)) * 10 ^ l.length := Nat.mul_le_mul_right _ (by omega)
    omega
theorem head_snoc {L : List UInt8} {b : UInt8} (h : L ≠ []) : (L ++ [b]).head? = L.head? := by
  cases L with
  | nil => exact absurd rfl h
  | cons x l => rfl
theorem dd_val : ∀ (n : Nat) (T : List UInt8), T.length = n → T ≠ [] → ¬ (T.head? = some 48 ∧ 1 < T.length) → (∀ c ∈ T, isDig c = true) → Lib.decDigits (val T) = T := by
  intro n
  induction n with
  | zero => intro T h h1; exact absurd (List.length_eq_zero_iff.1 h) h1
  | succ n ih =>
    intro T hl hne hh hd
    rcases List.eq_nil_or_concat T with h | ⟨L, b, h⟩
    · exact absurd h hne
    · rw [List.concat_eq_append] at h
      subst h
      have hb := isDig_yes (hd b (by simp))
      rw [val_snoc]
      by_cases hL : L = []
      · subst hL
        have e : 10 * val [] + (b.toNat - 48) = b.toNat - 48 := by rw [val_nil]; omega
        rw [e, Lib.decDigits_one (by omega), back_dig (hd b (by simp))]
        rfl
      · have hL48 : L.head? ≠ some 48 := fun h => hh ⟨by rw [head_snoc hL]; exact h, by
          have := List.length_pos_iff.2 hL
          simp; omega⟩
        have hdl : ∀ c ∈ L, isDig c = true := fun c hc => hd c (List.mem_append_left _ hc)
        have hv := val_pos hdl hL hL48
        have hi := ih L (by simpa using hl) hL (fun h => hL48 h.1) hdl
        rw [dd_step]
        have e1 : (10 * val L + (b.toNat - 48)) / 10 = val L := by omega
        have e2 : (10 * val L + (b.toNat - 48)) % 10 = b.toNat - 48 := by omega
        rw [e1, e2, if_neg (by omega), hi, back_dig (hd b (by simp))]
theorem digit_is {k : Nat} (h : k < 10) : isDig (UInt8.ofNat (48 + k)) = true ∧ (UInt8.ofNat (48 + k)).toNat = 48 + k := by
  have e : (UInt8.ofNat (48 + k)).toNat = 48 + k := by simp; omega
  exact ⟨by unfold isDig; rw [e]; exact decide_eq_true (by omega), e⟩
theorem dd_spec (n : Nat) : (∀ c ∈ Lib.decDigits n, isDig c = true) ∧ val (Lib.decDigits n) = n ∧ Lib.decDigits n ≠ [] ∧ ¬ ((Lib.decDigits n).head? = some 48 ∧ 1 < (Lib.decDigits n).length) := by
  induction n using Nat.strongRecOn with
  | _ n ih =>
    by_cases h : n < 10
    · rw [Lib.decDigits_one h]
      have hd := digit_is h
      refine ⟨fun c hc => by rw [List.mem_singleton.1 hc]; exact hd.1, ?_, by simp, fun h2 => absurd h2.2 (by simp)⟩
      have : val [UInt8.ofNat (48 + n)] = 10 * 0 + ((UInt8.ofNat (48 + n)).toNat - 48) := rfl
      rw [this, hd.2]; omega
    · have h0 : ¬ n / 10 = 0 := by omega
      obtain ⟨i1, i2, i3, i4⟩ := ih (n / 10) (by omega)
      have hd := digit_is (k := n % 10) (by omega)
      have e : Lib.decDigits n = Lib.decDigits (n / 10) ++ [UInt8.ofNat (48 + n % 10)] := by rw [dd_step n, if_neg h0]
      rw [e]
      refine ⟨fun c hc => ?_, ?_, by simp, fun h2 => ?_⟩
      · rcases List.mem_append.1 hc with hc | hc
        · exact i1 c hc
        · rw [List.mem_singleton.1 hc]; exact hd.1
      · rw [val_snoc, i2, hd.2]; omega
      · rw [head_snoc i3] at h2
        have hlen : ¬ 1 < (Lib.decDigits (n / 10)).length := fun h3 => i4 ⟨h2.1, h3⟩
        generalize Lib.decDigits (n / 10) = L at *
        match L, i3, hlen, h2, i2 with
        | [x], _, _, h2, i2 =>
          have hx : x = 48 := by simpa using h2.1
          rw [hx] at i2
          have : val [48] = 0 := rfl
          omega
        | _ :: _ :: _, _, hlen, _, _ => exact hlen (by simp)
end Sv
/-- A byte of a text, as it is told. -/
def escE (c : UInt8) : List UInt8 := if c.toNat = 92 then [92, 92] else if c.toNat = 34 then [92, 34] else if c.toNat = 10 then [92, 110] else if c.toNat = 9 then [92, 116] else [c]
/-- A text, as it is told. -/
def telL (l : List UInt8) : List UInt8 := 34 :: (l.flatMap escE ++ [34])
/-- A token, as it is told. -/
def tellT (t : Tk) : List UInt8 := if t.k = 3 then 39 :: t.s.data.toList else if t.k = 4 then Lib.itoa t.n else if t.k = 5 then telL t.s.data.toList else t.s.data.toList
theorem u8 {c : UInt8} {n : Nat} (h : c.toNat = n) (hn : n < 256) : c = UInt8.ofNat n := by
  apply UInt8.toNat_inj.1
  rw [h, UInt8.toNat_ofNat', Nat.mod_eq_of_lt hn]
theorem escE_back {d : UInt8} (h : (escV d.toNat).2 = true) : escE (UInt8.ofNat (escV d.toNat).1) = [92, d] := by
  unfold escV at h ⊢
  by_cases h1 : d.toNat = 92
  · rw [if_pos h1, u8 h1 (by decide)]; decide
  · rw [if_neg h1] at h ⊢
    by_cases h2 : d.toNat = 34
    · rw [if_pos h2, u8 h2 (by decide)]; decide
    · rw [if_neg h2] at h ⊢
      by_cases h3 : d.toNat = 110
      · rw [if_pos h3, u8 h3 (by decide)]; decide
      · rw [if_neg h3] at h ⊢
        by_cases h4 : d.toNat = 116
        · rw [if_pos h4, u8 h4 (by decide)]; decide
        · rw [if_neg h4] at h; cases h
theorem take_one {L : List UInt8} {i : Nat} {c : UInt8} (h : L[i]? = some c) : L.take (i + 1) = L.take i ++ [c] := by
  rw [List.take_add_one, h]; rfl
theorem txF_told (L : List UInt8) : ∀ (f i : Nat) (said r : List UInt8) (n : Nat), txF L f i said = some (r, n) → ∃ d, r = said ++ d ∧ L.take i ++ (d.flatMap escE ++ [34]) = L.take n := by
  intro f
  induction f with
  | zero => intro i said r n h; cases h
  | succ f ih =>
    intro i said r n h
    unfold txF at h
    split at h
    · cases h
    · cases hc : L[i]? with
      | none => rw [hc] at h; cases h
      | some c =>
        rw [hc] at h
        simp only [] at h
        split at h
        · rename_i h1
          cases h
          refine ⟨[], by simp, ?_⟩
          rw [take_one hc, u8 h1 (by decide)]
          rfl
        · rename_i h1
          split at h
          · cases h
          · rename_i h2
            split at h
            · rename_i h3
              cases hd : L[i + 1]? with
              | none => rw [hd] at h; cases h
              | some d =>
                rw [hd] at h
                simp only [] at h
                split at h
                · rename_i h4
                  obtain ⟨e, he1, he2⟩ := ih _ _ _ _ h
                  refine ⟨UInt8.ofNat (escV d.toNat).1 :: e, by rw [he1]; simp, ?_⟩
                  rw [← he2, take_one hd, take_one hc, List.flatMap_cons, escE_back h4, u8 h3 (by decide)]
                  simp
                · cases h
            · rename_i h3
              obtain ⟨e, he1, he2⟩ := ih _ _ _ _ h
              refine ⟨c :: e, by rw [he1]; simp, ?_⟩
              have hE : escE c = [c] := by
                unfold escE
                rw [if_neg h3, if_neg h1, if_neg (by omega), if_neg (by omega)]
              rw [← he2, take_one hc, List.flatMap_cons, hE]
              simp
theorem dg_is (c : UInt8) : dgB c = Sv.isDig c := by
  unfold dgB Sv.isDig
  rw [← Bool.decide_and]
theorem dec_val : ∀ (l : List UInt8) (acc : Nat), (∀ b ∈ l, dgB b = true) → Lib.decFrom acc l = some (l.foldl (fun n c => 10 * n + (c.toNat - 48)) acc) := by
  intro l
  induction l with
  | nil => intro acc _; rfl
  | cons c l ih =>
    intro acc h
    rw [Lib.decFrom, dg_val (h c (List.mem_cons_self ..))]
    show Lib.decFrom (acc * 10 + (c.toNat - 48)) l = _
    rw [ih _ fun b hb => h b (List.mem_cons_of_mem _ hb), Nat.mul_comm acc 10]
    rfl
theorem intD_val {l : List UInt8} (h1 : intN l ≠ 0) : Lib.decNat (intD l) = some (Sv.val (intD l)) := by
  have hl := intD_len l
  unfold Lib.decNat
  rw [if_neg (by cases e : intD l with | nil => rw [e] at hl; simp at hl; omega | cons a b => simp), dec_val _ _ (intD_all l)]
  rfl
/-- The digits of an int's value are its bytes. -/
theorem intD_back {l : List UInt8} (h1 : intN l ≠ 0) : Lib.decDigits (Sv.val (intD l)) = intD l := by
  have hl := intD_len l
  apply Sv.dd_val _ _ rfl
  · intro e; rw [e, List.length_nil] at hl; omega
  · rintro ⟨h2, h3⟩
    rw [hl] at h3
    have hz : zhB l = true := by
      unfold zhB
      unfold intD at h2
      rw [head_take (by omega)] at h2
      rw [h2]; rfl
    unfold intN at h3
    rw [if_pos hz] at h3
    omega
  · intro c hc
    rw [← dg_is]
    exact intD_all l c hc
theorem int_told {l : List UInt8} (h : intM l ≠ 0) : Lib.itoa (intV l) = l.take (intM l) := by
  cases hp : Lib.hasPrefix l [45]
  · obtain ⟨e1, e2, e3⟩ := intM_plain hp h
    have hV : intV l = (Sv.val (intD l) : Nat) := by unfold intV; rw [hp, intD_val e2]; rfl
    rw [hV, Lib.itoa_nonneg, intD_back e2, e1]
    rfl
  · obtain ⟨e1, e0, e2, e3⟩ := intM_neg hp h
    have hV : intV l = -(Sv.val (intD (l.drop 1)) : Nat) := by unfold intV; rw [hp, intD_val e2]; rfl
    have hpos : 1 ≤ Sv.val (intD (l.drop 1)) := by
      apply Sv.val_pos
      · intro c hc
        rw [← dg_is]
        exact intD_all _ c hc
      · intro e
        have hl := intD_len (l.drop 1)
        rw [e, List.length_nil] at hl; omega
      · intro e
        unfold intD at e
        rw [head_take (by omega)] at e
        unfold zhB at e0
        rw [e] at e0
        cases e0
    rw [hV, Lib.itoa_neg _ hpos, intD_back e2, e1]
    conv => rhs; rw [pre_cons hp, Nat.add_comm 1, List.take_succ_cons]
    rfl
theorem nameT_told {kind : Int} {l : List UInt8} {t : Tk} {n : Nat} (hk : kind = 1 ∨ kind = 2) (h : nameT kind (ofL l) = (t, n)) (h0 : 0 < n) : tellT t = l.take n := by
  rw [nameT_ofL] at h
  by_cases h30 : 30 < cnt nmB l
  · rw [if_pos h30] at h; cases h; omega
  · rw [if_neg h30] at h
    cases h
    unfold tellT
    show (if (if keyB (ofL (l.take (cnt nmB l))) = true then (7 : Int) else kind) = 3 then _ else _) = _
    have h3 : ∀ b : Bool, (if b = true then (7 : Int) else kind) ≠ 3 ∧ (if b = true then (7 : Int) else kind) ≠ 4 ∧ (if b = true then (7 : Int) else kind) ≠ 5 := by
      intro b
      cases b <;> simp <;> omega
    rw [if_neg (h3 _).1, if_neg (h3 _).2.1, if_neg (h3 _).2.2]
/-- What is told of a token that was read is what it was read from. -/
theorem told_any {l : List UInt8} {t : Tk} {n : Nat} (h : firstT (ofL l) = (t, n)) (h0 : 0 < n) : tellT t = l.take n := by
  cases hc : l[0]? with
  | none => rw [firstT_none hc] at h; cases h; omega
  | some c =>
    rw [firstT_at hc] at h
    split at h
    · exact nameT_told (.inl rfl) h h0
    · split at h
      · exact nameT_told (.inr rfl) h h0
      · split at h
        · rename_i h39
          rw [varT_ofL] at h
          split at h
          · cases h; omega
          · cases h
            show 39 :: (l.drop 1).take (cnt vrB (l.drop 1)) = l.take (1 + cnt vrB (l.drop 1))
            cases l with
            | nil => cases hc
            | cons d r =>
              have : d = c := by simpa using hc
              subst this
              rw [Nat.add_comm 1, List.take_succ_cons, u8 h39 (by decide)]
              rfl
        · split at h
          · rename_i h34
            obtain ⟨r, hr, rfl⟩ := textT_some h h0
            obtain ⟨d, hd1, hd2⟩ := txF_told l _ _ _ _ _ hr
            rw [List.nil_append] at hd1
            subst hd1
            show telL r = l.take n
            rw [← hd2, take_one hc, u8 h34 (by decide)]
            rfl
          · split at h
            · rw [numT_ofL] at h
              split at h
              · cases h; rfl
              · split at h
                · cases h; omega
                · rename_i hi
                  cases h
                  exact int_told hi
            · rw [signT_ofL] at h
              split at h
              · cases h; rfl
              · split at h
                · cases h; rfl
                · cases h; omega
theorem firstT_le' {l : List UInt8} {t : Tk} {n : Nat} (h : firstT (ofL l) = (t, n)) (hf : (firstT (ofL l)).2 ≤ (ofL l).size) : n ≤ l.length := by
  rw [h, ofL_size] at hf
  exact hf
end Go.Proofs.YtlbnaddgdgbckaaGreatDoor
/- Mathematics of sources: what a source is cut into; a source told anew. -/
namespace Go.Proofs.YtlbnaddgdgbckaaGreatDoor
open Go.RowKit
set_option linter.unusedSimpArgs false
set_option linter.unusedVariables false
theorem first_le {l : List UInt8} {t : Tk} {n : Nat} (h : firstT (ofL l) = (t, n)) : n ≤ l.length := by
  have := firstT_le (ofL l)
  rw [h, ofL_size] at this
  exact this
theorem first_ne {l : List UInt8} {t : Tk} {n : Nat} (h : firstT (ofL l) = (t, n)) (h0 : 0 < n) : l ≠ [] := by
  intro e
  have := first_le h
  rw [e, List.length_nil] at this
  omega
theorem cnt0 {p : UInt8 → Bool} {l : List UInt8} (h : ∀ c, l.head? = some c → p c = false) : cnt p l = 0 := by
  have := cnt_app p l h []
  rw [List.nil_append] at this
  rw [this]
  rfl
theorem far10 (c : UInt8) (h : c.toNat = 32 ∨ c.toNat = 9 ∨ c.toNat = 10) : smB c = false ∧ grB c = false ∧ dgB c = false ∧ sgB c.toNat = false := by
  unfold smB grB dgB sgB
  generalize c.toNat = n at *
  rcases h with rfl | rfl | rfl <;> decide
/-- A token begins with no blank, and with no remark. -/
theorem first_head {l : List UInt8} {t : Tk} {n : Nat} (h : firstT (ofL l) = (t, n)) (h0 : 0 < n) : cnt blB l = 0 ∧ Lib.hasPrefix l [45, 45] = false := by
  cases hc : l[0]? with
  | none => rw [firstT_none hc] at h; cases h; omega
  | some c =>
    have hh : l.head? = some c := by rw [List.head?_eq_getElem?, hc]
    rw [firstT_at hc] at h
    constructor
    · apply cnt0
      intro d hd
      rw [hh] at hd
      cases hd
      cases hb : blB c with
      | false => rfl
      | true =>
        unfold blB at hb
        simp only [Bool.or_eq_true, decide_eq_true_eq] at hb
        have hf := far10 c (by omega)
        rw [hf.1, hf.2.1, hf.2.2.1, signT_ofL, hf.2.2.2] at h
        rw [if_neg (by simp; omega), if_neg (by simp), if_neg (by omega), if_neg (by omega), if_neg (by simp; omega), if_neg (by omega), if_neg (by simp)] at h
        cases h
        omega
    · cases hp : Lib.hasPrefix l [45, 45] with
      | false => rfl
      | true =>
        rw [hp2] at hp
        have hp' : l.take 2 = [45, 45] := by simpa using hp
        have hc45 : c = 45 := by
          have := congrArg List.head? hp'
          rw [head_take (by omega), hh] at this
          simpa using this
        subst hc45
        have hq : Lib.hasPrefix l [45, 62] = false := by rw [hp2, hp']; rfl
        have hs : smB 45 = false := by decide
        have hg : grB 45 = false := by decide
        have hd : dgB 45 = false := by decide
        have h45 : (45 : UInt8).toNat = 45 := rfl
        rw [hs, hg, hd, hq, h45] at h
        rw [if_neg (by simp), if_neg (by simp), if_neg (by omega), if_neg (by omega), if_pos (by simp), numT_ofL] at h
        have hv : verM (ofL l) = 0 := by
          rcases Nat.eq_zero_or_pos (verM (ofL l)) with e | e
          · exact e
          · have h1 : Sv.okS ((ofL l).extract 0 (verM (ofL l))) = true := verF_ok (ofL l) (min (ofL l).size 20) e
            have h2 := (okS_bytes h1).2 45
            rw [ofL_take, ofL_list, head_take e, hh] at h2
            have := h2 rfl
            cases this
        have hi : intM l = 0 := by
          unfold intM
          have hz : intN (l.drop 1) = 0 := by
            match l, hp' with
            | a :: b :: r, hp' =>
              have : a = 45 ∧ b = 45 := by simpa using hp'
              rw [this.2]
              show intN (45 :: r) = 0
              unfold intN
              have hz : zhB (45 :: r) = false := rfl
              rw [hz, cnt0 (fun c hc => by cases hc; rfl)]
              rfl
            | [], hp' => cases hp'
            | [a], hp' => cases hp'
          rw [hz, hp1, hh]
          simp
        rw [hv, hi] at h
        cases h
        omega
theorem first_sn {l : List UInt8} {t : Tk} {n : Nat} (h : firstT (ofL l) = (t, n)) (h0 : 0 < n) : sn l = 0 := by
  obtain ⟨h1, h2⟩ := first_head h h0
  unfold sn
  rw [h2, h1]
  rfl
theorem first_sk {l : List UInt8} {t : Tk} {n : Nat} (h : firstT (ofL l) = (t, n)) (h0 : 0 < n) : skM l = 0 := skM_zero (first_sn h h0)
theorem sk_nil : skM [] = 0 := rfl
theorem sn_take {l : List UInt8} {k : Nat} (h : sn l ≠ 0) (hk : sn l ≤ k) : sn (l.take k) = sn l := by
  unfold sn at h hk ⊢
  cases hp : Lib.hasPrefix l [45, 45]
  · rw [hp] at h hk
    simp only [Bool.false_eq_true, if_false] at h hk ⊢
    have hq : Lib.hasPrefix (l.take k) [45, 45] = false := by
      rw [hp2] at hp ⊢
      rw [beq_eq_false_iff_ne] at hp ⊢
      intro e
      apply hp
      rw [← e, take_take_le]
      have := congrArg List.length e
      simp at this
      omega
    rw [hq]
    simp only [Bool.false_eq_true, if_false]
    rw [cnt_take]
    omega
  · rw [hp] at h hk
    simp only [if_true] at h hk ⊢
    have hq : Lib.hasPrefix (l.take k) [45, 45] = true := by
      have h2 : 2 ≤ cnt notNl l := by
        rw [hp2] at hp
        match l, hp with
        | a :: b :: r, hp =>
          have : a = 45 ∧ b = 45 := by simpa using hp
          rw [this.1, this.2]
          unfold cnt
          rw [List.takeWhile_cons, if_pos (by decide), List.takeWhile_cons, if_pos (by decide)]
          simp
        | [], hp => cases hp
        | [a], hp => simp at hp
      rw [hp2] at hp ⊢
      rw [take_take_le _ (by omega)]
      exact hp
    rw [hq]
    simp only [if_true]
    rw [cnt_take]
    omega
/-- What is skipped is skipped alone. -/
theorem sk_take : ∀ (k : Nat) (l : List UInt8), l.length = k → skM (l.take (skM l)) = skM l := by
  intro k
  induction k using Nat.strongRecOn with
  | ind k ih =>
    intro l hl
    by_cases h : sn l = 0
    · rw [skM_zero h]; rfl
    · have hle := sn_le l
      have h1 := skM_step h
      have h2 := ih (l.drop (sn l)).length (by rw [List.length_drop]; omega) _ rfl
      generalize hb : skM (l.drop (sn l)) = b at *
      rw [h1]
      have h3 := sn_take h (k := sn l + b) (by omega)
      rw [skM_step (by rw [h3]; exact h), h3]
      rw [List.drop_take, Nat.add_sub_cancel_left, h2]
/-- What a source is cut into. -/
inductive Lexed : List UInt8 → Nat → List (Tk × Nat) → Prop
  | nil (i : Nat) : Lexed [] i []
  | cons (l : List UInt8) (i n m : Nat) (t : Tk) (r : List (Tk × Nat)) (h : firstT (ofL l) = (t, n)) (h0 : 0 < n) (hm : skM (l.drop n) = m) (hr : Lexed (l.drop (n + m)) (i + n + m) r) : Lexed l i ((t, i) :: r)
theorem lxM_ok (s : ByteArray) : ∀ (k i : Nat) (acc : List (Tk × Nat)), s.size - i = k → i ≤ s.size → acc.length ≤ 6000 → (lxM s i acc).2.2 = 0 →
    ∃ r, (lxM s i acc).1 = acc ++ r ∧ Lexed (s.data.toList.drop i) i r ∧ acc.length + r.length ≤ 6000 ∧ (lxM s i acc).2.1 = 0 := by
  intro k
  induction k using Nat.strongRecOn with
  | ind k ih =>
    intro i acc hk hi hacc h
    rw [lxM_step] at h ⊢
    by_cases h1 : s.size ≤ i
    · rw [if_pos h1] at h ⊢
      refine ⟨[], by simp, ?_, by simpa using hacc, rfl⟩
      rw [List.drop_eq_nil_of_le (by rw [len_list]; omega)]
      exact .nil _
    · rw [if_neg h1] at h ⊢
      by_cases h2 : (firstT (s.extract i s.size)).2 = 0
      · rw [if_pos h2] at h; cases h
      · rw [if_neg h2] at h ⊢
        by_cases h3 : acc.length = 6000
        · rw [if_pos h3] at h; cases h
        · rw [if_neg h3] at h ⊢
          have hle := firstT_le (s.extract i s.size)
          rw [sfx_size] at hle
          rw [ofL_drop] at h h2 hle ⊢
          cases hf : firstT (ofL (s.data.toList.drop i)) with
          | mk t n =>
            rw [hf] at h h2 hle
            simp only [] at h h2 hle ⊢
            have hsk := skM_le _ (s.data.toList.drop (i + n)) rfl
            rw [List.length_drop, len_list] at hsk
            obtain ⟨r, e1, e2, e3, e4⟩ := ih (s.size - (i + n + skM (s.data.toList.drop (i + n)))) (by omega) (i + n + skM (s.data.toList.drop (i + n))) (acc ++ [(t, i)]) rfl (by omega) (by simp; omega) h
            refine ⟨(t, i) :: r, ?_, ?_, ?_, e4⟩
            · rw [e1]; simp
            · refine .cons _ i n (skM (s.data.toList.drop (i + n))) t r hf (by omega) (by rw [List.drop_drop]) ?_
              rw [List.drop_drop, ← Nat.add_assoc]
              exact e2
            · simp at e3 ⊢; omega
theorem lxM_of {l : List UInt8} {i : Nat} {r : List (Tk × Nat)} (h : Lexed l i r) : ∀ (s : ByteArray) (acc : List (Tk × Nat)), s.data.toList.drop i = l → acc.length + r.length ≤ 6000 → lxM s i acc = (acc ++ r, 0, 0) := by
  induction h with
  | nil i =>
    intro s acc hd _
    have := congrArg List.length hd
    rw [List.length_drop, len_list, List.length_nil] at this
    rw [lxM_step, if_pos (by omega)]
    simp
  | cons l i n m t r h h0 hm hr ih =>
    intro s acc hd hl
    have hne := first_ne h h0
    have hlen := congrArg List.length hd
    rw [List.length_drop, len_list] at hlen
    have hpos := List.length_pos_iff.2 hne
    have hdn : s.data.toList.drop (i + n) = l.drop n := by rw [← hd, List.drop_drop]
    rw [lxM_step, if_neg (by omega), ofL_drop, hd, h]
    simp only []
    rw [if_neg (by omega), if_neg (by simp at hl; omega), hdn, hm]
    rw [ih s (acc ++ [(t, i)]) (by rw [← hd, List.drop_drop, Nat.add_assoc]) (by simp at hl ⊢; omega)]
    simp
theorem lexM_lexed {s : ByteArray} (h : (lexM s).2.2 = 0) : s.size ≤ 20000 ∧ Lexed (s.data.toList.drop (skM s.data.toList)) (skM s.data.toList) (lexM s).1 ∧ (lexM s).1.length ≤ 6000 ∧ (lexM s).2.1 = 0 := by
  unfold lexM at h ⊢
  by_cases hb : 20000 < s.size
  · rw [if_pos hb] at h; cases h
  · rw [if_neg hb] at h ⊢
    have hsk := skM_le _ s.data.toList rfl
    rw [len_list] at hsk
    obtain ⟨r, e1, e2, e3, e4⟩ := lxM_ok s _ (skM s.data.toList) [] rfl hsk (by simp) h
    rw [List.nil_append] at e1
    rw [e1]
    exact ⟨by omega, e2, by simpa using e3, e4⟩
theorem lexM_bad {s : ByteArray} (h : (lexM s).2.2 ≠ 0) : (lexM s).1 = [] := by
  have key : ∀ (f i : Nat) (acc : List (Tk × Nat)), (lxF s f i acc).2.2 ≠ 0 → (lxF s f i acc).1 = [] := by
    intro f
    induction f with
    | zero => intro i acc h; exact absurd rfl h
    | succ f ih =>
      intro i acc h
      unfold lxF at h ⊢
      split at h
      · exact absurd rfl h
      · rename_i h1
        rw [if_neg h1]
        split at h
        · rename_i h2; rw [if_pos h2]
        · rename_i h2
          rw [if_neg h2]
          split at h
          · rename_i h3; rw [if_pos h3]
          · rename_i h3
            rw [if_neg h3]
            exact ih _ _ h
  unfold lexM at h ⊢
  split at h
  · rename_i h1; rw [if_pos h1]
  · rename_i h1
    rw [if_neg h1]
    exact key _ _ _ h
theorem lexM_of {s : ByteArray} {r : List (Tk × Nat)} (hs : s.size ≤ 20000) (h : Lexed (s.data.toList.drop (skM s.data.toList)) (skM s.data.toList) r) (hl : r.length ≤ 6000) : lexM s = (r, 0, 0) := by
  unfold lexM
  rw [if_neg (by omega), lxM_of h s [] rfl (by simpa using hl)]
  rfl
theorem Lexed.head {l : List UInt8} {i : Nat} {r : List (Tk × Nat)} (h : Lexed l i r) : (r[0]? = none → l = []) ∧ (∀ u b, r[0]? = some (u, b) → b = i) := by
  cases h with
  | nil =>
    refine ⟨fun _ => rfl, ?_⟩
    intro u b h
    cases h
  | cons n m t r h h0 hm hr =>
    refine ⟨?_, ?_⟩
    · intro h
      cases h
    · intro u b h
      cases h
      rfl
/-- Where tokens stand, and what stands there. -/
theorem Lexed.place {l : List UInt8} {i : Nat} {r : List (Tk × Nat)} (h : Lexed l i r) : ∀ (j : Nat) (t : Tk) (a : Nat), r[j]? = some (t, a) →
    ∃ n m, i ≤ a ∧ firstT (ofL (l.drop (a - i))) = (t, n) ∧ 0 < n ∧ skM (l.drop (a - i + n)) = m ∧ (a - i) + n + m ≤ l.length ∧ (∀ u b, r[j + 1]? = some (u, b) → b = a + n + m) ∧ (r[j + 1]? = none → (a - i) + n + m = l.length) := by
  induction h with
  | nil i => intro j t a h; cases h
  | cons l i n m t r h h0 hm hr ih =>
    have hle := first_le h
    have hsk := skM_le _ (l.drop n) rfl
    rw [hm, List.length_drop] at hsk
    intro j u a hj
    cases j with
    | zero =>
      cases hj
      refine ⟨n, m, Nat.le_refl _, ?_, h0, ?_, by omega, fun v b hv => (Lexed.head hr).2 v b hv, fun hn => ?_⟩
      · rw [Nat.sub_self, List.drop_zero]; exact h
      · rw [Nat.sub_self, Nat.zero_add]; exact hm
      · have := congrArg List.length ((Lexed.head hr).1 hn)
        rw [List.length_drop, List.length_nil] at this
        omega
    | succ j =>
      obtain ⟨n', m', e1, e2, e3, e4, e5, e6, e7⟩ := ih j u a hj
      rw [List.drop_drop] at e2 e4
      rw [List.length_drop] at e5 e7
      have ha : n + m + (a - (i + n + m)) = a - i := by omega
      have ha' : n + m + (a - (i + n + m) + n') = a - i + n' := by omega
      rw [ha] at e2
      rw [ha'] at e4
      refine ⟨n', m', by omega, e2, e3, e4, by omega, e6, fun hn => ?_⟩
      have := e7 hn
      omega
/-- A token with what is skipped behind it, alone. -/
theorem lex_one {x : List UInt8} {t : Tk} {n m : Nat} (h : firstT (ofL x) = (t, n)) (h0 : 0 < n) (hm : skM (x.drop n) = m) (he : n + m = x.length) (hs : x.length ≤ 20000) : lexM (ofL x) = ([(t, 0)], 0, 0) := by
  apply lexM_of
  · rw [ofL_size]; exact hs
  · rw [ofL_list, first_sk h h0, List.drop_zero]
    refine .cons x 0 n m t [] h h0 hm ?_
    rw [List.drop_eq_nil_of_le (by omega)]
    exact .nil _
  · simp
theorem lex_piece {l : List UInt8} {t : Tk} {n m : Nat} (h : firstT (ofL l) = (t, n)) (h0 : 0 < n) (hm : skM (l.drop n) = m) (he : n + m ≤ 20000) : lexM (ofL (l.take (n + m))) = ([(t, 0)], 0, 0) := by
  have hle := first_le h
  have hsk := skM_le _ (l.drop n) rfl
  rw [hm, List.length_drop] at hsk
  have hlen : (l.take (n + m)).length = n + m := by rw [List.length_take]; omega
  refine lex_one (firstT_pre h h0 (by omega)) h0 (m := m) ?_ hlen.symm (by omega)
  rw [List.drop_take, Nat.add_sub_cancel_left]
  have := sk_take _ (l.drop n) rfl
  rw [hm] at this
  exact this
theorem lex_blanks {l : List UInt8} (h : l.length ≤ 20000) : lexM (ofL (l.take (skM l))) = ([], 0, 0) := by
  have hsk := skM_le _ l rfl
  apply lexM_of
  · rw [ofL_size, List.length_take]; omega
  · rw [ofL_list, sk_take _ l rfl, List.drop_eq_nil_of_le (by rw [List.length_take]; omega)]
    exact .nil _
  · simp
/-- A token that may be: it is read from what is told of it. -/
def RightT (t : Tk) : Prop := 0 < (tellT t).length ∧ firstT (ofL (tellT t)) = (t, (tellT t).length)
theorem read_right {l : List UInt8} {t : Tk} {n : Nat} (h : firstT (ofL l) = (t, n)) (h0 : 0 < n) : RightT t := by
  have hle := first_le h
  have ht := told_any h h0
  have hlen : (tellT t).length = n := by rw [ht, List.length_take]; omega
  refine ⟨by omega, ?_⟩
  rw [hlen, ht]
  exact firstT_pre h h0 (Nat.le_refl _)
theorem Lexed.right {l : List UInt8} {i : Nat} {r : List (Tk × Nat)} (h : Lexed l i r) : ∀ x ∈ r, RightT x.1 := by
  induction h with
  | nil i => intro x hx; cases hx
  | cons l i n m t r h h0 hm hr ih =>
    intro x hx
    cases hx with
    | head => exact read_right h h0
    | tail _ hx => exact ih x hx
/-- Tokens, told. -/
def joinT : List Tk → List UInt8
  | [] => []
  | [t] => tellT t
  | t :: u :: r => tellT t ++ 32 :: joinT (u :: r)
theorem joinT_cons (t : Tk) (r : List Tk) : joinT (t :: r) = tellT t ++ (if r = [] then [] else 32 :: joinT r) := by
  cases r with
  | nil => simp [joinT]
  | cons u r => simp [joinT]
theorem sk_blank {l : List UInt8} {t : Tk} {n : Nat} (h : firstT (ofL l) = (t, n)) (h0 : 0 < n) : skM (32 :: l) = 1 := by
  have h1 := first_head h h0
  have hs : sn (32 :: l) = 1 := by
    unfold sn
    have hq : Lib.hasPrefix (32 :: l) [45, 45] = false := by
      rw [hp2, beq_eq_false_iff_ne]
      intro e
      have := congrArg List.head? e
      rw [head_take (by omega)] at this
      cases this
    rw [hq]
    simp only [Bool.false_eq_true, if_false]
    have := h1.1
    unfold cnt at this ⊢
    rw [List.takeWhile_cons, if_pos (by decide), List.length_cons, this]
  rw [skM_step (by omega), hs]
  show 1 + skM l = 1
  rw [first_sk h h0]
/-- Tokens that may be are read from what is told of them. -/
theorem lex_back : ∀ (ts : List Tk), (∀ t ∈ ts, RightT t) → ∀ i, ∃ r, r.map Prod.fst = ts ∧ Lexed (joinT ts) i r ∧ (ts ≠ [] → ∃ t n, firstT (ofL (joinT ts)) = (t, n) ∧ 0 < n) := by
  intro ts
  induction ts with
  | nil => intro _ i; exact ⟨[], rfl, .nil i, fun h => absurd rfl h⟩
  | cons t r ih =>
    intro hR i
    obtain ⟨h0, h1⟩ := hR t (List.mem_cons_self ..)
    have ih' := ih fun u hu => hR u (List.mem_cons_of_mem _ hu)
    cases r with
    | nil =>
      refine ⟨[(t, i)], rfl, ?_, fun _ => ⟨t, _, h1, h0⟩⟩
      refine .cons _ i (tellT t).length 0 t [] h1 h0 ?_ ?_
      · show skM ((tellT t).drop (tellT t).length) = 0
        rw [List.drop_length]; rfl
      · show Lexed ((tellT t).drop ((tellT t).length + 0)) _ []
        rw [Nat.add_zero, List.drop_length]
        exact .nil _
    | cons u r =>
      obtain ⟨_, _, _, hf⟩ := ih' 0
      obtain ⟨u', n', hf1, hf2⟩ := hf (by simp)
      have hx : firstT (ofL (tellT t ++ 32 :: joinT (u :: r))) = (t, (tellT t).length) := firstT_ext (fun c hc => by cases hc; exact apart_blank) h1 h0 rfl
      obtain ⟨q, e1, e2, _⟩ := ih' (i + (tellT t).length + 1)
      refine ⟨(t, i) :: q, by rw [List.map_cons, e1], ?_, fun _ => ⟨t, _, hx, h0⟩⟩
      refine .cons _ i (tellT t).length 1 t q hx h0 ?_ ?_
      · show skM ((tellT t ++ 32 :: joinT (u :: r)).drop (tellT t).length) = 1
        rw [List.drop_left]
        exact sk_blank hf1 hf2
      · show Lexed ((tellT t ++ 32 :: joinT (u :: r)).drop ((tellT t).length + 1)) _ q
        rw [← List.drop_drop, List.drop_left]
        exact e2
theorem lexM_back {ts : List Tk} (hR : ∀ t ∈ ts, RightT t) (h1 : (joinT ts).length ≤ 20000) (h2 : ts.length ≤ 6000) : ∃ r, lexM (ofL (joinT ts)) = (r, 0, 0) ∧ r.map Prod.fst = ts := by
  obtain ⟨r, e1, e2, e3⟩ := lex_back ts hR 0
  have hl : r.length = ts.length := by rw [← e1, List.length_map]
  have hs : skM (joinT ts) = 0 := by
    cases ts with
    | nil => rfl
    | cons t q =>
      obtain ⟨u, n, h3, h4⟩ := e3 (by simp)
      exact first_sk h3 h4
  refine ⟨r, lexM_of (by rw [ofL_size]; exact h1) ?_ (by omega), e1⟩
  rw [ofL_list, hs, List.drop_zero]
  exact e2
theorem Lexed.lens {l : List UInt8} {i : Nat} {r : List (Tk × Nat)} (h : Lexed l i r) : (joinT (r.map Prod.fst)).length ≤ 2 * l.length := by
  induction h with
  | nil i => simp [joinT]
  | cons l i n m t r h h0 hm hr ih =>
    have hle := first_le h
    have ht := congrArg List.length (told_any h h0)
    rw [List.length_take] at ht
    rw [List.length_drop] at ih
    rw [List.map_cons, joinT_cons, List.length_append]
    split
    · simp; omega
    · rw [List.length_cons]
      show (tellT t).length + _ ≤ _
      omega
theorem escE_len (c : UInt8) : (escE c).length ≤ 2 := by
  unfold escE
  repeat' split
  all_goals simp
theorem telL_len (l : List UInt8) : (telL l).length ≤ 2 * l.length + 2 := by
  unfold telL
  rw [List.length_cons, List.length_append]
  have : (l.flatMap escE).length ≤ 2 * l.length := by
    induction l with
    | nil => simp
    | cons c l ih =>
      have := escE_len c
      rw [List.flatMap_cons, List.length_append, List.length_cons]
      omega
  rw [List.length_cons, List.length_nil]
  omega
theorem tellT_len (t : Tk) (h0 : -9223372036854775808 ≤ t.n) (h1 : t.n ≤ 9223372036854775807) : (tellT t).length ≤ 2 * t.s.size + 22 := by
  unfold tellT
  have hs := len_list t.s
  split
  · rw [List.length_cons, hs]; omega
  · split
    · have := Lib.itoa_length_le t.n h0 h1
      omega
    · split
      · have := telL_len t.s.data.toList
        rw [hs] at this
        omega
      · rw [hs]; omega
end Go.Proofs.YtlbnaddgdgbckaaGreatDoor
