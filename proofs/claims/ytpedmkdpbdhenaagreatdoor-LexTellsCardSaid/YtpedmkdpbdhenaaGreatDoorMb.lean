
/- Mathematics of tokens: what is told of a token that was read is the bytes that it was read from. -/
import Derived.Test.YtpedmkdpbdhenaaGreatDoorMa
import Derived.Lib.ItoaNum
import Derived.Lib.ItoaMem
import Derived.Lib.ItoaLen
namespace Go.Proofs.YtpedmkdpbdhenaaGreatDoor
open Go.RowKit
set_option linter.unusedSimpArgs false
set_option linter.unusedVariables false
namespace Sv
theorem foldl_le (l : List UInt8) : ∀ a, a * 10 ^ l.length ≤ l.foldl (fun n c => 10 * n + (c.toNat - 48)) a := by
  induction l with
  | nil => intro a; simp
  | cons c l ih =>
    intro a
    have h1 := ih (10 * a + (c.toNat - 48))
    have h3 : (a * 10) * 10 ^ l.length ≤ (10 * a + (c.toNat - 48)) * 10 ^ l.length := Nat.mul_le_mul_right _ (by omega)
    rw [List.length_cons, Nat.pow_succ, Nat.mul_comm (10 ^ l.length) 10, ← Nat.mul_assoc]
    exact Nat.le_trans h3 h1
theorem dd_step (m : Nat) : Lib.decDigits m = (if m / 10 = 0 then [] else Lib.decDigits (m / 10)) ++ [UInt8.ofNat (48 + m % 10)] := by
  by_cases h : m < 10
  · have h0 : m / 10 = 0 := by omega
    have h1 : m % 10 = m := by omega
    rw [Lib.decDigits_one h, if_pos h0, h1]; rfl
  · have h0 : ¬ m / 10 = 0 := by omega
    rw [Lib.decDigits, dif_neg h, if_neg h0]
theorem dd_len : ∀ (k m : Nat), m < 10 ^ (k + 1) → (Lib.decDigits m).length ≤ k + 1 := by
  intro k
  induction k with
  | zero => intro m h; rw [Lib.decDigits_one (by simpa using h)]; simp
  | succ k ih =>
    intro m h
    rw [dd_step, List.length_append, List.length_singleton]
    have h2 : m / 10 < 10 ^ (k + 1) := by rw [Nat.pow_succ] at h; omega
    split
    · simp
    · have := ih _ h2; omega
theorem back_dig {b : UInt8} (h : isDig b = true) : UInt8.ofNat (48 + (b.toNat - 48)) = b := by
  have := isDig_yes h
  have e : 48 + (b.toNat - 48) = b.toNat := by omega
  rw [e, UInt8.ofNat_toNat]
theorem val_pos {L : List UInt8} (hd : ∀ c ∈ L, isDig c = true) (hn : L ≠ []) (h48 : L.head? ≠ some 48) : 1 ≤ val L := by
  cases L with
  | nil => exact absurd rfl hn
  | cons x l =>
    have hx := isDig_yes (hd x (by simp))
    have hne : x.toNat ≠ 48 := fun e => h48 (by simp only [List.head?_cons]; congr 1; exact UInt8.toNat_inj.1 e)
    have h5 := foldl_le l (10 * 0 + (x.toNat - 48))
    have h6 : val (x :: l) = l.foldl (fun n c => 10 * n + (c.toNat - 48)) (10 * 0 + (x.toNat - 48)) := rfl
    have h7 : 1 ≤ 10 ^ l.length := Nat.pow_pos (by decide)
    have h8 : 1 * 10 ^ l.length ≤ (10 * 0 + (x.toNat - 48)) * 10 ^ l.length := Nat.mul_le_mul_right _ (by omega)
    omega
theorem head_snoc {L : List UInt8} {b : UInt8} (h : L ≠ []) : (L ++ [b]).head? = L.head? := by
  cases L with
  | nil => exact absurd rfl h
  | cons x l => rfl
theorem dd_val : ∀ (n : Nat) (T : List UInt8), T.length = n → T ≠ [] → ¬ (T.head? = some 48 ∧ 1 < T.length) → (∀ c ∈ T, isDig c = true) → Lib.decDigits (val T) = T := by
  intro n
  induction n with
  | zero => intro T h h1; exact absurd (List.length_eq_zero_iff.1 h) h1
  | succ n ih =>
    intro T hl hne hh hd
    rcases List.eq_nil_or_concat T with h | ⟨L, b, h⟩
    · exact absurd h hne
    · rw [List.concat_eq_append] at h
      subst h
      have hb := isDig_yes (hd b (by simp))
      rw [val_snoc]
      by_cases hL : L = []
      · subst hL
        have e : 10 * val [] + (b.toNat - 48) = b.toNat - 48 := by rw [val_nil]; omega
        rw [e, Lib.decDigits_one (by omega), back_dig (hd b (by simp))]
        rfl
      · have hL48 : L.head? ≠ some 48 := fun h => hh ⟨by rw [head_snoc hL]; exact h, by
          have := List.length_pos_iff.2 hL
          simp; omega⟩
        have hdl : ∀ c ∈ L, isDig c = true := fun c hc => hd c (List.mem_append_left _ hc)
        have hv := val_pos hdl hL hL48
        have hi := ih L (by simpa using hl) hL (fun h => hL48 h.1) hdl
        rw [dd_step]
        have e1 : (10 * val L + (b.toNat - 48)) / 10 = val L := by omega
        have e2 : (10 * val L + (b.toNat - 48)) % 10 = b.toNat - 48 := by omega
        rw [e1, e2, if_neg (by omega), hi, back_dig (hd b (by simp))]
theorem digit_is {k : Nat} (h : k < 10) : isDig (UInt8.ofNat (48 + k)) = true ∧ (UInt8.ofNat (48 + k)).toNat = 48 + k := by
  have e : (UInt8.ofNat (48 + k)).toNat = 48 + k := by simp; omega
  exact ⟨by unfold isDig; rw [e]; exact decide_eq_true (by omega), e⟩
theorem dd_spec (n : Nat) : (∀ c ∈ Lib.decDigits n, isDig c = true) ∧ val (Lib.decDigits n) = n ∧ Lib.decDigits n ≠ [] ∧ ¬ ((Lib.decDigits n).head? = some 48 ∧ 1 < (Lib.decDigits n).length) := by
  induction n using Nat.strongRecOn with
  | _ n ih =>
    by_cases h : n < 10
    · rw [Lib.decDigits_one h]
      have hd := digit_is h
      refine ⟨fun c hc => by rw [List.mem_singleton.1 hc]; exact hd.1, ?_, by simp, fun h2 => absurd h2.2 (by simp)⟩
      have : val [UInt8.ofNat (48 + n)] = 10 * 0 + ((UInt8.ofNat (48 + n)).toNat - 48) := rfl
      rw [this, hd.2]; omega
    · have h0 : ¬ n / 10 = 0 := by omega
      obtain ⟨i1, i2, i3, i4⟩ := ih (n / 10) (by omega)
      have hd := digit_is (k := n % 10) (by omega)
      have e : Lib.decDigits n = Lib.decDigits (n / 10) ++ [UInt8.ofNat (48 + n % 10)] := by rw [dd_step n, if_neg h0]
      rw [e]
      refine ⟨fun c hc => ?_, ?_, by simp, fun h2 => ?_⟩
      · rcases List.mem_append.1 hc with hc | hc
        · exact i1 c hc
        · rw [List.mem_singleton.1 hc]; exact hd.1
      · rw [val_snoc, i2, hd.2]; omega
      · rw [head_snoc i3] at h2
        have hlen : ¬ 1 < (Lib.decDigits (n / 10)).length := fun h3 => i4 ⟨h2.1, h3⟩
        generalize Lib.decDigits (n / 10) = L at *
        match L, i3, hlen, h2, i2 with
        | [x], _, _, h2, i2 =>
          have hx : x = 48 := by simpa using h2.1
          rw [hx] at i2
          have : val [48] = 0 := rfl
          omega
        | _ :: _ :: _, _, hlen, _, _ => exact hlen (by simp)
end Sv
/-- A byte of a text, as it is told. -/
def escE (c : UInt8) : List UInt8 := if c.toNat = 92 then [92, 92] else if c.toNat = 34 then [92, 34] else if c.toNat = 10 then [92, 110] else if c.toNat = 9 then [92, 116] else [c]
/-- A text, as it is told. -/
def telL (l : List UInt8) : List UInt8 := 34 :: (l.flatMap escE ++ [34])
/-- A token, as it is told. -/
def tellT (t : Tk) : List UInt8 := if t.k = 3 then 39 :: t.s.data.toList else if t.k = 4 then Lib.itoa t.n else if t.k = 5 then telL t.s.data.toList else t.s.data.toList
theorem u8 {c : UInt8} {n : Nat} (h : c.toNat = n) (hn : n < 256) : c = UInt8.ofNat n := by
  apply UInt8.toNat_inj.1
  rw [h, UInt8.toNat_ofNat', Nat.mod_eq_of_lt hn]
theorem escE_back {d : UInt8} (h : (escV d.toNat).2 = true) : escE (UInt8.ofNat (escV d.toNat).1) = [92, d] := by
  unfold escV at h ⊢
  by_cases h1 : d.toNat = 92
  · rw [if_pos h1, u8 h1 (by decide)]; decide
  · rw [if_neg h1] at h ⊢
    by_cases h2 : d.toNat = 34
    · rw [if_pos h2, u8 h2 (by decide)]; decide
    · rw [if_neg h2] at h ⊢
      by_cases h3 : d.toNat = 110
      · rw [if_pos h3, u8 h3 (by decide)]; decide
      · rw [if_neg h3] at h ⊢
        by_cases h4 : d.toNat = 116
        · rw [if_pos h4, u8 h4 (by decide)]; decide
        · rw [if_neg h4] at h; cases h
theorem take_one {L : List UInt8} {i : Nat} {c : UInt8} (h : L[i]? = some c) : L.take (i + 1) = L.take i ++ [c] := by
  rw [List.take_add_one, h]; rfl
theorem txF_told (L : List UInt8) : ∀ (f i : Nat) (said r : List UInt8) (n : Nat), txF L f i said = some (r, n) → ∃ d, r = said ++ d ∧ L.take i ++ (d.flatMap escE ++ [34]) = L.take n := by
  intro f
  induction f with
  | zero => intro i said r n h; cases h
  | succ f ih =>
    intro i said r n h
    unfold txF at h
    split at h
    · cases h
    · cases hc : L[i]? with
      | none => rw [hc] at h; cases h
      | some c =>
        rw [hc] at h
        simp only [] at h
        split at h
        · rename_i h1
          cases h
          refine ⟨[], by simp, ?_⟩
          rw [take_one hc, u8 h1 (by decide)]
          rfl
        · rename_i h1
          split at h
          · cases h
          · rename_i h2
            split at h
            · rename_i h3
              cases hd : L[i + 1]? with
              | none => rw [hd] at h; cases h
              | some d =>
                rw [hd] at h
                simp only [] at h
                split at h
                · rename_i h4
                  obtain ⟨e, he1, he2⟩ := ih _ _ _ _ h
                  refine ⟨UInt8.ofNat (escV d.toNat).1 :: e, by rw [he1]; simp, ?_⟩
                  rw [← he2, take_one hd, take_one hc, List.flatMap_cons, escE_back h4, u8 h3 (by decide)]
                  simp
                · cases h
            · rename_i h3
              obtain ⟨e, he1, he2⟩ := ih _ _ _ _ h
              refine ⟨c :: e, by rw [he1]; simp, ?_⟩
              have hE : escE c = [c] := by
                unfold escE
                rw [if_neg h3, if_neg h1, if_neg (by omega), if_neg (by omega)]
              rw [← he2, take_one hc, List.flatMap_cons, hE]
              simp
theorem dg_is (c : UInt8) : dgB c = Sv.isDig c := by
  unfold dgB Sv.isDig
  rw [← Bool.decide_and]
theorem dec_val : ∀ (l : List UInt8) (acc : Nat), (∀ b ∈ l, dgB b = true) → Lib.decFrom acc l = some (l.foldl (fun n c => 10 * n + (c.toNat - 48)) acc) := by
  intro l
  induction l with
  | nil => intro acc _; rfl
  | cons c l ih =>
    intro acc h
    rw [Lib.decFrom, dg_val (h c (List.mem_cons_self ..))]
    show Lib.decFrom (acc * 10 + (c.toNat - 48)) l = _
    rw [ih _ fun b hb => h b (List.mem_cons_of_mem _ hb), Nat.mul_comm acc 10]
    rfl
theorem intD_val {l : List UInt8} (h1 : intN l ≠ 0) : Lib.decNat (intD l) = some (Sv.val (intD l)) := by
  have hl := intD_len l
  unfold Lib.decNat
  rw [if_neg (by cases e : intD l with | nil => rw [e] at hl; simp at hl; omega | cons a b => simp), dec_val _ _ (intD_all l)]
  rfl
/-- The digits of an int's value are its bytes. -/
theorem intD_back {l : List UInt8} (h1 : intN l ≠ 0) : Lib.decDigits (Sv.val (intD l)) = intD l := by
  have hl := intD_len l
  apply Sv.dd_val _ _ rfl
  · intro e; rw [e, List.length_nil] at hl; omega
  · rintro ⟨h2, h3⟩
    rw [hl] at h3
    have hz : zhB l = true := by
      unfold zhB
      unfold intD at h2
      rw [head_take (by omega)] at h2
      rw [h2]; rfl
    unfold intN at h3
    rw [if_pos hz] at h3
    omega
  · intro c hc
    rw [← dg_is]
    exact intD_all l c hc
theorem int_told {l : List UInt8} (h : intM l ≠ 0) : Lib.itoa (intV l) = l.take (intM l) := by
  cases hp : Lib.hasPrefix l [45]
  · obtain ⟨e1, e2, e3⟩ := intM_plain hp h
    have hV : intV l = (Sv.val (intD l) : Nat) := by unfold intV; rw [hp, intD_val e2]; rfl
    rw [hV, Lib.itoa_nonneg, intD_back e2, e1]
    rfl
  · obtain ⟨e1, e0, e2, e3⟩ := intM_neg hp h
    have hV : intV l = -(Sv.val (intD (l.drop 1)) : Nat) := by unfold intV; rw [hp, intD_val e2]; rfl
    have hpos : 1 ≤ Sv.val (intD (l.drop 1)) := by
      apply Sv.val_pos
      · intro c hc
        rw [← dg_is]
        exact intD_all _ c hc
      · intro e
        have hl := intD_len (l.drop 1)
        rw [e, List.length_nil] at hl; omega
      · intro e
        unfold intD at e
        rw [head_take (by omega)] at e
        unfold zhB at e0
        rw [e] at e0
        cases e0
    rw [hV, Lib.itoa_neg _ hpos, intD_back e2, e1]
    conv => rhs; rw [pre_cons hp, Nat.add_comm 1, List.take_succ_cons]
    rfl
theorem nameT_told {kind : Int} {l : List UInt8} {t : Tk} {n : Nat} (hk : kind = 1 ∨ kind = 2) (h : nameT kind (ofL l) = (t, n)) (h0 : 0 < n) : tellT t = l.take n := by
  rw [nameT_ofL] at h
  by_cases h30 : 30 < cnt nmB l
  · rw [if_pos h30] at h; cases h; omega
  · rw [if_neg h30] at h
    cases h
    unfold tellT
    show (if (if keyB (ofL (l.take (cnt nmB l))) = true then (7 : Int) else kind) = 3 then _ else _) = _
    have h3 : ∀ b : Bool, (if b = true then (7 : Int) else kind) ≠ 3 ∧ (if b = true then (7 : Int) else kind) ≠ 4 ∧ (if b = true then (7 : Int) else kind) ≠ 5 := by
      intro b
      cases b <;> simp <;> omega
    rw [if_neg (h3 _).1, if_neg (h3 _).2.1, if_neg (h3 _).2.2]
/-- What is told of a token that was read is what it was read from. -/
theorem told_any {l : List UInt8} {t : Tk} {n : Nat} (h : firstT (ofL l) = (t, n)) (h0 : 0 < n) : tellT t = l.take n := by
  cases hc : l[0]? with
  | none => rw [firstT_none hc] at h; cases h; omega
  | some c =>
    rw [firstT_at hc] at h
    split at h
    · exact nameT_told (.inl rfl) h h0
    · split at h
      · exact nameT_told (.inr rfl) h h0
      · split at h
        · rename_i h39
          rw [varT_ofL] at h
          split at h
          · cases h; omega
          · cases h
            show 39 :: (l.drop 1).take (cnt vrB (l.drop 1)) = l.take (1 + cnt vrB (l.drop 1))
            cases l with
            | nil => cases hc
            | cons d r =>
              have : d = c := by simpa using hc
              subst this
              rw [Nat.add_comm 1, List.take_succ_cons, u8 h39 (by decide)]
              rfl
        · split at h
          · rename_i h34
            obtain ⟨r, hr, rfl⟩ := textT_some h h0
            obtain ⟨d, hd1, hd2⟩ := txF_told l _ _ _ _ _ hr
            rw [List.nil_append] at hd1
            subst hd1
            show telL r = l.take n
            rw [← hd2, take_one hc, u8 h34 (by decide)]
            rfl
          · split at h
            · rw [numT_ofL] at h
              split at h
              · cases h; rfl
              · split at h
                · cases h; omega
                · rename_i hi
                  cases h
                  exact int_told hi
            · rw [signT_ofL] at h
              split at h
              · cases h; rfl
              · split at h
                · cases h; rfl
                · cases h; omega
theorem firstT_le' {l : List UInt8} {t : Tk} {n : Nat} (h : firstT (ofL l) = (t, n)) (hf : (firstT (ofL l)).2 ≤ (ofL l).size) : n ≤ l.length := by
  rw [h, ofL_size] at hf
  exact hf
end Go.Proofs.YtpedmkdpbdhenaaGreatDoor
