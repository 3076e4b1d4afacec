/- Sums over numbers: what a halving, four halvings and a table of sixteen do; bytes that differ in one to four places that stand together have other sums. Plain mathematics. -/

namespace Go.Proofs.Ytnailnlpjakcbaa.Cx

def half (x : Nat) : Nat := if x % 2 = 1 then x / 2 ^^^ 2197175160 else x / 2
def halves : Nat → Nat → Nat
  | 0, x => x
  | n + 1, x => halves n (half x)

theorem half_lt (x : Nat) (h : x < 4294967296) : half x < 4294967296 := by
  unfold half
  split
  · exact Nat.xor_lt_two_pow (n := 32) (by omega) (by decide)
  · omega
theorem halves_lt (n x : Nat) (h : x < 4294967296) : halves n x < 4294967296 := by
  induction n generalizing x with
  | zero => exact h
  | succ n ih => exact ih _ (half_lt x h)
theorem half_xor (a b : Nat) : half (a ^^^ b) = half a ^^^ half b := by
  unfold half
  have h1 : (a ^^^ b) / 2 = a / 2 ^^^ b / 2 := by
    simpa using Nat.xor_div_two_pow (a := a) (b := b) (n := 1)
  have h2 := Nat.xor_mod_two_eq_one (a := a) (b := b)
  rw [h1]
  by_cases ha : a % 2 = 1 <;> by_cases hb : b % 2 = 1 <;> simp only [ha, hb, iff_true, iff_false, not_true, not_false_iff] at h2
  · rw [if_neg h2, if_pos ha, if_pos hb, Nat.xor_assoc, ← Nat.xor_assoc 2197175160, Nat.xor_comm 2197175160, Nat.xor_assoc, Nat.xor_self, Nat.xor_zero]
  · rw [if_pos h2, if_pos ha, if_neg hb, Nat.xor_assoc, Nat.xor_assoc, Nat.xor_comm (b / 2)]
  · rw [if_pos h2, if_neg ha, if_pos hb, Nat.xor_assoc]
  · rw [if_neg h2, if_neg ha, if_neg hb]
theorem halves_xor (n a b : Nat) : halves n (a ^^^ b) = halves n a ^^^ halves n b := by
  induction n generalizing a b with
  | zero => rfl
  | succ n ih => rw [halves, half_xor, ih]; rfl
theorem half_two (y : Nat) : half (2 * y) = y := by
  unfold half
  rw [if_neg (by omega)]
  omega
theorem halves_shift (n y : Nat) : halves n (2 ^ n * y) = y := by
  induction n generalizing y with
  | zero => simp [halves]
  | succ n ih =>
    rw [halves, Nat.pow_succ, Nat.mul_comm (2 ^ n) 2, Nat.mul_assoc, half_two, ih]
theorem halves_add (m n x : Nat) : halves (m + n) x = halves n (halves m x) := by
  induction m generalizing x with
  | zero => simp [halves]
  | succ m ih => rw [Nat.succ_add, halves, ih]; rfl
theorem split_xor (k x : Nat) : (2 ^ k * (x / 2 ^ k)) ^^^ (x % 2 ^ k) = x := by
  apply Nat.eq_of_testBit_eq
  intro i
  rw [Nat.testBit_xor, Nat.testBit_two_pow_mul, Nat.testBit_mod_two_pow, Nat.testBit_div_two_pow]
  by_cases h : i < k
  · simp [h, Nat.not_le.mpr h]
  · have h' : k ≤ i := Nat.le_of_not_lt h
    simp [h, h', Nat.sub_add_cancel h']
theorem halves_split (k x : Nat) : halves k x = x / 2 ^ k ^^^ halves k (x % 2 ^ k) := by
  have h := halves_xor k (2 ^ k * (x / 2 ^ k)) (x % 2 ^ k)
  rw [split_xor, halves_shift] at h
  exact h
theorem nibble (x : Nat) : x / 16 ^^^ halves 4 (x % 16) = halves 4 x := (halves_split 4 x).symm

/-- One byte of a sum. -/
def step (x c : Nat) : Nat := halves 8 (x ^^^ c)
theorem step_two (x c : Nat) : halves 4 (halves 4 (x ^^^ c)) = step x c := (halves_add 4 4 _).symm
theorem step_lt (x c : Nat) (hx : x < 4294967296) (hc : c < 256) : step x c < 4294967296 :=
  halves_lt 8 _ (Nat.xor_lt_two_pow (n := 32) hx (by omega))

/-- A sum, all but its last turn. -/
def run (x : Nat) (l : List UInt8) : Nat := l.foldl (fun x c => step x c.toNat) x
theorem run_nil (x : Nat) : run x [] = x := rfl
theorem run_cons (x : Nat) (c : UInt8) (l : List UInt8) : run x (c :: l) = run (step x c.toNat) l := rfl
theorem run_append (x : Nat) (l m : List UInt8) : run x (l ++ m) = run (run x l) m := by simp [run]
theorem run_lt (x : Nat) (l : List UInt8) (hx : x < 4294967296) : run x l < 4294967296 := by
  induction l generalizing x with
  | nil => exact hx
  | cons c l ih => exact ih _ (step_lt x _ hx c.toNat_lt)
def sum (l : List UInt8) : Nat := 4294967295 - run 4294967295 l

theorem half_inj (a b : Nat) (ha : a < 4294967296) (hb : b < 4294967296) (h : half a = half b) : a = b := by
  have h0 : half (a ^^^ b) = 0 := by rw [half_xor, h, Nat.xor_self]
  have hl : a ^^^ b < 4294967296 := Nat.xor_lt_two_pow (n := 32) ha hb
  generalize he : a ^^^ b = d at *
  have hd : d = 0 := by
    unfold half at h0
    split at h0
    · have e : d / 2 = 2197175160 := by
        have := congrArg (· ^^^ 2197175160) h0
        simpa [Nat.xor_assoc] using this
      omega
    · omega
  rw [hd] at he
  have := congrArg (· ^^^ b) he
  simpa [Nat.xor_assoc] using this
theorem halves_inj (n a b : Nat) (ha : a < 4294967296) (hb : b < 4294967296) (h : halves n a = halves n b) : a = b := by
  induction n generalizing a b with
  | zero => exact h
  | succ n ih => exact half_inj a b ha hb (ih _ _ (half_lt a ha) (half_lt b hb) h)
theorem xor_left_inj (a b c : Nat) (h : a ^^^ c = b ^^^ c) : a = b := by
  have := congrArg (· ^^^ c) h
  simpa [Nat.xor_assoc] using this
theorem xor_right_inj (a b c : Nat) (h : c ^^^ a = c ^^^ b) : a = b := by
  rw [Nat.xor_comm c, Nat.xor_comm c] at h
  exact xor_left_inj a b c h
theorem step_inj (a b c : Nat) (ha : a < 4294967296) (hb : b < 4294967296) (hc : c < 256) (h : step a c = step b c) : a = b :=
  xor_left_inj a b c (halves_inj 8 _ _ (Nat.xor_lt_two_pow (n := 32) ha (by omega)) (Nat.xor_lt_two_pow (n := 32) hb (by omega)) h)
theorem run_inj (a b : Nat) (l : List UInt8) (ha : a < 4294967296) (hb : b < 4294967296) (h : run a l = run b l) : a = b := by
  induction l generalizing a b with
  | nil => exact h
  | cons c l ih => exact step_inj a b _ ha hb c.toNat_lt (ih _ _ (step_lt a _ ha c.toNat_lt) (step_lt b _ hb c.toNat_lt) h)

/-- Bytes as one number, the first the lowest. -/
def word : List UInt8 → Nat
  | [] => 0
  | c :: l => c.toNat ^^^ (2 ^ 8 * word l)
theorem word_run (x : Nat) (l : List UInt8) : run x l = halves (8 * l.length) (x ^^^ word l) := by
  induction l generalizing x with
  | nil => simp [run, word, halves]
  | cons c l ih =>
    rw [run_cons, ih]
    have e : step x c.toNat ^^^ word l = halves 8 (x ^^^ word (c :: l)) := by
      rw [word, ← Nat.xor_assoc, halves_xor, halves_shift]
      rfl
    rw [e, List.length_cons, Nat.mul_succ, Nat.add_comm, halves_add]
theorem word_lt (l : List UInt8) : word l < 2 ^ (8 * l.length) := by
  induction l with
  | nil => simp [word]
  | cons c l ih =>
    rw [word, List.length_cons]
    have hc := c.toNat_lt
    have hp : 0 < 2 ^ (8 * l.length) := Nat.two_pow_pos _
    have e : 2 ^ (8 * (l.length + 1)) = 2 ^ 8 * 2 ^ (8 * l.length) := by rw [← Nat.pow_add]; congr 1; omega
    refine Nat.xor_lt_two_pow ?_ ?_
    · rw [e]
      calc c.toNat < 2 ^ 8 := hc
        _ = 2 ^ 8 * 1 := by omega
        _ ≤ 2 ^ 8 * 2 ^ (8 * l.length) := Nat.mul_le_mul_left _ hp
    · rw [e]
      exact Nat.mul_lt_mul_of_pos_left ih (by decide)
theorem word_cons (c : UInt8) (l : List UInt8) : word (c :: l) % 256 = c.toNat ∧ word (c :: l) / 256 = word l := by
  have hc := c.toNat_lt
  constructor
  · apply Nat.eq_of_testBit_eq
    intro i
    rw [word, show (256 : Nat) = 2 ^ 8 from rfl, Nat.testBit_mod_two_pow, Nat.testBit_xor, Nat.testBit_two_pow_mul]
    by_cases h : i < 8
    · simp [h, Nat.not_le.mpr h]
    · have : c.toNat.testBit i = false := Nat.testBit_lt_two_pow (Nat.lt_of_lt_of_le hc (Nat.pow_le_pow_right (n := 2) (by decide) (Nat.le_of_not_lt h)))
      simp [h, this]
  · apply Nat.eq_of_testBit_eq
    intro i
    rw [word, show (256 : Nat) = 2 ^ 8 from rfl, Nat.testBit_div_two_pow, Nat.testBit_xor, Nat.testBit_two_pow_mul]
    have : c.toNat.testBit (i + 8) = false := Nat.testBit_lt_two_pow (Nat.lt_of_lt_of_le hc (Nat.pow_le_pow_right (n := 2) (by decide) (by omega)))
    simp [this]
theorem word_inj (l m : List UInt8) (hl : l.length = m.length) (h : word l = word m) : l = m := by
  induction l generalizing m with
  | nil => exact (List.eq_nil_of_length_eq_zero hl.symm).symm
  | cons c l ih =>
    cases m with
    | nil => simp at hl
    | cons d m =>
      have h1 := word_cons c l
      have h2 := word_cons d m
      rw [h] at h1
      have e1 : c = d := UInt8.toNat_inj.mp (h1.1.symm.trans h2.1)
      have e2 := ih m (by simpa using hl) (h1.2.symm.trans h2.2)
      rw [e1, e2]
/-- Bytes of one length, at most four, that are others have other sums; so have they with the same bytes ahead and behind. -/
theorem run_ne (x : Nat) (l m t : List UInt8) (hx : x < 4294967296) (hl : l.length = m.length) (h4 : l.length ≤ 4) (h : run x (l ++ t) = run x (m ++ t)) : l = m := by
  rw [run_append, run_append] at h
  have h1 := run_inj _ _ t (run_lt x l hx) (run_lt x m hx) h
  rw [word_run, word_run, ← hl] at h1
  have hw : ∀ q : List UInt8, q.length ≤ 4 → word q < 4294967296 := fun q hq =>
    Nat.lt_of_lt_of_le (word_lt q) (by
      calc 2 ^ (8 * q.length) ≤ 2 ^ 32 := Nat.pow_le_pow_right (by decide) (by omega)
        _ = 4294967296 := by decide)
  have h2 := halves_inj _ _ _ (Nat.xor_lt_two_pow (n := 32) hx (hw l h4)) (Nat.xor_lt_two_pow (n := 32) hx (hw m (by omega))) h1
  exact word_inj l m hl (xor_right_inj _ _ _ h2)
theorem sum_ne (a l m t : List UInt8) (hl : l.length = m.length) (h4 : l.length ≤ 4) (h : sum (a ++ l ++ t) = sum (a ++ m ++ t)) : l = m := by
  unfold sum at h
  have h0 : 4294967295 < 4294967296 := by omega
  have h1 := run_lt 4294967295 (a ++ l ++ t) h0
  have h2 := run_lt 4294967295 (a ++ m ++ t) h0
  have h3 : run 4294967295 (a ++ l ++ t) = run 4294967295 (a ++ m ++ t) := by omega
  rw [List.append_assoc, List.append_assoc, run_append _ a, run_append _ a] at h3
  exact run_ne _ l m t (run_lt _ a h0) hl h4 h3
theorem turn_all (x : Nat) (hx : x < 4294967296) : x ^^^ 4294967295 = 4294967295 - x := by
  have h := Nat.xor_lt_two_pow (n := 32) (x := x) (y := 4294967295) hx (by decide)
  have e := BitVec.toNat_not (x := BitVec.ofNat 32 x)
  have e2 : (~~~ BitVec.ofNat 32 x) = BitVec.ofNat 32 x ^^^ BitVec.ofNat 32 4294967295 := by
    rw [← BitVec.xor_allOnes]; rfl
  rw [e2, BitVec.toNat_xor] at e
  simp only [BitVec.toNat_ofNat, Nat.mod_eq_of_lt (show x < 2 ^ 32 from hx)] at e
  simpa using e
end Go.Proofs.Ytnailnlpjakcbaa.Cx
