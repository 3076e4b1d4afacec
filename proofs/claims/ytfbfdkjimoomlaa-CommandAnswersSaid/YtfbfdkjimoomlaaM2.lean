
/- Numbers' bytes: seven bits a byte, the lowest first; they lead back, and only one form of each is a number's. Plain mathematics. -/
namespace Go.Proofs.Ytfbfdkjimoomlaa.Cx

theorem p128 (k : Nat) : 128 ^ k = 2 ^ (7 * k) := by rw [Nat.pow_mul]
def top (x : Nat) : Nat := Nat.log2 x / 7
theorem top_lt (x : Nat) : x < 128 ^ (top x + 1) := by
  rw [p128]
  exact Nat.lt_of_lt_of_le Nat.lt_log2_self (Nat.pow_le_pow_right (by decide) (by unfold top; omega))
theorem top_le (x : Nat) (h : top x ≠ 0) : 128 ^ top x ≤ x := by
  rw [p128]
  have hx : x ≠ 0 := by
    intro h0
    apply h
    rw [h0, top]
    simp
  exact Nat.le_trans (Nat.pow_le_pow_right (by decide) (by unfold top; omega)) (Nat.log2_self_le hx)
theorem top_eq (x n : Nat) (h1 : x < 128 ^ (n + 1)) (h2 : n ≠ 0 → 128 ^ n ≤ x) : top x = n := by
  have a := top_lt x
  rcases Nat.lt_trichotomy (top x) n with h | h | h
  · have c := h2 (by omega)
    have d : 128 ^ (top x + 1) ≤ 128 ^ n := Nat.pow_le_pow_right (by decide) (by omega)
    omega
  · exact h
  · have c := top_le x (by omega)
    have d : 128 ^ (n + 1) ≤ 128 ^ top x := Nat.pow_le_pow_right (by decide) (by omega)
    omega

def uvn : Nat → Nat → List UInt8
  | 0, x => [UInt8.ofNat x]
  | n + 1, x => UInt8.ofNat (128 + x % 128) :: uvn n (x / 128)
def uv (x : Nat) : List UInt8 := uvn (top x) x
def pre (k x : Nat) : List UInt8 := (List.range k).map fun i => UInt8.ofNat (128 + x / 128 ^ i % 128)
theorem pre_len (k x : Nat) : (pre k x).length = k := by simp [pre]
theorem pre_succ (k x : Nat) : pre (k + 1) x = pre k x ++ [UInt8.ofNat (128 + x / 128 ^ k % 128)] := by simp [pre, List.range_succ]
theorem pre_cons (k x : Nat) : pre (k + 1) x = UInt8.ofNat (128 + x % 128) :: pre k (x / 128) := by
  unfold pre
  rw [List.range_succ_eq_map, List.map_cons, List.map_map]
  congr 1
  · simp
  · apply List.map_congr_left
    intro i _
    simp only [Function.comp]
    rw [Nat.pow_succ, Nat.mul_comm, Nat.div_div_eq_div_mul]
theorem uvn_pre (n x : Nat) : uvn n x = pre n x ++ [UInt8.ofNat (x / 128 ^ n)] := by
  induction n generalizing x with
  | zero => simp [uvn, pre]
  | succ n ih =>
    rw [uvn, ih, pre_cons, Nat.pow_succ, Nat.div_div_eq_div_mul, Nat.mul_comm 128]
    rfl
theorem uvn_len (n x : Nat) : (uvn n x).length = n + 1 := by rw [uvn_pre]; simp [pre_len]
theorem uv_len (x : Nat) : (uv x).length = top x + 1 := uvn_len _ _
theorem top_le9 (x : Nat) (h : x < 18446744073709551616) : top x ≤ 9 := by
  rcases Nat.lt_or_ge 9 (top x) with h1 | h1
  · have c := top_le x (by omega)
    have d : 128 ^ 10 ≤ 128 ^ top x := Nat.pow_le_pow_right (by decide) (by omega)
    have e : (128 : Nat) ^ 10 = 1180591620717411303424 := by decide
    omega
  · exact h1

def val : List UInt8 → Nat
  | [] => 0
  | c :: l => c.toNat % 128 + 128 * val l
theorem val_append (l m : List UInt8) : val (l ++ m) = val l + 128 ^ l.length * val m := by
  induction l with
  | nil => simp [val]
  | cons c l ih =>
    rw [List.cons_append, val, val, ih, List.length_cons, Nat.pow_succ, Nat.mul_add, Nat.mul_comm (128 ^ l.length) 128, Nat.mul_assoc, Nat.add_assoc]
theorem val_lt (l : List UInt8) : val l < 128 ^ l.length := by
  induction l with
  | nil => simp [val]
  | cons c l ih =>
    rw [val, List.length_cons, Nat.pow_succ]
    omega
theorem val_uvn (n x : Nat) (h : x < 128 ^ (n + 1)) : val (uvn n x) = x := by
  induction n generalizing x with
  | zero =>
    have h' : x < 128 := by simpa using h
    simp only [uvn, val, UInt8.toNat_ofNat']
    omega
  | succ n ih =>
    rw [uvn, val, ih (x / 128) (by rw [Nat.pow_succ] at h; omega), UInt8.toNat_ofNat']
    omega
theorem val_uv (x : Nat) : val (uv x) = x := val_uvn _ _ (top_lt x)

def lead : List UInt8 → Nat
  | [] => 0
  | c :: l => if 128 ≤ c.toNat then lead l + 1 else 0
theorem lead_le (l : List UInt8) : lead l ≤ l.length := by
  induction l with
  | nil => simp [lead]
  | cons c l ih =>
    unfold lead
    split
    · simp; exact ih
    · simp
theorem lead_high (l : List UInt8) (j : Nat) (h : j < lead l) (hj : j < l.length) : 128 ≤ l[j].toNat := by
  induction l generalizing j with
  | nil => simp at hj
  | cons c l ih =>
    unfold lead at h
    split at h
    · cases j with
      | zero => simpa
      | succ j => simpa using ih j (by omega) (by simpa using hj)
    · omega
theorem lead_low (l : List UInt8) (h : lead l < l.length) : l[lead l].toNat < 128 := by
  induction l with
  | nil => simp at h
  | cons c l ih =>
    by_cases hc : 128 ≤ c.toNat
    · have e : lead (c :: l) = lead l + 1 := by rw [lead, if_pos hc]
      simp only [e, List.length_cons] at h ⊢
      simpa using ih (by omega)
    · have e : lead (c :: l) = 0 := by rw [lead, if_neg hc]
      simp only [e]
      simp
      omega
theorem lead_eq (l : List UInt8) (i : Nat) (hi : i ≤ l.length) (h1 : ∀ j (h : j < i), 128 ≤ (l[j]'(by omega)).toNat) (h2 : ∀ h : i < l.length, l[i].toNat < 128) : lead l = i := by
  rcases Nat.lt_trichotomy (lead l) i with h | h | h
  · have a := h1 _ h
    have b := lead_low l (by omega)
    omega
  · exact h
  · have a := lead_le l
    have b := lead_high l i h (by omega)
    have c := h2 (by omega)
    omega

def okLast (c n : Nat) : Bool := if n = 9 then c == 1 else (c != 0 || n == 0)
/-- The number at the beginning, and how many bytes it has. -/
def getUv (l : List UInt8) : Nat × Nat :=
  if lead l < l.length ∧ lead l < 10 ∧ okLast (l.getD (lead l) 0).toNat (lead l) = true then (val (l.take (lead l + 1)), lead l + 1) else (0, 0)

theorem pre_high (k x j : Nat) (h : j < (pre k x).length) : 128 ≤ ((pre k x)[j]).toNat := by
  simp only [pre, List.getElem_map, UInt8.toNat_ofNat']
  omega
theorem uvn_high (n x j : Nat) (h : j < n) : 128 ≤ ((uvn n x)[j]'(by rw [uvn_len]; omega)).toNat := by
  have hp : j < (pre n x).length := by rw [pre_len]; exact h
  have := pre_high n x j hp
  simp only [uvn_pre]
  rw [List.getElem_append_left hp]
  exact this
theorem uvn_last (n x : Nat) (h : x < 128 ^ (n + 1)) : ((uvn n x)[n]'(by rw [uvn_len]; omega)).toNat = x / 128 ^ n := by
  have hd : x / 128 ^ n < 128 := by
    rw [Nat.div_lt_iff_lt_mul (Nat.pow_pos (by decide)), Nat.mul_comm, ← Nat.pow_succ]
    exact h
  simp only [uvn_pre]
  rw [List.getElem_append_right (by rw [pre_len]; omega)]
  simp only [pre_len, Nat.sub_self, List.getElem_cons_zero, UInt8.toNat_ofNat']
  generalize x / 128 ^ n = q at *
  omega
theorem lead_uvn (n x : Nat) (h : x < 128 ^ (n + 1)) (s : List UInt8) : lead (uvn n x ++ s) = n := by
  have hd : x / 128 ^ n < 128 := by
    rw [Nat.div_lt_iff_lt_mul (Nat.pow_pos (by decide)), Nat.mul_comm, ← Nat.pow_succ]
    exact h
  refine lead_eq _ _ ?_ ?_ ?_
  · rw [List.length_append, uvn_len]; omega
  · intro j hj
    rw [List.getElem_append_left (by rw [uvn_len]; omega)]
    exact uvn_high n x j hj
  · intro _
    rw [List.getElem_append_left (by rw [uvn_len]; omega), uvn_last n x h]
    exact hd
theorem get_uv (x : Nat) (hx : x < 18446744073709551616) (s : List UInt8) : getUv (uv x ++ s) = (x, (uv x).length) := by
  have h := top_lt x
  have hl : lead (uv x ++ s) = top x := lead_uvn _ _ h s
  have h9 := top_le9 x hx
  have hg : ((uv x ++ s).getD (top x) 0).toNat = x / 128 ^ top x := by
    rw [List.getD_eq_getElem?_getD, List.getElem?_append_left (by rw [uv_len]; omega), List.getElem?_eq_getElem (by rw [uv_len]; omega)]
    exact uvn_last _ _ h
  unfold getUv
  rw [hl, hg, if_pos, uv_len, List.take_left' (uv_len x), val_uv]
  refine ⟨by rw [List.length_append, uv_len]; omega, by omega, ?_⟩
  unfold okLast
  split
  · rename_i e
    have c := top_le x (by omega)
    rw [e] at c ⊢
    have p : (128 : Nat) ^ 9 = 9223372036854775808 := by decide
    rw [p] at c ⊢
    have : x / 9223372036854775808 = 1 := by omega
    rw [this]
    rfl
  · by_cases h0 : top x = 0
    · simp [h0]
    · have c := top_le x h0
      have : 0 < x / 128 ^ top x := Nat.div_pos c (Nat.pow_pos (by decide))
      have hne : ¬ x / 128 ^ top x = 0 := by omega
      simp [hne]

theorem list_ext_val (l m : List UInt8) (hl : l.length = m.length) (h : ∀ j (h1 : j < l.length) (h2 : j < m.length), l[j].toNat / 128 = m[j].toNat / 128) (hv : val l = val m) : l = m := by
  induction l generalizing m with
  | nil => exact (List.eq_nil_of_length_eq_zero hl.symm).symm
  | cons c l ih =>
    cases m with
    | nil => simp at hl
    | cons d m =>
      rw [val, val] at hv
      have h0 : c.toNat / 128 = d.toNat / 128 := h 0 (by simp) (by simp)
      have e1 : c = d := UInt8.toNat_inj.mp (by omega)
      have e2 : l = m := ih m (by simpa using hl) (fun j h1 h2 => by
        have := h (j + 1) (by simpa using h1) (by simpa using h2)
        simpa using this) (by omega)
      rw [e1, e2]
/-- Bytes that have the form of a number's are its bytes, if it has 64 bits and the last one is not 0. -/
theorem uv_of_val (m : List UInt8) (n : Nat) (hl : m.length = n + 1) (h1 : ∀ j (h : j < n), 128 ≤ (m[j]'(by omega)).toNat) (h2 : (m[n]'(by omega)).toNat < 128) (h3 : n = 0 ∨ (m[n]'(by omega)).toNat ≠ 0) : uv (val m) = m := by
  have hv := val_lt m
  rw [hl] at hv
  have hlast : val m / 128 ^ n = (m[n]'(by omega)).toNat := by
    have e : m = m.take n ++ [m[n]'(by omega)] := by
      rw [← List.take_succ_eq_append_getElem (by omega), List.take_of_length_le (by omega)]
    have ev : val m = val (m.take n) + 128 ^ n * (m[n]'(by omega)).toNat := by
      conv => lhs; rw [e]
      rw [val_append, List.length_take, Nat.min_eq_left (by omega)]
      simp only [val, Nat.mod_eq_of_lt h2]
      simp
    have hb := val_lt (m.take n)
    rw [List.length_take, Nat.min_eq_left (by omega)] at hb
    rw [ev, Nat.add_mul_div_left _ _ (Nat.pow_pos (by decide)), Nat.div_eq_of_lt hb, Nat.zero_add]
  have ht : top (val m) = n := by
    apply top_eq _ _ hv
    intro hn
    have hne : val m / 128 ^ n ≠ 0 := by
      rw [hlast]
      rcases h3 with h | h
      · exact absurd h hn
      · exact h
    rcases Nat.lt_or_ge (val m) (128 ^ n) with c | c
    · exact absurd (Nat.div_eq_of_lt c) hne
    · exact c
  unfold uv
  rw [ht]
  apply list_ext_val
  · rw [uvn_len, hl]
  · intro j a b
    rw [uvn_len] at a
    by_cases hj : j < n
    · have p := uvn_high n (val m) j hj
      have q := h1 j hj
      have p' := ((uvn n (val m))[j]'(by rw [uvn_len]; omega)).toNat_lt
      have q' := (m[j]'(by omega)).toNat_lt
      omega
    · obtain rfl : j = n := by omega
      rw [uvn_last _ _ hv, hlast]
  · exact val_uvn _ _ hv
/-- What is read as a number is its bytes, with what stands behind. -/
theorem getUv_back (l : List UInt8) (h : (getUv l).2 ≠ 0) : l = uv (getUv l).1 ++ l.drop (getUv l).2 ∧ (getUv l).2 = (uv (getUv l).1).length ∧ (getUv l).1 < 18446744073709551616 ∧ (getUv l).2 ≤ l.length := by
  unfold getUv at h ⊢
  split at h
  · rename_i hc
    rw [if_pos hc]
    obtain ⟨a, b, c⟩ := hc
    have hlow := lead_low l a
    have hg : l.getD (lead l) 0 = l[lead l] := by rw [List.getD_eq_getElem?_getD, List.getElem?_eq_getElem a]; rfl
    rw [hg] at c
    have hm : (l.take (lead l + 1)).length = lead l + 1 := by rw [List.length_take]; omega
    have hlast : ((l.take (lead l + 1))[lead l]'(by omega)) = l[lead l] := by rw [List.getElem_take]
    have huv : uv (val (l.take (lead l + 1))) = l.take (lead l + 1) := by
      apply uv_of_val _ (lead l) hm
      · intro j hj
        rw [List.getElem_take]
        exact lead_high l j hj _
      · rw [hlast]; exact hlow
      · rw [hlast]
        unfold okLast at c
        split at c
        · right
          have : l[lead l].toNat = 1 := by simpa using c
          omega
        · rcases Nat.eq_zero_or_pos (lead l) with z | z
          · exact .inl z
          · right
            intro h0
            rw [h0] at c
            simp at c
            omega
    refine ⟨?_, ?_, ?_, by simp; omega⟩
    · simp only
      rw [huv, List.take_append_drop]
    · simp only
      rw [huv, hm]
    · simp only
      by_cases h9 : lead l = 9
      · have e1 : l[lead l].toNat = 1 := by
          unfold okLast at c
          rw [if_pos h9] at c
          simpa using c
        have e : l.take (lead l + 1) = l.take (lead l) ++ [l[lead l]] := List.take_succ_eq_append_getElem a
        have hb := val_lt (l.take (lead l))
        rw [e, val_append]
        simp only [List.length_take, Nat.min_eq_left (Nat.le_of_lt a), val, e1] at hb ⊢
        rw [h9] at hb ⊢
        have p : (128 : Nat) ^ 9 = 9223372036854775808 := by decide
        rw [p] at hb ⊢
        omega
      · have hb := val_lt (l.take (lead l + 1))
        rw [hm] at hb
        have d : 128 ^ (lead l + 1) ≤ 128 ^ 9 := Nat.pow_le_pow_right (by decide) (by omega)
        have p : (128 : Nat) ^ 9 = 9223372036854775808 := by decide
        omega
  · exact absurd rfl h
/-- The reference's test: the bytes of the number (of 64 bits) are the bytes that were read. -/
theorem test_iff (l : List UInt8) (a : lead l < l.length) (b : lead l < 10) : (uv (val (l.take (lead l + 1)) % 18446744073709551616) = l.take (lead l + 1)) ↔ okLast (l.getD (lead l) 0).toNat (lead l) = true := by
  constructor
  · intro h
    have hv : val (l.take (lead l + 1)) % 18446744073709551616 = val (l.take (lead l + 1)) := by
      have := congrArg val h
      rw [val_uv] at this
      exact this
    have hlt : val (l.take (lead l + 1)) < 18446744073709551616 := by omega
    rw [hv] at h
    have hg : l.getD (lead l) 0 = l[lead l] := by rw [List.getD_eq_getElem?_getD, List.getElem?_eq_getElem a]; rfl
    have hlow := lead_low l a
    have e : l.take (lead l + 1) = l.take (lead l) ++ [l[lead l]] := List.take_succ_eq_append_getElem a
    have ht : top (val (l.take (lead l + 1))) = lead l := by
      have := congrArg List.length h
      rw [uv_len, List.length_take] at this
      omega
    have hb := val_lt (l.take (lead l))
    have ev : val (l.take (lead l + 1)) = val (l.take (lead l)) + 128 ^ lead l * l[lead l].toNat := by
      rw [e, val_append, List.length_take, Nat.min_eq_left (Nat.le_of_lt a)]
      simp only [val, Nat.mod_eq_of_lt hlow]
      simp
    rw [List.length_take, Nat.min_eq_left (Nat.le_of_lt a)] at hb
    rw [hg]
    unfold okLast
    have hnz : lead l ≠ 0 → l[lead l].toNat ≠ 0 := by
      intro h0 hz
      have c := top_le (val (l.take (lead l + 1))) (by omega)
      rw [ht, ev, hz] at c
      omega
    split
    · rename_i h9
      have := hnz (by omega)
      have p : (128 : Nat) ^ lead l = 9223372036854775808 := by rw [h9]
      rw [p] at ev
      have : l[lead l].toNat = 1 := by omega
      rw [this]; rfl
    · by_cases h0 : lead l = 0
      · simp [h0]
      · simp [hnz h0]
  · intro h
    have hc : (getUv l).2 ≠ 0 := by unfold getUv; rw [if_pos ⟨a, b, h⟩]; simp
    have k := getUv_back l hc
    have e1 : (getUv l).1 = val (l.take (lead l + 1)) := by unfold getUv; rw [if_pos ⟨a, b, h⟩]
    have e2 : (getUv l).2 = lead l + 1 := by unfold getUv; rw [if_pos ⟨a, b, h⟩]
    rw [e1, e2] at k
    obtain ⟨k1, k2, k3, _⟩ := k
    rw [Nat.mod_eq_of_lt k3]
    have := congrArg (List.take (lead l + 1)) k1
    rw [List.take_append_of_le_length (by omega), List.take_of_length_le (l := uv _) (by omega)] at this
    exact this.symm
end Go.Proofs.Ytfbfdkjimoomlaa.Cx
