/- Texts in a row: Md Nc Nd. -/
import Derived.Test.YthcpmdgdbceeiaaGreatDoorZ16
import Derived.Test.YthcpmdgdbceeiaaGreatDoorZ18
import Derived.Test.YthcpmdgdbceeiaaGreatDoorZ17
/- Mathematics: the document's token at the beginning of a text is the program's, where it is the whole text. -/
namespace Go.Proofs.YthcpmdgdbceeiaaGreatDoor
open Go.RowKit
set_option linter.unusedSimpArgs false
set_option linter.unusedVariables false
/-- How many bytes a version's text has, as the document says. -/
def verC (l : List UInt8) (n : Nat) : Nat := if Sv.okS (ofL (l.take n)) then n else 0
def verB (l : List UInt8) (a b : Nat) : Nat := if b = 0 ∨ l[a + 1 + b]? ≠ some 46 then 0 else verC l (a + b + 2 + cnt dgB (l.drop (a + b + 2)))
def verA (l : List UInt8) (a : Nat) : Nat := if l[a]? ≠ some 46 then 0 else verB l a (cnt dgB (l.drop (a + 1)))
def verD (l : List UInt8) : Nat := verA l (cnt dgB l)
/-- A text, as the document reads it. -/
def tdF (L : List UInt8) : Nat → Nat → List UInt8 → Option (List UInt8 × Nat)
  | 0, _, _ => none
  | f + 1, i, said =>
    match L[i]? with
    | none => none
    | some c =>
      if c.toNat = 34 then (if 1000 < said.length then none else some (said, i + 1))
      else if c.toNat < 32 ∨ 126 < c.toNat then none
      else if c.toNat = 92 then (match L[i + 1]? with
        | none => none
        | some d => if (escV d.toNat).2 then tdF L f (i + 2) (said ++ [UInt8.ofNat (escV d.toNat).1]) else none)
      else tdF L f (i + 1) (said ++ [c])
theorem tdF_big (L : List UInt8) : ∀ (f i : Nat) (said : List UInt8), 1000 < said.length → tdF L f i said = none := by
  intro f
  induction f with
  | zero => intro i said h; rfl
  | succ f ih =>
    intro i said h
    unfold tdF
    cases hc : L[i]? with
    | none => rfl
    | some c =>
      simp only [if_pos h]
      by_cases h34 : c.toNat = 34
      · rw [if_pos h34]
      · rw [if_neg h34]
        split
        · rfl
        · split
          · cases hd : L[i + 1]? with
            | none => rfl
            | some d =>
              simp only []
              split
              · exact ih _ _ (by rw [List.length_append]; omega)
              · rfl
          · exact ih _ _ (by rw [List.length_append]; omega)
theorem tdF_tx (L : List UInt8) : ∀ (f i : Nat) (said : List UInt8), tdF L f i said = txF L f i said := by
  intro f
  induction f with
  | zero => intro i said; rfl
  | succ f ih =>
    intro i said
    by_cases h : 1000 < said.length
    · rw [tdF_big L _ _ _ h]
      unfold txF
      rw [if_pos h]
    · unfold tdF txF
      simp only [if_neg h]
      cases hc : L[i]? with
      | none => rfl
      | some c =>
        simp only []
        rw [ih]
        cases hd : L[i + 1]? with
        | none => rfl
        | some d =>
          simp only []
          rw [ih]
def tdM (L : List UInt8) (i : Nat) (said : List UInt8) : Option (List UInt8 × Nat) := tdF L (L.length + 1) i said
theorem tdM_tx (L : List UInt8) (i : Nat) (said : List UInt8) : tdM L i said = txM L i said := tdF_tx L _ _ _
theorem tdM_step (L : List UInt8) (i : Nat) (said : List UInt8) : tdM L i said =
    match L[i]? with
    | none => none
    | some c =>
      if c.toNat = 34 then (if 1000 < said.length then none else some (said, i + 1))
      else if c.toNat < 32 ∨ 126 < c.toNat then none
      else if c.toNat = 92 then (match L[i + 1]? with
        | none => none
        | some d => if (escV d.toNat).2 then tdM L (i + 2) (said ++ [UInt8.ofNat (escV d.toNat).1]) else none)
      else tdM L (i + 1) (said ++ [c]) := by
  by_cases h : 1000 < said.length
  · have h1 : tdM L i said = none := tdF_big L _ _ _ h
    rw [h1]
    cases hc : L[i]? with
    | none => rfl
    | some c =>
      simp only [if_pos h]
      by_cases h34 : c.toNat = 34
      · rw [if_pos h34]
      · rw [if_neg h34]
        split
        · rfl
        · split
          · cases hd : L[i + 1]? with
            | none => rfl
            | some d =>
              simp only []
              split
              · exact (tdF_big L _ _ _ (by rw [List.length_append]; omega)).symm
              · rfl
          · exact (tdF_big L _ _ _ (by rw [List.length_append]; omega)).symm
  · rw [tdM_tx, txM_step]
    simp only [if_neg h]
    cases hc : L[i]? with
    | none => rfl
    | some c =>
      simp only []
      rw [tdM_tx]
      cases hd : L[i + 1]? with
      | none => rfl
      | some d =>
        simp only []
        rw [tdM_tx]
def isS9 (c : Nat) : Bool := decide (c = 61) || decide (c = 124) || decide (c = 40) || decide (c = 41) || decide (c = 44) || decide (c = 59) || decide (c = 58) || decide (c = 46) || decide (c = 64)
/-- The document's names. -/
def nameD (l : List UInt8) (g : Bool) : Tk × Nat :=
  if 30 < cnt nmB l then (tk0, 0)
  else if g = true then (⟨2, ofL (l.take (cnt nmB l)), 0⟩, cnt nmB l)
  else if l.take (cnt nmB l) = [95] then (⟨8, ofL (l.take (cnt nmB l)), 0⟩, cnt nmB l)
  else if keyB (ofL (l.take (cnt nmB l))) = true then (⟨7, ofL (l.take (cnt nmB l)), 0⟩, cnt nmB l)
  else (⟨1, ofL (l.take (cnt nmB l)), 0⟩, cnt nmB l)
/-- The document's ints, behind so many bytes of a sign. -/
def intDD (l : List UInt8) (k : Nat) : Tk × Nat :=
  if cnt dgB (l.drop k) = 0 ∨ 18 < cnt dgB (l.drop k) ∨ (1 < cnt dgB (l.drop k) ∧ zhB (l.drop k) = true) ∨ (k = 1 ∧ zhB (l.drop k) = true) then (tk0, 0)
  else (⟨4, ⟨#[]⟩, if k = 1 then -(Sv.val ((l.drop k).take (cnt dgB (l.drop k))) : Nat) else (Sv.val ((l.drop k).take (cnt dgB (l.drop k))) : Nat)⟩, k + cnt dgB (l.drop k))
/-- The document's token at the beginning. -/
def oneT (l : List UInt8) : Tk × Nat := match l[0]? with
  | none => (tk0, 0)
  | some c =>
    if (smB c || grB c || decide (c.toNat = 95)) = true then nameD l (grB c)
    else if c.toNat = 39 then (if cnt vrB (l.drop 1) = 0 ∨ 29 < cnt vrB (l.drop 1) ∨ headS l[1]? = false then (tk0, 0) else (⟨3, ofL ((l.drop 1).take (cnt vrB (l.drop 1))), 0⟩, 1 + cnt vrB (l.drop 1)))
    else if c.toNat = 34 then txR (tdM l 1 [])
    else if l.take 2 = [45, 62] then (⟨8, ofL [45, 62], 0⟩, 2)
    else if dgB c = true ∧ 0 < verD l then (⟨6, ofL (l.take (verD l)), 0⟩, verD l)
    else if (dgB c || decide (c.toNat = 45)) = true then intDD l (if c.toNat = 45 then 1 else 0)
    else if isS9 c.toNat = true then (⟨8, ofL (l.take 1), 0⟩, 1)
    else (tk0, 0)
theorem oneT_at {l : List UInt8} {c : UInt8} (h : l[0]? = some c) : oneT l =
    if (smB c || grB c || decide (c.toNat = 95)) = true then nameD l (grB c)
    else if c.toNat = 39 then (if cnt vrB (l.drop 1) = 0 ∨ 29 < cnt vrB (l.drop 1) ∨ headS l[1]? = false then (tk0, 0) else (⟨3, ofL ((l.drop 1).take (cnt vrB (l.drop 1))), 0⟩, 1 + cnt vrB (l.drop 1)))
    else if c.toNat = 34 then txR (tdM l 1 [])
    else if l.take 2 = [45, 62] then (⟨8, ofL [45, 62], 0⟩, 2)
    else if dgB c = true ∧ 0 < verD l then (⟨6, ofL (l.take (verD l)), 0⟩, verD l)
    else if (dgB c || decide (c.toNat = 45)) = true then intDD l (if c.toNat = 45 then 1 else 0)
    else if isS9 c.toNat = true then (⟨8, ofL (l.take 1), 0⟩, 1)
    else (tk0, 0) := by
  unfold oneT
  rw [h]
theorem cnt_cons_pos {p : UInt8 → Bool} {l : List UInt8} {c : UInt8} (h : l[0]? = some c) (hp : p c = true) : 1 ≤ cnt p l := by
  cases l with
  | nil => cases h
  | cons d r =>
    have : d = c := by simpa using h
    subst this
    unfold cnt
    rw [List.takeWhile_cons, if_pos hp, List.length_cons]
    omega
theorem take_head {l : List UInt8} {c : UInt8} {n : Nat} (h : l[0]? = some c) (hn : 1 ≤ n) : (l.take n).head? = some c := by
  rw [head_take (by omega), List.head?_eq_getElem?, h]
theorem key_head {l : List UInt8} {c : UInt8} (h : l.head? = some c) (hc : smB c = false) : keyB (ofL l) = false := by
  cases hk : keyB (ofL l) with
  | false => rfl
  | true =>
    unfold keyB at hk
    simp only [Bool.or_eq_true, decide_eq_true_eq] at hk
    have key : ∀ (x : UInt8) (r : List UInt8), smB x = true → ofL l = ⟨(x :: r).toArray⟩ → False := by
      intro x r hx he
      have h1 : l = x :: r := congrArg (fun s : ByteArray => s.data.toList) he
      rw [h1] at h
      have : x = c := by simpa using h
      rw [this, hc] at hx
      cases hx
    rcases hk with ((((((((((hk | hk) | hk) | hk) | hk) | hk) | hk) | hk) | hk) | hk) | hk)
    all_goals exact (key _ _ (by decide) hk).elim
theorem sm_far {c : UInt8} (h : smB c = true) : grB c = false ∧ c.toNat ≠ 95 ∧ nmB c = true := by
  have h1 : nmB c = true := by unfold nmB; rw [h]; rfl
  unfold smB at h
  simp at h
  refine ⟨?_, by omega, h1⟩
  unfold grB
  simp
  omega
theorem gr_far {c : UInt8} (h : grB c = true) : smB c = false ∧ c.toNat ≠ 95 ∧ nmB c = true := by
  have h1 : nmB c = true := by unfold nmB; rw [h]; simp
  unfold grB at h
  simp at h
  refine ⟨?_, by omega, h1⟩
  unfold smB
  simp
  omega
theorem dg_far {c : UInt8} (h : dgB c = true) : smB c = false ∧ grB c = false ∧ c.toNat ≠ 95 ∧ c.toNat ≠ 39 ∧ c.toNat ≠ 34 ∧ c.toNat ≠ 45 ∧ isS9 c.toNat = false := by
  unfold dgB at h
  simp at h
  refine ⟨?_, ?_, by omega, by omega, by omega, by omega, ?_⟩
  · unfold smB; simp; omega
  · unfold grB; simp; omega
  · unfold isS9; simp; omega
/-- A version's digits and points. -/
theorem okS_split {s : ByteArray} (h : Sv.okS s = true) : ∃ x y z : List UInt8, s.data.toList = x ++ 46 :: (y ++ 46 :: z) ∧ (∀ c ∈ x, dgB c = true) ∧ (∀ c ∈ y, dgB c = true) ∧ (∀ c ∈ z, dgB c = true) ∧ x ≠ [] ∧ y ≠ [] ∧ z ≠ [] ∧ x.length ≤ 6 ∧ y.length ≤ 6 ∧ z.length ≤ 6 := by
  unfold Sv.okS at h
  simp only [Bool.and_eq_true, Bool.not_eq_true'] at h
  obtain ⟨⟨⟨⟨⟨h1, h2⟩, h3⟩, h4⟩, h5⟩, h6⟩ := h
  have e1 := ver_m h2
  have e2 := ver_m h4
  have e3 := ver_no h6
  have n1 := ver_nb h1
  have n2 := ver_nb h3
  have n3 := ver_nb h5
  rw [e3] at n3
  rw [e2] at e1
  have len6 : ∀ l : List UInt8, Sv.NumP l → l.length ≤ 6 := by
    intro l hl
    by_cases hz : l.head? = some 48
    · have := hl.2.1
      have h7 : ¬ 1 < l.length := fun h8 => this ⟨hz, h8⟩
      omega
    · rcases Nat.lt_or_ge l.length 7 with h7 | h7
      · omega
      · exfalso
        cases l with
        | nil => simp at h7
        | cons x r =>
          have hx := Sv.isDig_yes (hl.2.2.1 x (by simp))
          have hne : x.toNat ≠ 48 := fun e => hz (by simp only [List.head?_cons]; congr 1; exact UInt8.toNat_inj.1 e)
          have h5 := Sv.foldl_le r (10 * 0 + (x.toNat - 48))
          have h6 : Sv.val (x :: r) = r.foldl (fun n c => 10 * n + (c.toNat - 48)) (10 * 0 + (x.toNat - 48)) := rfl
          have h8 : 10 ^ 6 ≤ 10 ^ r.length := Nat.pow_le_pow_right (by decide) (by simp at h7; omega)
          have h9 : 1 * 10 ^ r.length ≤ (10 * 0 + (x.toNat - 48)) * 10 ^ r.length := Nat.mul_le_mul_right _ (by omega)
          have h10 := hl.2.2.2
          have h11 : (10 : Nat) ^ 6 = 1000000 := by decide
          omega
  exact ⟨_, _, _, e1, fun c hc => by rw [dg_is]; exact n1.2.2.1 c hc, fun c hc => by rw [dg_is]; exact n2.2.2.1 c hc, fun c hc => by rw [dg_is]; exact n3.2.2.1 c hc, n1.1, n2.1, n3.1, len6 _ n1, len6 _ n2, len6 _ n3⟩
theorem cnt_all {p : UInt8 → Bool} {x : List UInt8} (h : ∀ c ∈ x, p c = true) : cnt p x = x.length := by
  unfold cnt
  induction x with
  | nil => rfl
  | cons c x ih =>
    rw [List.takeWhile_cons, if_pos (h c (List.mem_cons_self ..)), List.length_cons, ih fun d hd => h d (List.mem_cons_of_mem _ hd), List.length_cons]
theorem dg46 : dgB 46 = false := by decide
theorem cnt_point {x r : List UInt8} (h : ∀ c ∈ x, dgB c = true) : cnt dgB (x ++ 46 :: r) = x.length := by
  rw [cnt_app dgB _ (fun c hc => by cases hc; exact dg46), cnt_all h]
theorem verD_whole {l : List UInt8} (h : Sv.okS (ofL l) = true) : verD l = l.length ∧ l.length ≤ 20 := by
  obtain ⟨x, y, z, e, hx, hy, hz, nx, ny, nz, lx, ly, lz⟩ := okS_split h
  rw [ofL_list] at e
  have hlen : l.length = x.length + (y.length + (z.length + 1) + 1) := by rw [e]; simp
  refine ⟨?_, by omega⟩
  have a1 : cnt dgB l = x.length := by rw [e]; exact cnt_point hx
  have a2 : l[x.length]? = some 46 := by rw [e]; simp
  have a3 : l.drop (x.length + 1) = y ++ 46 :: z := by rw [e, ← List.drop_drop, List.drop_left]; rfl
  have a4 : l.drop (x.length + y.length + 2) = z := by
    have h1 : x.length + y.length + 2 = (x.length + 1) + (y.length + 1) := by omega
    rw [h1, ← List.drop_drop, a3, ← List.drop_drop, List.drop_left]; rfl
  have a5 : l[x.length + 1 + y.length]? = some 46 := by
    have h1 := congrArg (fun m => m[y.length]?) a3
    simp only [List.getElem?_drop] at h1
    rw [h1]; simp
  have hpy : y.length ≠ 0 := fun h0 => ny (List.eq_nil_of_length_eq_zero h0)
  unfold verD verA
  rw [a1, a2, if_neg (by simp), a3, cnt_point hy]
  unfold verB
  rw [a5, if_neg (by simp; exact ny), a4, cnt_all hz]
  unfold verC
  rw [List.take_of_length_le (by omega), h]
  simp only [if_true]
  omega
theorem verD_ok {l : List UInt8} (h : 0 < verD l) : Sv.okS (ofL (l.take (verD l))) = true := by
  unfold verD verA verB verC at h ⊢
  split at h
  · omega
  · rename_i h1
    rw [if_neg h1]
    split at h
    · omega
    · rename_i h2
      rw [if_neg h2]
      split at h
      · rename_i h3
        rw [if_pos h3]
        exact h3
      · omega
theorem verD_le (l : List UInt8) : verD l ≤ l.length := by
  unfold verD verA verB verC
  split
  · omega
  · split
    · omega
    · split
      · rename_i h1 h2 h3
        have c := cnt_le dgB (l.drop (cnt dgB l + cnt dgB (l.drop (cnt dgB l + 1)) + 2))
        rw [List.length_drop] at c
        have hh : l[cnt dgB l + 1 + cnt dgB (l.drop (cnt dgB l + 1))]? = some 46 := by
          by_cases h4 : l[cnt dgB l + 1 + cnt dgB (l.drop (cnt dgB l + 1))]? = some 46
          · exact h4
          · exact absurd (.inr h4) h2
        have := (List.getElem?_eq_some_iff.1 hh).1
        omega
      · omega
theorem verM_whole {l : List UInt8} (h0 : 0 < l.length) : verM (ofL l) = l.length ↔ Sv.okS (ofL l) = true := by
  constructor
  · intro h
    have h1 : Sv.okS ((ofL l).extract 0 (verM (ofL l))) = true := verF_ok (ofL l) (min (ofL l).size 20) (by unfold verM at h; omega)
    rw [h, ofL_take, List.take_of_length_le (Nat.le_refl _)] at h1
    exact h1
  · intro h
    have h20 := (verD_whole h).2
    unfold verM
    apply verF_eq
    · rw [ofL_size]; omega
    · intro _
      rw [ofL_take, List.take_of_length_le (Nat.le_refl _)]
      exact h
    · intro m h1 h2
      rw [ofL_size] at h2
      omega
theorem all_no {l : List UInt8} (h : ∀ c ∈ l, dgB c = true ∨ c = 45) : Sv.okS (ofL l) = false := by
  cases hk : Sv.okS (ofL l) with
  | false => rfl
  | true =>
    obtain ⟨x, y, z, e, _⟩ := okS_split hk
    rw [ofL_list] at e
    have := h 46 (by rw [e]; simp)
    rcases this with h1 | h1 <;> cases h1
theorem verM_none {l : List UInt8} (h : ∀ c ∈ l, dgB c = true ∨ c = 45) : verM (ofL l) = 0 := by
  rcases Nat.eq_zero_or_pos (verM (ofL l)) with e | e
  · exact e
  · have h1 : Sv.okS ((ofL l).extract 0 (verM (ofL l))) = true := verF_ok (ofL l) (min (ofL l).size 20) e
    rw [ofL_take, all_no fun c hc => h c (List.mem_of_mem_take hc)] at h1
    cases h1
theorem verD_none {l : List UInt8} (h : ∀ c ∈ l, dgB c = true ∨ c = 45) : verD l = 0 := by
  rcases Nat.eq_zero_or_pos (verD l) with e | e
  · exact e
  · have h1 := verD_ok e
    rw [all_no fun c hc => h c (List.mem_of_mem_take hc)] at h1
    cases h1
theorem cnt_whole {p : UInt8 → Bool} {l : List UInt8} (h : cnt p l = l.length) : ∀ c ∈ l, p c = true := by
  have h1 := take_cnt p l
  rw [h, List.take_length] at h1
  intro c hc
  rw [h1] at hc
  exact takeW_all p l c hc
theorem intD_eq {l : List UInt8} (hz : zhB l = false) : intD l = l.take (cnt dgB l) := by
  unfold intD intN
  rw [hz]
  rfl
theorem intM_p {l : List UInt8} (hp : Lib.hasPrefix l [45] = false) (h0 : intN l ≠ 0) (h18 : intN l ≤ 18) : intM l = intN l := by
  unfold intM
  rw [hp, if_neg (by simp : ¬ (false = true)), if_neg]
  simp only [Bool.or_eq_true, decide_eq_true_eq]
  omega
theorem intM_n {l : List UInt8} (hp : Lib.hasPrefix l [45] = true) (hz : zhB (l.drop 1) = false) (h0 : intN (l.drop 1) ≠ 0) (h18 : intN (l.drop 1) ≤ 18) : intM l = 1 + intN (l.drop 1) := by
  unfold intM
  rw [hp, if_pos rfl, hz, if_neg]
  simp only [Bool.false_or, Bool.or_eq_true, decide_eq_true_eq]
  omega
theorem intM_z {l : List UInt8} (hp : Lib.hasPrefix l [45] = true) (h : zhB (l.drop 1) = true ∨ intN (l.drop 1) = 0 ∨ 18 < intN (l.drop 1)) : intM l = 0 := by
  unfold intM
  rw [hp, if_pos rfl, if_pos]
  simp only [Bool.or_eq_true, decide_eq_true_eq]
  rcases h with h | h | h
  · exact .inl (.inl h)
  · exact .inl (.inr h)
  · exact .inr h
theorem intV_p {l : List UInt8} (hp : Lib.hasPrefix l [45] = false) (h0 : intN l ≠ 0) : intV l = (Sv.val (intD l) : Nat) := by
  unfold intV
  rw [hp, if_neg (by simp : ¬ (false = true)), intD_val h0]
  rfl
theorem intV_n {l : List UInt8} (hp : Lib.hasPrefix l [45] = true) (h0 : intN (l.drop 1) ≠ 0) : intV l = -(Sv.val (intD (l.drop 1)) : Nat) := by
  unfold intV
  rw [hp, if_pos rfl, intD_val h0]
  rfl
/-- Where a token is a whole text, the document's is the program's. -/
theorem one_first {l : List UInt8} {t : Tk} (h0 : 0 < l.length) : oneT l = (t, l.length) ↔ firstT (ofL l) = (t, l.length) := by
  obtain ⟨c, hc⟩ : ∃ c, l[0]? = some c := ⟨l[0], List.getElem?_eq_getElem h0⟩
  rw [firstT_at hc, oneT_at hc]
  have bad : ∀ (t : Tk) (n : Nat), (tk0, 0) = (t, n) → n = 0 := fun t n h => by cases h; rfl
  by_cases hs : smB c = true
  · obtain ⟨f1, f2, f3⟩ := sm_far hs
    rw [if_pos (by rw [hs]; rfl), if_pos (by rw [hs]; rfl), f1, nameT_ofL]
    have h1 := cnt_cons_pos hc f3
    have hne : l.take (cnt nmB l) ≠ [95] := fun e => by
      have h2 := take_head hc h1
      rw [e] at h2
      cases h2
      exact f2 rfl
    unfold nameD
    rw [if_neg (by simp : ¬ (false = true)), if_neg hne]
    by_cases h30 : 30 < cnt nmB l
    · rw [if_pos h30, if_pos h30]
    · rw [if_neg h30, if_neg h30]
      cases hk : keyB (ofL (l.take (cnt nmB l))) <;> simp
  rw [Bool.not_eq_true] at hs
  by_cases hg : grB c = true
  · obtain ⟨f1, f2, f3⟩ := gr_far hg
    rw [if_pos (by rw [hg]; simp), if_neg (by rw [hs]; simp [f2]), if_pos hg, hg, nameT_ofL]
    have h1 := cnt_cons_pos hc f3
    have hk := key_head (take_head hc h1) f1
    unfold nameD
    rw [if_pos rfl, hk]
    simp
  rw [Bool.not_eq_true] at hg
  by_cases h95 : c.toNat = 95
  · have f3 : nmB c = true := by unfold nmB; rw [h95]; simp
    have h1 := cnt_cons_pos hc f3
    rw [if_pos (c := (smB c || grB c || decide (c.toNat = 95)) = true) (by rw [h95]; simp), hg]
    by_cases hn : 1 < cnt nmB l
    · have hne : l.take (cnt nmB l) ≠ [95] := fun e => by
        have h2 := congrArg List.length e
        have h3 := cnt_le nmB l
        rw [List.length_take] at h2
        simp at h2
        omega
      have e : nameD l false = nameT 1 (ofL l) := by
        unfold nameD
        rw [nameT_ofL, if_neg (by simp : ¬ (false = true)), if_neg hne]
        by_cases h30 : 30 < cnt nmB l
        · rw [if_pos h30, if_pos h30]
        · rw [if_neg h30, if_neg h30]
          cases hk : keyB (ofL (l.take (cnt nmB l))) <;> simp
      rw [e, if_pos (c := (smB c || (decide (c.toNat = 95) && decide (1 < cnt nmB l))) = true) (by rw [hs, h95]; simp [hn])]
    · have hn1 : cnt nmB l = 1 := by omega
      have ht : l.take 1 = [95] := by rw [take_one hc, u8 h95 (by decide)]; rfl
      have hd : dgB c = false := by unfold dgB; simp; omega
      have e : nameD l false = (⟨8, ofL (l.take 1), 0⟩, 1) := by
        unfold nameD
        rw [hn1, if_neg (by omega), if_neg (by simp : ¬ (false = true)), if_pos ht]
      rw [e, if_neg (c := (smB c || (decide (c.toNat = 95) && decide (1 < cnt nmB l))) = true) (by rw [hs, h95]; simp [hn]), if_neg (by simp : ¬ (false = true)), if_neg (c := c.toNat = 39) (by omega), if_neg (c := c.toNat = 34) (by omega),
        if_neg (c := (dgB c || (decide (c.toNat = 45) && !Lib.hasPrefix l [45, 62])) = true) (by rw [hd]; simp; omega), signT_ofL, if_neg (by omega), h95]
      rfl
  rw [if_neg (c := (smB c || grB c || decide (c.toNat = 95)) = true) (by rw [hs, hg]; simp [h95]), if_neg (c := (smB c || (decide (c.toNat = 95) && decide (1 < cnt nmB l))) = true) (by rw [hs]; simp [h95]), if_neg (c := grB c = true) (by rw [hg]; simp)]
  by_cases h39 : c.toNat = 39
  · rw [if_pos h39, if_pos h39, varT_ofL]
  rw [if_neg h39, if_neg h39]
  by_cases h34 : c.toNat = 34
  · rw [if_pos h34, if_pos h34, tdM_tx]
    rfl
  rw [if_neg h34, if_neg h34]
  by_cases hp : l.take 2 = [45, 62]
  · have h45 : c = 45 := by
      have h1 := take_head (n := 2) hc (by omega)
      rw [hp] at h1
      cases h1
      rfl
    have hd : dgB c = false := by rw [h45]; decide
    have hq : Lib.hasPrefix l [45, 62] = true := by rw [hp2, hp]; rfl
    rw [if_pos hp, if_neg (by rw [hd, hq]; simp), signT_ofL, if_pos (by rw [h45]; rfl), hp]
  rw [if_neg hp]
  have hq : Lib.hasPrefix l [45, 62] = false := by rw [hp2, beq_eq_false_iff_ne]; exact hp
  by_cases hd : dgB c = true
  · obtain ⟨_, _, _, _, _, f45, _⟩ := dg_far hd
    rw [if_pos (c := (dgB c || (decide (c.toNat = 45) && !Lib.hasPrefix l [45, 62])) = true) (by rw [hd]; rfl)]
    by_cases hok : Sv.okS (ofL l) = true
    · have h1 := verD_whole hok
      rw [if_pos ⟨hd, by omega⟩, numT_ofL, (verM_whole h0).2 hok, if_pos h0, h1.1]
    · have hnM : verM (ofL l) ≠ l.length := fun e => hok ((verM_whole h0).1 e)
      have hnD : verD l ≠ l.length := fun e => by
        have := verD_ok (l := l) (by omega)
        rw [e, List.take_length] at this
        exact hok this
      have hint : ∀ t : Tk, (verD l = 0 ∧ intDD l 0 = (t, l.length)) ↔ (verM (ofL l) = 0 ∧ intM l ≠ 0 ∧ ((⟨4, ⟨#[]⟩, intV l⟩ : Tk), intM l) = (t, l.length)) := by
        intro t
        have hp45 : Lib.hasPrefix l [45] = false := by
          rw [hp1, List.head?_eq_getElem?, hc, beq_eq_false_iff_ne]
          intro e
          cases e
          exact f45 rfl
        have hcl := cnt_le dgB l
        constructor
        · rintro ⟨_, h⟩
          unfold intDD at h
          rw [List.drop_zero] at h
          split at h
          · have := bad _ _ h; omega
          · rename_i hcond
            have hn : 0 + cnt dgB l = l.length := congrArg Prod.snd h
            have hall := cnt_whole (p := dgB) (l := l) (by omega)
            have hz : zhB l = true → l.length = 1 := fun hz => by
              have : ¬ 1 < cnt dgB l := fun h1 => hcond (.inr (.inr (.inl ⟨h1, hz⟩)))
              omega
            have hN : intN l = l.length := by
              unfold intN
              split
              · rename_i h1; exact (hz h1).symm
              · omega
            have h18 : ¬ 18 < l.length := fun h1 => hcond (.inr (.inl (by omega)))
            have hM : intM l = l.length := by rw [intM_p hp45 (by omega) (by omega), hN]
            refine ⟨verM_none fun c hc => .inl (hall c hc), by omega, ?_⟩
            have hV : intV l = (Sv.val l : Nat) := by
              have : intD l = l := by unfold intD; rw [hN, List.take_length]
              rw [intV_p hp45 (by omega), this]
            rw [← h, hM, hV, hn]
            have hx : cnt dgB l = l.length := by omega
            rw [hx, List.take_length]
            rfl
        · rintro ⟨_, hi, h⟩
          have hn : intM l = l.length := congrArg Prod.snd h
          obtain ⟨e1, e2, e3⟩ := intM_plain hp45 hi
          have hN : intN l = l.length := by omega
          have hcnt : cnt dgB l = l.length := by
            unfold intN at hN
            split at hN
            · rename_i hz
              have := zh_cnt hz
              omega
            · exact hN
          have hall := cnt_whole (p := dgB) (l := l) hcnt
          have hz : zhB l = true → l.length = 1 := fun hz => by
            unfold intN at hN
            rw [if_pos hz] at hN
            omega
          refine ⟨verD_none fun c hc => .inl (hall c hc), ?_⟩
          unfold intDD
          rw [List.drop_zero, hcnt, if_neg]
          · have hV : intV l = (Sv.val l : Nat) := by
              have : intD l = l := by unfold intD; rw [hN, List.take_length]
              rw [intV_p hp45 (by omega), this]
            rw [hV, hn] at h
            rw [List.take_length, ← h]
            simp
          · rintro (h1 | h1 | ⟨h1, h2⟩ | ⟨h1, _⟩)
            · omega
            · omega
            · have := hz h2; omega
            · omega
      have hL : (if dgB c = true ∧ 0 < verD l then ((⟨6, ofL (l.take (verD l)), 0⟩ : Tk), verD l) else if (dgB c || decide (c.toNat = 45)) = true then intDD l (if c.toNat = 45 then 1 else 0) else if isS9 c.toNat = true then (⟨8, ofL (l.take 1), 0⟩, 1) else (tk0, 0)) = (t, l.length) ↔ (verD l = 0 ∧ intDD l 0 = (t, l.length)) := by
        by_cases hv : 0 < verD l
        · rw [if_pos ⟨hd, hv⟩]
          constructor
          · intro h; exact absurd (congrArg Prod.snd h) hnD
          · rintro ⟨h, _⟩; omega
        · rw [if_neg (fun h => hv h.2), if_pos (by rw [hd]; rfl), if_neg f45]
          constructor
          · intro h; exact ⟨by omega, h⟩
          · rintro ⟨_, h⟩; exact h
      have hR : numT (ofL l) = (t, l.length) ↔ (verM (ofL l) = 0 ∧ intM l ≠ 0 ∧ ((⟨4, ⟨#[]⟩, intV l⟩ : Tk), intM l) = (t, l.length)) := by
        rw [numT_ofL]
        by_cases hv : 0 < verM (ofL l)
        · rw [if_pos hv]
          constructor
          · intro h; exact absurd (congrArg Prod.snd h) hnM
          · rintro ⟨h, _⟩; omega
        · rw [if_neg hv]
          by_cases hi : intM l = 0
          · rw [if_pos hi]
            constructor
            · intro h; have := bad _ _ h; omega
            · rintro ⟨_, h, _⟩; exact absurd hi h
          · rw [if_neg hi]
            constructor
            · intro h; exact ⟨by omega, hi, h⟩
            · rintro ⟨_, _, h⟩; exact h
      rw [hL, hR]
      exact hint t
  rw [Bool.not_eq_true] at hd
  rw [if_neg (c := dgB c = true ∧ 0 < verD l) (by rw [hd]; simp)]
  by_cases h45 : c.toNat = 45
  · have h45' : c = 45 := u8 h45 (by decide)
    have hp45 : Lib.hasPrefix l [45] = true := by rw [hp1, List.head?_eq_getElem?, hc, h45']; rfl
    have hv : verM (ofL l) = 0 := by
      rcases Nat.eq_zero_or_pos (verM (ofL l)) with e | e
      · exact e
      · have h1 : Sv.okS ((ofL l).extract 0 (verM (ofL l))) = true := verF_ok (ofL l) (min (ofL l).size 20) e
        have h2 := (okS_bytes h1).2 45
        rw [ofL_take, ofL_list, head_take e, List.head?_eq_getElem?, hc, h45'] at h2
        have := h2 rfl
        cases this
    rw [if_pos (by rw [h45]; simp), if_pos h45, if_pos (by rw [hd, h45, hq]; simp), numT_ofL, hv, if_neg (by omega)]
    have e : intDD l 1 = if intM l = 0 then (tk0, 0) else (⟨4, ⟨#[]⟩, intV l⟩, intM l) := by
      unfold intDD
      by_cases hz : zhB (l.drop 1) = true
      · rw [if_pos (.inr (.inr (.inr ⟨rfl, hz⟩))), intM_z hp45 (.inl hz), if_pos rfl]
      · rw [Bool.not_eq_true] at hz
        have hN : intN (l.drop 1) = cnt dgB (l.drop 1) := by unfold intN; rw [hz]; rfl
        by_cases hcond : cnt dgB (l.drop 1) = 0 ∨ 18 < cnt dgB (l.drop 1)
        · rw [intM_z hp45 (.inr (by rw [hN]; exact hcond)), if_pos (c := (0 : Nat) = 0) rfl]
          rcases hcond with h2 | h2
          · rw [if_pos (.inl h2)]
          · rw [if_pos (.inr (.inl h2))]
        · have hM : intM l = 1 + cnt dgB (l.drop 1) := by rw [intM_n hp45 hz (by omega) (by omega), hN]
          have hV : intV l = -(Sv.val ((l.drop 1).take (cnt dgB (l.drop 1))) : Nat) := by rw [intV_n hp45 (by omega), intD_eq hz]
          rw [hM, hV, if_neg (c := 1 + cnt dgB (l.drop 1) = 0) (by omega), if_neg]
          · rfl
          · rintro (h1 | h1 | ⟨_, h1⟩ | ⟨_, h1⟩)
            · exact hcond (.inl h1)
            · exact hcond (.inr h1)
            · rw [hz] at h1; cases h1
            · rw [hz] at h1; cases h1
    rw [e]
  rw [if_neg (c := (dgB c || decide (c.toNat = 45)) = true) (by rw [hd]; simp [h45]), if_neg (c := (dgB c || (decide (c.toNat = 45) && !Lib.hasPrefix l [45, 62])) = true) (by rw [hd]; simp [h45]), signT_ofL, if_neg h45]
  have hsg : sgB c.toNat = isS9 c.toNat := by
    unfold sgB isS9
    simp [h95]
  rw [hsg]
end Go.Proofs.YthcpmdgdbceeiaaGreatDoor
/- The document's version at the beginning of a text. -/
namespace Go.Proofs.YthcpmdgdbceeiaaGreatDoor
open Go.RowKit
set_option linter.unusedSimpArgs false
set_option linter.unusedVariables false
theorem digits0_any (s : ByteArray) (hm : s.size ≤ 4194304) (w : World) : Calls Tryz.prog 94 #[.string s, .int .i64 0] w fun e w' => e = .returned (.int .i64 (cnt dgB s.data.toList : Nat)) ∧ w = w' := by
  have h := digits_any s hm 0 (Nat.zero_le _) w
  rw [List.drop_zero] at h
  exact h
theorem digits1_any (s : ByteArray) (hm : s.size ≤ 4194304) (a : Nat) (ha : a + 1 ≤ s.size) (w : World) : Calls Tryz.prog 94 #[.string s, .int .i64 ((a : Int) + 1)] w fun e w' => e = .returned (.int .i64 (cnt dgB (s.data.toList.drop (a + 1)) : Nat)) ∧ w = w' := by
  have h := digits_any s hm (a + 1) ha w
  have e : ((a + 1 : Nat) : Int) = (a : Int) + 1 := by omega
  rw [e] at h
  exact h
theorem digits2_any (s : ByteArray) (hm : s.size ≤ 4194304) (a b : Nat) (ha : a + b + 2 ≤ s.size) (w : World) : Calls Tryz.prog 94 #[.string s, .int .i64 ((a : Int) + (b : Int) + 2)] w fun e w' => e = .returned (.int .i64 (cnt dgB (s.data.toList.drop (a + b + 2)) : Nat)) ∧ w = w' := by
  have h := digits_any s hm (a + b + 2) ha w
  have e : ((a + b + 2 : Nat) : Int) = (a : Int) + (b : Int) + 2 := by omega
  rw [e] at h
  exact h
theorem at_some {s : ByteArray} {k : Nat} (hk : k < s.size) (h : s[k].toNat ≠ 46) : s.data.toList[k]? ≠ some 46 := by
  rw [at_list s k hk]
  intro e
  have e2 : s[k] = 46 := by simpa using e
  exact h (by rw [e2]; rfl)
theorem at_46 {s : ByteArray} {k : Nat} (hk : k < s.size) (h : s[k].toNat = 46) : s.data.toList[k]? = some 46 := by
  rw [at_list s k hk, u8 h (by decide)]
  rfl
theorem at_out {s : ByteArray} {k : Nat} (hk : ¬ k < s.size) : s.data.toList[k]? ≠ some 46 := by
  rw [List.getElem?_eq_none (by rw [len_list]; omega)]
  intro e
  cases e
set_option maxHeartbeats 8000000 in
set_option maxRecDepth 100000 in
theorem version_doc (s : ByteArray) (hm : s.size ≤ 4194304) (w : World) : Calls Tryz.prog 93 #[.string s, .int .i64 0] w fun e w' => e = .returned (.int .i64 (verD s.data.toList : Nat)) ∧ Below w.heap.size w w' := by
  have H0 := Lib.hid (fun W => digits0_any s hm W)
  have hD : verD s.data.toList = verA s.data.toList (cnt dgB s.data.toList) := rfl
  rw [hD]
  have hle := cnt_le dgB s.data.toList
  rw [len_list] at hle
  generalize cnt dgB s.data.toList = a at *
  by_cases h1 : a < s.size
  rotate_left
  · have d1 : decide (s.size ≤ a) = true := by simp; omega
    have HR : RowKit.Hid (verA s.data.toList a = 0) := Lib.hid (by unfold verA; rw [if_pos (at_out h1)])
    clear hD h1
    go_enter Tryz.func93, Tryz.ntmps93
    go_wp2_with (go_at_call 94; with_reducible refine (H0.out _).mono ?_; rintro e w1 ⟨rfl, rfl⟩)
    go_ret
    exact ⟨ret_int (by rw [HR.out]; rfl), Below.refl _ _⟩
  have d1 : decide (s.size ≤ a) = false := by simp; omega
  have hai : (a : Int) < (s.size : Int) := by omega
  by_cases h2 : s[a].toNat = 46
  rotate_left
  · have d2 : ((s[a].toNat : Int) != 46) = true := by simp; omega
    have HR : RowKit.Hid (verA s.data.toList a = 0) := Lib.hid (by unfold verA; rw [if_pos (at_some h1 h2)])
    clear hD h2
    go_enter Tryz.func93, Tryz.ntmps93
    go_wp2_with (go_at_call 94; with_reducible refine (H0.out _).mono ?_; rintro e w1 ⟨rfl, rfl⟩)
    go_ret
    exact ⟨ret_int (by rw [HR.out]; rfl), Below.refl _ _⟩
  have d2 : ((s[a].toNat : Int) != 46) = false := by simp; omega
  have hA : verA s.data.toList a = verB s.data.toList a (cnt dgB (s.data.toList.drop (a + 1))) := by unfold verA; rw [if_neg (fun h => h (at_46 h1 h2))]
  rw [hA]
  have H1 := Lib.hid (fun W => digits1_any s hm a (by omega) W)
  have hle1 := cnt_le dgB (s.data.toList.drop (a + 1))
  rw [List.length_drop, len_list] at hle1
  clear hD hA h2
  generalize cnt dgB (s.data.toList.drop (a + 1)) = b at *
  by_cases h3 : b = 0
  · subst h3
    have HR : RowKit.Hid (verB s.data.toList a 0 = 0) := Lib.hid (by unfold verB; rw [if_pos (.inl rfl)])
    go_enter Tryz.func93, Tryz.ntmps93
    go_wp2_with (first
      | (go_at_call 94; with_reducible refine (H0.out _).mono ?_; rintro e w1 ⟨rfl, rfl⟩)
      | (go_at_call 94; with_reducible refine (H1.out _).mono ?_; rintro e w1 ⟨rfl, rfl⟩))
    go_ret
    exact ⟨ret_int (by rw [HR.out]; rfl), Below.refl _ _⟩
  have d3 : ((b : Int) == 0) = false := by rw [beq_eq_false_iff_ne]; omega
  by_cases h4 : a + 1 + b < s.size
  rotate_left
  · have d4 : decide ((s.size : Int) ≤ (a : Int) + 1 + (b : Int)) = true := by simp; omega
    have d4' : decide (s.size ≤ a + 1 + b) = true := by simp; omega
    have HR : RowKit.Hid (verB s.data.toList a b = 0) := Lib.hid (by unfold verB; rw [if_pos (.inr (at_out h4))])
    clear h3 h4
    go_enter Tryz.func93, Tryz.ntmps93
    go_wp2_with (first
      | (go_at_call 94; with_reducible refine (H0.out _).mono ?_; rintro e w1 ⟨rfl, rfl⟩)
      | (go_at_call 94; with_reducible refine (H1.out _).mono ?_; rintro e w1 ⟨rfl, rfl⟩))
    go_ret
    exact ⟨ret_int (by rw [HR.out]; rfl), Below.refl _ _⟩
  have d4 : decide ((s.size : Int) ≤ (a : Int) + 1 + (b : Int)) = false := by simp; omega
  have d4' : decide (s.size ≤ a + 1 + b) = false := by simp; omega
  have h4i : (a : Int) + 1 + (b : Int) < (s.size : Int) := by omega
  by_cases h5 : s[a + 1 + b].toNat = 46
  rotate_left
  · have d5 : ((s[a + 1 + b].toNat : Int) != 46) = true := by simp; omega
    have HR : RowKit.Hid (verB s.data.toList a b = 0) := Lib.hid (by unfold verB; rw [if_pos (.inr (at_some h4 h5))])
    clear h3 h5
    go_enter Tryz.func93, Tryz.ntmps93
    go_wp2_with (first
      | (go_at_call 94; with_reducible refine (H0.out _).mono ?_; rintro e w1 ⟨rfl, rfl⟩)
      | (go_at_call 94; with_reducible refine (H1.out _).mono ?_; rintro e w1 ⟨rfl, rfl⟩))
    go_ret
    exact ⟨ret_int (by rw [HR.out]; rfl), Below.refl _ _⟩
  have d5 : ((s[a + 1 + b].toNat : Int) != 46) = false := by simp; omega
  have hB : verB s.data.toList a b = verC s.data.toList (a + b + 2 + cnt dgB (s.data.toList.drop (a + b + 2))) := by
    unfold verB
    rw [if_neg]
    rintro (h | h)
    · exact h3 h
    · exact h (at_46 h4 h5)
  rw [hB]
  have H2 := Lib.hid (fun W => digits2_any s hm a b (by omega) W)
  have hle2 := cnt_le dgB (s.data.toList.drop (a + b + 2))
  rw [List.length_drop, len_list] at hle2
  clear hB h5 h3
  generalize cnt dgB (s.data.toList.drop (a + b + 2)) = c at *
  have h6 : (a : Int) + (b : Int) + 2 + (c : Int) ≤ (s.size : Int) := by omega
  have hext : s.extract 0 (a + b + 2 + c) = ofL (s.data.toList.take (a + b + 2 + c)) := by
    apply toList_injX
    rw [take_list, ByteArray.toList_eq]
  have HP := Lib.hid (fun W => refParse_any (s.extract 0 (a + b + 2 + c)) (by rw [ByteArray.size_extract]; omega) W)
  cases ho : Sv.okS (s.extract 0 (a + b + 2 + c))
  · rw [parse_fail ho] at HP
    have HR : RowKit.Hid (verC s.data.toList (a + b + 2 + c) = 0) := Lib.hid (by unfold verC; rw [← hext, ho]; rfl)
    clear ho hext
    go_enter Tryz.func93, Tryz.ntmps93
    go_wp2_with (first
      | (go_at_call 94; with_reducible refine (H0.out _).mono ?_; rintro e w1 ⟨rfl, rfl⟩)
      | (go_at_call 94; with_reducible refine (H1.out _).mono ?_; rintro e w1 ⟨rfl, rfl⟩)
      | (go_at_call 94; with_reducible refine (H2.out _).mono ?_; rintro e w1 ⟨rfl, rfl⟩)
      | (go_at_call 120; refine (HP.out _).mono ?_; rintro e w2 ⟨rfl, hb⟩))
    trace_state
    go_ret
    exact ⟨ret_int (by rw [HR.out]; rfl), hb.alloc hb.size _⟩
  · rw [parse_good ho] at HP
    have HR : RowKit.Hid (verC s.data.toList (a + b + 2 + c) = a + b + 2 + c) := Lib.hid (by unfold verC; rw [← hext, ho]; rfl)
    clear ho hext
    go_enter Tryz.func93, Tryz.ntmps93
    go_wp2_with (first
      | (go_at_call 94; with_reducible refine (H0.out _).mono ?_; rintro e w1 ⟨rfl, rfl⟩)
      | (go_at_call 94; with_reducible refine (H1.out _).mono ?_; rintro e w1 ⟨rfl, rfl⟩)
      | (go_at_call 94; with_reducible refine (H2.out _).mono ?_; rintro e w1 ⟨rfl, rfl⟩)
      | (go_at_call 120; refine (HP.out _).mono ?_; rintro e w2 ⟨rfl, hb⟩))
    go_ret
    exact ⟨ret_int (by rw [HR.out]; omega), hb.alloc hb.size _⟩
end Go.Proofs.YthcpmdgdbceeiaaGreatDoor
/- The document's number of digits; a text that it reads. -/
namespace Go.Proofs.YthcpmdgdbceeiaaGreatDoor
open Go.RowKit
set_option linter.unusedSimpArgs false
set_option linter.unusedVariables false
set_option maxHeartbeats 4000000 in
set_option maxRecDepth 100000 in
theorem numberD_any (s : ByteArray) (hall : ∀ c ∈ s.data.toList, dgB c = true) (h18 : s.size ≤ 18) (w : World) : Calls Tryz.prog 95 #[.string s] w fun e w' => e = .returned (.int .i64 (Sv.val s.data.toList : Nat)) ∧ w = w' := by
  have HA := Lib.hid hall
  clear hall
  go_enter Tryz.func95, Tryz.ntmps95
  go_wp2
  go_loop [3, 4] (fun n i => ∃ k : Nat, k ≤ s.size ∧ i = .int .i64 k ∧ n = .int .i64 (Sv.val (s.data.toList.take k) : Nat)) (fun _ i => s.size - (intOf i).toNat)
  case atStart => exact ⟨0, Nat.zero_le _, rfl, rfl⟩
  case round =>
    obtain ⟨k, hk, rfl, rfl⟩ := hrel
    by_cases hlt : k < s.size
    · have hki : (k : Int) < (s.size : Int) := by omega
      have hx := at_list s k hlt
      have hlk : k < s.data.toList.length := by rw [len_list]; exact hlt
      have hd := HA.out s[k] (List.mem_of_getElem? hx)
      have hv := Sv.val_take s.data.toList k hlk
      have hge : s.data.toList[k] = s[k] := by
        have := List.getElem?_eq_getElem hlk
        rw [hx] at this
        exact (Option.some.inj this).symm
      rw [hge] at hv
      have hb := Sv.val_lt (s.data.toList.take k) (fun c hc => by rw [← dg_is]; exact HA.out c (List.mem_of_mem_take hc))
      rw [List.length_take, len_list, Nat.min_eq_left hk] at hb
      have h10 : 10 ^ k ≤ 10 ^ 17 := Nat.pow_le_pow_right (by decide) (by omega)
      have h17 : (10 : Nat) ^ 17 = 100000000000000000 := by decide
      generalize Sv.val (s.data.toList.take k) = V at *
      have hVb : V ≤ 100000000000000000 := by omega
      rw [dg_is] at hd
      have hd1 : 48 ≤ s[k].toNat := (Sv.isDig_yes hd).1
      have hd2 : s[k].toNat ≤ 57 := (Sv.isDig_yes hd).2
      have HV := Lib.hid hv
      clear hv hb h10 h17 hx hd hge
      go_wp2
      go_round
      case rel => exact ⟨k + 1, by omega, by go_num, by rw [HV.out]; go_num⟩
      case measure => simp [intOf]; omega
    · have hki : ¬ (k : Int) < (s.size : Int) := by omega
      obtain rfl : k = s.size := by omega
      have hfull : s.data.toList.take s.size = s.data.toList := List.take_of_length_le (by rw [len_list]; exact Nat.le_refl _)
      obtain ⟨V, hV⟩ : ∃ V, Sv.val s.data.toList = V := ⟨_, rfl⟩
      have HV := Lib.hid hV
      rw [hfull, hV]
      clear hV hfull
      go_wp2
      go_ret
      exact ⟨ret_int (by rw [HV.out]), rfl⟩
theorem keep_one {s : ByteArray} {k : Nat} (hk : k < s.size) : s.extract k (k + 1) = ofL [s[k]] := by
  apply toList_injX
  rw [ByteArray.toList_eq, ByteArray.data_extract, Array.toList_extract, List.extract_eq_take_drop, ByteArray.toList_eq]
  rw [List.drop_eq_getElem_cons (by rw [len_list]; exact hk)]
  rw [Nat.add_sub_cancel_left]
  have hge : s.data.toList[k]'(by rw [len_list]; exact hk) = s[k] := by
    have h1 := List.getElem?_eq_getElem (l := s.data.toList) (i := k) (by rw [len_list]; exact hk)
    rw [at_list s k hk] at h1
    exact (Option.some.inj h1).symm
  rw [hge]
  rfl
theorem ofL_app (a b : List UInt8) : (ofL a) ++ (ofL b) = ofL (a ++ b) := by
  rw [str_add]
theorem escA_known {L : List UInt8} {k : Nat} {d : UInt8} (h : L[k]? = some d) : escA L k = escV d.toNat := by unfold escA; rw [h]
end Go.Proofs.YthcpmdgdbceeiaaGreatDoor
