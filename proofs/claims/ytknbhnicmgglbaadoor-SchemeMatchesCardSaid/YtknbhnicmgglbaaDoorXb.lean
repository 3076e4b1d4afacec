
/- What Match goes through (mathematics). -/
import Derived.Test.YtknbhnicmgglbaaDoorXa
namespace Go.Proofs.YtknbhnicmgglbaaDoor
open Go.RowKit
/-- A term is at most so deep. -/
def Dp : Nat → Tm → Prop
  | 0, _ => False
  | d + 1, .mk _ _ _ _ kids => ∀ x ∈ kids, Dp d x
theorem IsT.dp {w : World} : ∀ {d : Nat} {v : Value} {t : Tm}, IsT w d v t → Dp d t := by
  intro d
  induction d with
  | zero => intro v t h; cases h
  | succ d ih =>
    intro v t h
    obtain ⟨k, p, n, N, kids⟩ := t
    obtain ⟨q, c, _, _, _, _, h5⟩ := h
    intro x hx
    obtain ⟨i, hi, hxi⟩ := List.getElem_of_mem hx
    obtain ⟨_, _, _, _, _, _, _, _, _, ht⟩ := h5 i x (by rw [List.getElem?_eq_getElem hi, hxi])
    exact ih ht
theorem Sm.all : ∀ {d : Nat} {t : Tm}, Dp d t → Sm d t → ∀ d', Sm d' t := by
  intro d
  induction d with
  | zero => intro t h; cases h
  | succ d ih =>
    intro t h hs d'
    cases d' with
    | zero => trivial
    | succ d' =>
      obtain ⟨k, p, n, N, kids⟩ := t
      exact ⟨hs.1, fun x hx => ih (h x hx) (hs.2 x hx) d'⟩
theorem foldl_congr1 (f g : Tm → Nat) (l : List Tm) (h : ∀ x ∈ l, f x = g x) (a : Nat) : l.foldl (fun n t => n + f t) a = l.foldl (fun n t => n + g t) a := by
  induction l generalizing a with
  | nil => rfl
  | cons x l ih =>
    simp only [List.foldl_cons]
    rw [h x (by simp), ih fun y hy => h y (by simp [hy])]
theorem tsz_dp : ∀ {d : Nat} {t : Tm}, Dp d t → ∀ d', d ≤ d' → tszN d' t = tszN d t := by
  intro d
  induction d with
  | zero => intro t h; cases h
  | succ d ih =>
    intro t h d' hd
    obtain ⟨e, rfl⟩ : ∃ e, d' = e + 1 := ⟨d' - 1, by omega⟩
    obtain ⟨k, p, n, N, kids⟩ := t
    exact foldl_congr1 _ _ kids (fun x hx => ih (h x hx) e (by omega)) 1
theorem tsz_pos {d : Nat} {t : Tm} (h : Dp d t) : 1 ≤ tszN d t := by
  cases d with
  | zero => cases h
  | succ d =>
    obtain ⟨k, p, n, N, kids⟩ := t
    show 1 ≤ kids.foldl (fun n t => n + tszN d t) 1
    rw [foldl_add]
    omega
/-- What is left to go through. -/
def meas (d : Nat) (st : List (Tm × Tm)) : Nat := st.foldr (fun x n => tszN d x.1 + n) 0
theorem meas_cons (d : Nat) (x : Tm × Tm) (st : List (Tm × Tm)) : meas d (x :: st) = tszN d x.1 + meas d st := rfl
theorem meas_append (d : Nat) (a b : List (Tm × Tm)) : meas d (a ++ b) = meas d a + meas d b := by
  induction a with
  | nil => simp [meas]
  | cons x a ih => rw [List.cons_append, meas_cons, meas_cons, ih]; omega
theorem meas_rev (d : Nat) (a : List (Tm × Tm)) : meas d a.reverse = meas d a := by
  induction a with
  | nil => rfl
  | cons x a ih => rw [List.reverse_cons, meas_append, ih, meas_cons, meas_cons]; simp [meas]; omega
theorem meas_zip (d : Nat) : ∀ (l m : List Tm), l.length = m.length → meas d (l.zip m) = l.foldl (fun n t => n + tszN d t) 0
  | [], [], _ => rfl
  | x :: l, y :: m, h => by
    rw [List.zip_cons_cons, meas_cons, meas_zip d l m (by simpa using h), List.foldl_cons, foldl_add (tszN d) l (0 + tszN d x)]
    simp
  | [], _ :: _, h => by cases h
  | _ :: _, [], h => by cases h
/-- A variable's pair is gone through, or a pair of kids': what is left is less. -/
theorem meas_go {d D : Nat} {k N : Int} {p n : ByteArray} {l m : List Tm} {y : Tm} {rest : List (Tm × Tm)} (h : Dp d (.mk k p n N l)) (hd : d ≤ D) (hl : l.length = m.length) : meas D ((l.zip m).reverse ++ rest) + 1 = meas D ((.mk k p n N l, y) :: rest) := by
  rw [meas_append, meas_rev, meas_zip D l m hl, meas_cons, tsz_dp h D hd]
  cases d with
  | zero => cases h
  | succ d =>
    have e : tszN (d + 1) (.mk k p n N l) = l.foldl (fun n t => n + tszN d t) 1 := rfl
    have e2 : l.foldl (fun n t => n + tszN D t) 0 = l.foldl (fun n t => n + tszN d t) 0 := foldl_congr1 _ _ l (fun x hx => tsz_dp (h x hx) D (by omega)) 0
    rw [e, e2, foldl_add (tszN d) l 1]
    omega
theorem len_meas {d : Nat} : ∀ {st : List (Tm × Tm)}, (∀ x ∈ st, Dp d x.1) → st.length ≤ meas d st
  | [], _ => Nat.le_refl _
  | x :: st, h => by
    have h1 := tsz_pos (h x (by simp))
    have h2 := len_meas (st := st) fun y hy => h y (by simp [hy])
    rw [meas_cons, List.length_cons]
    omega
/-- What Match says of the pairs that are to be gone through, where so much is put. -/
inductive Mt : List (Tm × Tm) → (ByteArray → Option Tm) → Bool → Prop
  | done {P : ByteArray → Option Tm} : Mt [] P true
  | old {p n : ByteArray} {N : Int} {l : List Tm} {s : Tm} {rest : List (Tm × Tm)} {P : ByteArray → Option Tm} {r : Bool} : P n = some s → Mt rest P r → Mt ((.mk 1 p n N l, s) :: rest) P r
  | clash {p n : ByteArray} {N : Int} {l : List Tm} {s y : Tm} {rest : List (Tm × Tm)} {P : ByteArray → Option Tm} : P n = some y → y ≠ s → Mt ((.mk 1 p n N l, s) :: rest) P false
  | new {p n : ByteArray} {N : Int} {l : List Tm} {s : Tm} {rest : List (Tm × Tm)} {P : ByteArray → Option Tm} {r : Bool} : P n = none → Mt rest (upV P n s) r → Mt ((.mk 1 p n N l, s) :: rest) P r
  | differ {k k2 N N2 : Int} {p n p2 n2 : ByteArray} {l m : List Tm} {rest : List (Tm × Tm)} {P : ByteArray → Option Tm} : k ≠ 1 → ¬ (k = k2 ∧ p = p2 ∧ n = n2 ∧ N = N2 ∧ l.length = m.length) → Mt ((.mk k p n N l, .mk k2 p2 n2 N2 m) :: rest) P false
  | go {k N : Int} {p n : ByteArray} {l m : List Tm} {rest : List (Tm × Tm)} {P : ByteArray → Option Tm} {r : Bool} : k ≠ 1 → l.length = m.length → Mt ((l.zip m).reverse ++ rest) P r → Mt ((.mk k p n N l, .mk k p n N m) :: rest) P r
theorem Mt.det {st : List (Tm × Tm)} {P : ByteArray → Option Tm} {r : Bool} (h : Mt st P r) : ∀ {r' : Bool}, Mt st P r' → r = r' := by
  induction h with
  | done => intro r' h; cases h; rfl
  | old h1 h2 ih =>
    intro r' h
    cases h with
    | old h3 h4 => exact ih h4
    | clash h3 h4 => rw [h1] at h3; exact absurd (Option.some.inj h3).symm h4
    | new h3 h4 => rw [h1] at h3; cases h3
    | differ h3 _ => exact absurd rfl h3
    | go h3 _ _ => exact absurd rfl h3
  | clash h1 h2 =>
    intro r' h
    cases h with
    | old h3 h4 => rw [h1] at h3; exact absurd (Option.some.inj h3) h2
    | clash h3 h4 => rfl
    | new h3 h4 => rw [h1] at h3; cases h3
    | differ h3 _ => rfl
    | go h3 _ _ => exact absurd rfl h3
  | new h1 h2 ih =>
    intro r' h
    cases h with
    | old h3 h4 => rw [h1] at h3; cases h3
    | clash h3 h4 => rw [h1] at h3; cases h3
    | new h3 h4 => exact ih h4
    | differ h3 _ => exact absurd rfl h3
    | go h3 _ _ => exact absurd rfl h3
  | differ h1 h2 =>
    intro r' h
    cases h with
    | old => exact absurd rfl h1
    | clash => rfl
    | new => exact absurd rfl h1
    | differ => rfl
    | go h3 h4 _ => exact absurd ⟨rfl, rfl, rfl, rfl, h4⟩ h2
  | go h1 h2 h5 ih =>
    intro r' h
    cases h with
    | old => exact absurd rfl h1
    | clash => exact absurd rfl h1
    | new => exact absurd rfl h1
    | differ _ h4 => exact absurd ⟨rfl, rfl, rfl, rfl, h2⟩ h4
    | go _ _ h6 => exact ih h6
/-- Types of one kind and name: as their parts, as tuples. -/
theorem Mt.parts {k : Int} {p n e : ByteArray} {la lb : List Tm} {P : ByteArray → Option Tm} {r r' : Bool} (hk : k ≠ 1) (h : Mt [(.mk k p n 0 la, .mk k p n 0 lb)] P r) (h' : Mt [(.mk 4 e e 0 la, .mk 4 e e 0 lb)] P r') : r = r' := by
  by_cases hl : la.length = lb.length
  · cases h with
    | old => exact absurd rfl hk
    | clash => exact absurd rfl hk
    | new => exact absurd rfl hk
    | differ _ h4 => exact absurd ⟨rfl, rfl, rfl, rfl, hl⟩ h4
    | go _ _ h6 => exact (Mt.go (by decide) hl h6).det h'
  · exact (Mt.differ hk (fun h => hl h.2.2.2.2)).det h |>.symm.trans ((Mt.differ (by decide) fun h => hl h.2.2.2.2).det h')
theorem least (P : Nat → Prop) (h : ∃ n, P n) : ∃ n, P n ∧ ∀ m, P m → n ≤ m := by
  obtain ⟨n, hn⟩ := h
  induction n using Nat.strongRecOn with
  | _ n ih =>
    by_cases h2 : ∃ m, m < n ∧ P m
    · obtain ⟨m, hm, hp⟩ := h2
      exact ih m hm hp
    · exact ⟨n, hn, fun m hm => by
        rcases Nat.lt_or_ge m n with h3 | h3
        · exact absurd ⟨m, h3, hm⟩ h2
        · exact h3⟩
open Classical in
/-- The least number of which something holds. -/
noncomputable def leastN (P : Nat → Prop) : Nat := if h : ∃ n, P n then Classical.choose (least P h) else 0
theorem leastN_is {P : Nat → Prop} (h : ∃ n, P n) : P (leastN P) := by
  unfold leastN
  rw [dif_pos h]
  exact (Classical.choose_spec (least P h)).1
theorem leastN_le {P : Nat → Prop} {n : Nat} (h : P n) : leastN P ≤ n := by
  have h0 : ∃ n, P n := ⟨n, h⟩
  unfold leastN
  rw [dif_pos h0]
  exact (Classical.choose_spec (least P h0)).2 n h
end Go.Proofs.YtknbhnicmgglbaaDoor
