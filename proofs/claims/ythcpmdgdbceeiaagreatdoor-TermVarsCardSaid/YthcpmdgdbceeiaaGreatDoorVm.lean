/- How large a type is into which others are put, and which variables it has (mathematics). -/
import Derived.Test.YthcpmdgdbceeiaaGreatDoorUf
namespace Go.Proofs.YthcpmdgdbceeiaaGreatDoor
open Go.RowKit
theorem sub_none {σ : ByteArray → Option Tm} (h : ∀ n, σ n = none) : ∀ (d : Nat) (t : Tm), sub σ d t = t := by
  intro d
  induction d with
  | zero => intro t; rfl
  | succ d ih =>
    intro t
    obtain ⟨k, p, n, N, kids⟩ := t
    rw [sub_no (by split <;> simp [h])]
    congr 1
    exact (List.map_congr_left fun x _ => ih x).trans (List.map_id kids)
theorem tszN_pos {d : Nat} {t : Tm} (h : Dp d t) : 1 ≤ tszN d t := by
  cases d with
  | zero => cases h
  | succ d =>
    obtain ⟨k, p, n, N, kids⟩ := t
    show 1 ≤ kids.foldl (fun n t => n + tszN d t) 1
    rw [foldl_add]; omega
theorem fold_le {f g : Tm → Nat} {l : List Tm} (h : ∀ x ∈ l, f x ≤ g x) : l.foldl (fun n t => n + f t) 0 ≤ l.foldl (fun n t => n + g t) 0 := by
  induction l with
  | nil => exact Nat.le_refl _
  | cons x l ih =>
    rw [List.foldl_cons, List.foldl_cons, foldl_add f, foldl_add g]
    have := h x (by simp)
    have := ih fun y hy => h y (by simp [hy])
    omega
theorem fold_mul {f : Tm → Nat} (K : Nat) (l : List Tm) : l.foldl (fun n t => n + K * f t) 0 = K * l.foldl (fun n t => n + f t) 0 := by
  induction l with
  | nil => rfl
  | cons x l ih =>
    rw [List.foldl_cons, List.foldl_cons, foldl_add (fun t => K * f t), foldl_add f, ih, Nat.mul_add, Nat.zero_add, Nat.zero_add]
theorem fold_map {f : Tm → Nat} (F : Tm → Tm) (l : List Tm) : (l.map F).foldl (fun n t => n + f t) 0 = l.foldl (fun n t => n + f (F t)) 0 := by
  rw [List.foldl_map]
theorem mem_fold {f : Tm → Nat} {l : List Tm} {x : Tm} (h : x ∈ l) : f x ≤ l.foldl (fun n t => n + f t) 0 := by
  induction l with
  | nil => cases h
  | cons y l ih =>
    rw [List.foldl_cons, foldl_add f]
    rcases List.mem_cons.1 h with rfl | h
    · omega
    · have := ih h; omega
theorem tszN_le : ∀ {d : Nat} {t : Tm}, Dp d t → ∀ D, tszN D t ≤ tszN d t := by
  intro d
  induction d with
  | zero => intro t h; cases h
  | succ d ih =>
    intro t h D
    cases D with
    | zero => exact Nat.zero_le _
    | succ D =>
      obtain ⟨k, p, n, N, kids⟩ := t
      show kids.foldl (fun n t => n + tszN D t) 1 ≤ kids.foldl (fun n t => n + tszN d t) 1
      rw [foldl_add, foldl_add (tszN d)]
      have := fold_le (f := tszN D) (g := tszN d) (l := kids) fun x hx => ih (h x hx) D
      omega
theorem tszN_sub {σ : ByteArray → Option Tm} {K : Nat} (hK : 1 ≤ K) (hσ : ∀ n y, σ n = some y → ∀ D, tszN D y ≤ K) : ∀ {d : Nat} {t : Tm}, Dp d t → ∀ D, tszN D (sub σ d t) ≤ K * tszN d t := by
  intro d
  induction d with
  | zero => intro t h; cases h
  | succ d ih =>
    intro t h D
    have hp := tszN_pos h
    obtain ⟨k, p, n, N, kids⟩ := t
    cases e : (if k = 1 then σ n else none) with
    | some y =>
      by_cases hk : k = 1
      · subst hk
        rw [if_pos rfl] at e
        rw [sub_yes e]
        exact Nat.le_trans (hσ n y e D) (Nat.le_mul_of_pos_right K hp)
      · rw [if_neg hk] at e; cases e
    | none =>
      rw [sub_no e]
      cases D with
      | zero => exact Nat.zero_le _
      | succ D =>
        show (kids.map (sub σ d)).foldl (fun n t => n + tszN D t) 1 ≤ K * kids.foldl (fun n t => n + tszN d t) 1
        rw [foldl_add, foldl_add (tszN d), fold_map, Nat.mul_add]
        have h1 := fold_le (f := fun t => tszN D (sub σ d t)) (g := fun t => K * tszN d t) (l := kids) fun x hx => ih (h x hx) D
        rw [fold_mul] at h1
        omega
/-- A term has a variable. -/
def hasV : Nat → Tm → ByteArray → Prop
  | 0, _, _ => False
  | d + 1, .mk k _ n _ kids, v => (k = 1 ∧ n = v) ∨ ∃ x ∈ kids, hasV d x v
theorem inN_put {v n : ByteArray} {ns : List ByteArray} {k : Int} : inN v (put1 ns k n) = true ↔ inN v ns = true ∨ (k = 1 ∧ n = v) := by
  unfold put1
  by_cases h : k = 1 ∧ inN n ns = false
  · rw [if_pos h, inN_snoc]
    simp only [Bool.or_eq_true, decide_eq_true_eq]
    constructor
    · rintro (rfl | e)
      · exact .inr ⟨h.1, rfl⟩
      · exact .inl e
    · rintro (e | ⟨_, rfl⟩)
      · exact .inr e
      · exact .inl rfl
  · rw [if_neg h]
    constructor
    · exact .inl
    · rintro (e | ⟨rfl, rfl⟩)
      · exact e
      · cases hn : inN n ns with
        | true => rfl
        | false => exact absurd ⟨rfl, hn⟩ h
theorem inN_foldV {d : Nat} {v : ByteArray} (h : ∀ (ns : List ByteArray) (t : Tm), inN v (varsT d ns t) = true ↔ inN v ns = true ∨ hasV d t v) : ∀ (l : List Tm) (ns : List ByteArray), inN v (l.foldl (varsT d) ns) = true ↔ inN v ns = true ∨ ∃ x ∈ l, hasV d x v := by
  intro l
  induction l with
  | nil => intro ns; simp
  | cons x l ih =>
    intro ns
    rw [List.foldl_cons, ih, h]
    simp only [List.mem_cons, exists_eq_or_imp, or_assoc]
theorem inN_varsT {v : ByteArray} : ∀ (d : Nat) (ns : List ByteArray) (t : Tm), inN v (varsT d ns t) = true ↔ inN v ns = true ∨ hasV d t v := by
  intro d
  induction d with
  | zero => intro ns t; exact ⟨.inl, fun h => h.elim id fun h => h.elim⟩
  | succ d ih =>
    intro ns t
    obtain ⟨k, p, n, N, kids⟩ := t
    show inN v (kids.foldl (varsT d) (put1 ns k n)) = true ↔ _
    rw [inN_foldV ih, inN_put, or_assoc]
    rfl
theorem hasV_le {v : ByteArray} : ∀ {d : Nat} {t : Tm}, Dp d t → ∀ D, hasV D t v → hasV d t v := by
  intro d
  induction d with
  | zero => intro t h; cases h
  | succ d ih =>
    intro t h D hv
    cases D with
    | zero => cases hv
    | succ D =>
      obtain ⟨k, p, n, N, kids⟩ := t
      rcases hv with hv | ⟨x, hx, hv⟩
      · exact .inl hv
      · exact .inr ⟨x, hx, ih (h x hx) D hv⟩
theorem hasV_sub {σ : ByteArray → Option Tm} {v : ByteArray} : ∀ {d : Nat} {t : Tm}, Dp d t → ∀ D, hasV D (sub σ d t) v → hasV d t v ∨ ∃ n y E, σ n = some y ∧ hasV E y v := by
  intro d
  induction d with
  | zero => intro t h; cases h
  | succ d ih =>
    intro t h D hv
    obtain ⟨k, p, n, N, kids⟩ := t
    cases e : (if k = 1 then σ n else none) with
    | some y =>
      by_cases hk : k = 1
      · subst hk
        rw [if_pos rfl] at e
        rw [sub_yes e] at hv
        exact .inr ⟨n, y, D, e, hv⟩
      · rw [if_neg hk] at e; cases e
    | none =>
      rw [sub_no e] at hv
      cases D with
      | zero => cases hv
      | succ D =>
        rcases hv with hv | ⟨x, hx, hv⟩
        · exact .inl (.inl hv)
        · obtain ⟨z, hz, rfl⟩ := List.mem_map.1 hx
          rcases ih (h z hz) D hv with h1 | h1
          · exact .inl (.inr ⟨z, hz, h1⟩)
          · exact .inr h1
theorem inN_mem {v : ByteArray} {ns : List ByteArray} (h : v ∈ ns) : inN v ns = true := by
  unfold inN
  exact List.any_eq_true.2 ⟨v, h, by simp⟩
theorem byOf_mem {g : ByteArray → Option Int} {bys : List Tm} {n : ByteArray} {y : Tm} (h : byOf g bys n = some y) : y ∈ bys := by
  unfold byOf at h
  cases e : g n with
  | none => rw [e] at h; cases h
  | some i => rw [e] at h; exact List.mem_of_getElem? h
/-- What is put there is all that is new. -/
theorem vars_new {e d D : Nat} {g : ByteArray → Option Int} {bys : List Tm} {t : Tm} (ht : Dp d t) (hb : ∀ y ∈ bys, Dp e y) {v : ByteArray} (hv : v ∈ varsT D [] (sub (byOf g bys) d t)) : inN v (varsT d [] t) = true ∨ inN v (bys.foldl (varsT e) []) = true := by
  rcases (inN_varsT D [] _).1 (inN_mem hv) with h | h
  · cases h
  · rcases hasV_sub ht D h with h | ⟨n, y, E, h1, h2⟩
    · exact .inl ((inN_varsT d [] t).2 (.inr h))
    · have hy := byOf_mem h1
      exact .inr ((inN_foldV (fun ns t => inN_varsT e ns t) bys []).2 (.inr ⟨y, hy, hasV_le (hb y hy) E h2⟩))
end Go.Proofs.YthcpmdgdbceeiaaGreatDoor
