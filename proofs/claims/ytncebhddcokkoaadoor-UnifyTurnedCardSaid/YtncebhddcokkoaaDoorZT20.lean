/- Texts in a row: U7 U8 Vm. -/
import Derived.Test.YtncebhddcokkoaaDoorZT16
import Derived.Deep.DeepCutAuto
import Derived.Outline
import Derived.Test.YtncebhddcokkoaaDoorZT12
import Derived.Test.YtncebhddcokkoaaDoorZT14
/- The closure that puts types in the place of variables. -/
namespace Go.Proofs.YtncebhddcokkoaaDoor
open Go.RowKit
/-- A type with others in the place of some variables. -/
def sub (σ : ByteArray → Option Tm) : Nat → Tm → Tm
  | 0, t => t
  | d + 1, .mk k p n N kids => match (if k = 1 then σ n else none) with
    | some t => t
    | none => .mk k p n N (kids.map (sub σ d))
theorem sub_no {σ : ByteArray → Option Tm} {d : Nat} {k : Int} {p n : ByteArray} {N : Int} {kids : List Tm} (h : (if k = 1 then σ n else none) = none) : sub σ (d + 1) (.mk k p n N kids) = .mk k p n N (kids.map (sub σ d)) := by unfold sub; rw [h]
theorem sub_yes {σ : ByteArray → Option Tm} {d : Nat} {p n : ByteArray} {N : Int} {kids : List Tm} {t : Tm} (h : σ n = some t) : sub σ (d + 1) (.mk 1 p n N kids) = t := by unfold sub; rw [if_pos rfl, h]
def byOf (g : ByteArray → Option Int) (bys : List Tm) (n : ByteArray) : Option Tm := (g n).bind fun i => bys[i.toNat]?
theorem IsX.more {X : Nat → Prop} {w : World} {d d' : Nat} (hd : d ≤ d') : ∀ {v : Value} {x : Tm}, IsX X w d v x → IsX X w d' v x := by
  induction d generalizing d' with
  | zero => intro v x h; cases h
  | succ d ih =>
    intro v x h
    obtain ⟨d', rfl⟩ : ∃ m, d' = m + 1 := ⟨d' - 1, by omega⟩
    obtain ⟨k, p, n, N, kids⟩ := x
    obtain ⟨q, c, h1, h2, h3, h4, h5⟩ := h
    refine ⟨q, c, h1, h2, h3, h4, fun i y hy => ?_⟩
    obtain ⟨b, o, k', p', n', N', s', e, hX, ha, ht⟩ := h5 i y hy
    exact ⟨b, o, k', p', n', N', s', e, hX, ha, ih (by omega) ht⟩
theorem IsX.mk {X : Nat → Prop} {w : World} {d : Nat} {k N : Int} {p n : ByteArray} {q : Option Addr} {c : Nat} {kids : List Tm} (hp : p.size ≤ maxLen) (hn : n.size ≤ maxLen) (h : KidsX X w d (.slice q kids.length c) kids) : IsX X w (d + 1) (tv k p n N (.slice q kids.length c)) (.mk k p n N kids) := by
  obtain ⟨q4, c4, e4, h4, h5⟩ := h
  exact ⟨q4, c4, by rw [e4], hp, hn, h4, h5⟩
/-- What the closure has. -/
structure PutSt (w : World) (Bm Bb Bp M m : Nat) (g : ByteArray → Option Int) (qb : Option Addr) (cb e : Nat) (bys : List Tm) : Prop where
  met : w.heap[Bm]? = some (.cells #[.map (some M)] 83 (0, 0))
  by_ : w.heap[Bb]? = some (.cells #[.slice qb bys.length cb] 34 (0, 0))
  put : w.heap[Bp]? = some (.cells #[.func (.func 90) #[] #[.pointer (some ⟨Bm, 0, none⟩), .pointer (some ⟨Bb, 0, none⟩), .pointer (some ⟨Bp, 0, none⟩)]] 50 (0, 0))
  kids : KidsT w e (.slice qb bys.length cb) bys
  map : PMap w M m g
  pos : ∀ s i, g s = some i → 0 ≤ i
  small : ∀ x ∈ bys, Sm e x
theorem PutSt.below {w w' : World} {Bm Bb Bp M m : Nat} {g : ByteArray → Option Int} {qb : Option Addr} {cb e : Nat} {bys : List Tm} (h : PutSt w Bm Bb Bp M m g qb cb e bys) (hb : Below w.heap.size w w') : PutSt w' Bm Bb Bp M m g qb cb e bys :=
  ⟨hb_below h.met hb (hb_lt h.met), hb_below h.by_ hb (hb_lt h.by_), hb_below h.put hb (hb_lt h.put), h.kids.below hb, h.map.below hb, h.pos, h.small⟩
end Go.Proofs.YtncebhddcokkoaaDoor
/- Types put in the place of variables, whole. -/
namespace Go.Proofs.YtncebhddcokkoaaDoor
open Go.RowKit
/-- Where each text first stands among the first. -/
def fg (names : List ByteArray) : Nat → ByteArray → Option Int
  | 0, _ => none
  | k + 1, t => match fg names k t with
    | some i => some i
    | none => if names[k]? = some t then some (k : Int) else none
structure SubSt (w wr : World) (k : Int) (p n : ByteArray) (N : Int) (q : Option Addr) (ln c : Nat) (qb : Option Addr) (lb cb : Nat) (m : Nat) (g : ByteArray → Option Int) : Prop where
  t : wr.heap[w.heap.size]? = some (.cells #[.int .i64 k, .string p, .string n, .int .i64 N, .slice q ln c] 36 (0, 0))
  y : wr.heap[w.heap.size + 1]? = some (.cells #[.slice qb lb cb] 34 (0, 0))
  r : wr.heap[w.heap.size + 1 + 1]? = some (.cells #[.int .i64 0, .string ⟨#[]⟩, .string ⟨#[]⟩, .int .i64 0, .slice none 0 0] 36 (0, 0))
  f : wr.heap[w.heap.size + 1 + 1 + 1 + 1]? = some (.cells #[.map (some (w.heap.size + 1 + 1 + 1))] 83 (0, 0))
  m : PMap wr (w.heap.size + 1 + 1 + 1) m g
  b : Below w.heap.size w wr
theorem SubSt.turned {w wr w' : World} {k : Int} {p n : ByteArray} {N : Int} {q : Option Addr} {ln c : Nat} {qb : Option Addr} {lb cb : Nat} {m m' : Nat} {g g' : ByteArray → Option Int} (h : SubSt w wr k p n N q ln c qb lb cb m g) (ht : wr.mapTurned w' (w.heap.size + 1 + 1 + 1)) (hp : PMap w' (w.heap.size + 1 + 1 + 1) m' g') : SubSt w w' k p n N q ln c qb lb cb m' g' :=
  ⟨hb_grown h.t ht.grown (by simp; omega), hb_grown h.y ht.grown (by simp), hb_grown h.r ht.grown (by simp), hb_grown h.f ht.grown (by simp), hp, turned_below h.b (Nat.le_refl _) ht (by omega)⟩
end Go.Proofs.YtncebhddcokkoaaDoor
/- How large a type is into which others are put, and which variables it has (mathematics). -/
namespace Go.Proofs.YtncebhddcokkoaaDoor
open Go.RowKit
theorem sub_sm {σ : ByteArray → Option Tm} (hσ : ∀ n y, σ n = some y → ∀ d', Sm d' y) : ∀ {d : Nat} {t : Tm}, Dp d t → Sm d t → ∀ d', Sm d' (sub σ d t) := by
  intro d
  induction d with
  | zero => intro t h; cases h
  | succ d ih =>
    intro t hd hs d'
    obtain ⟨k, p, n, N, kids⟩ := t
    cases e : (if k = 1 then σ n else none) with
    | some y =>
      by_cases hk : k = 1
      · subst hk
        rw [if_pos rfl] at e
        rw [sub_yes e]
        exact hσ n y e d'
      · rw [if_neg hk] at e; cases e
    | none =>
      rw [sub_no e]
      cases d' with
      | zero => trivial
      | succ d' =>
        refine ⟨by rw [List.length_map]; exact hs.1, fun x hx => ?_⟩
        obtain ⟨z, hz, rfl⟩ := List.mem_map.1 hx
        exact ih (hd z hz) (hs.2 z hz) d'
theorem sub_none {σ : ByteArray → Option Tm} (h : ∀ n, σ n = none) : ∀ (d : Nat) (t : Tm), sub σ d t = t := by
  intro d
  induction d with
  | zero => intro t; rfl
  | succ d ih =>
    intro t
    obtain ⟨k, p, n, N, kids⟩ := t
    rw [sub_no (by split <;> simp [h])]
    congr 1
    exact (List.map_congr_left fun x _ => ih x).trans (List.map_id kids)
theorem tszN_pos {d : Nat} {t : Tm} (h : Dp d t) : 1 ≤ tszN d t := by
  cases d with
  | zero => cases h
  | succ d =>
    obtain ⟨k, p, n, N, kids⟩ := t
    show 1 ≤ kids.foldl (fun n t => n + tszN d t) 1
    rw [foldl_add]; omega
theorem fold_le {f g : Tm → Nat} {l : List Tm} (h : ∀ x ∈ l, f x ≤ g x) : l.foldl (fun n t => n + f t) 0 ≤ l.foldl (fun n t => n + g t) 0 := by
  induction l with
  | nil => exact Nat.le_refl _
  | cons x l ih =>
    rw [List.foldl_cons, List.foldl_cons, foldl_add f, foldl_add g]
    have := h x (by simp)
    have := ih fun y hy => h y (by simp [hy])
    omega
theorem fold_mul {f : Tm → Nat} (K : Nat) (l : List Tm) : l.foldl (fun n t => n + K * f t) 0 = K * l.foldl (fun n t => n + f t) 0 := by
  induction l with
  | nil => rfl
  | cons x l ih =>
    rw [List.foldl_cons, List.foldl_cons, foldl_add (fun t => K * f t), foldl_add f, ih, Nat.mul_add, Nat.zero_add, Nat.zero_add]
theorem fold_map {f : Tm → Nat} (F : Tm → Tm) (l : List Tm) : (l.map F).foldl (fun n t => n + f t) 0 = l.foldl (fun n t => n + f (F t)) 0 := by
  rw [List.foldl_map]
theorem tszN_le : ∀ {d : Nat} {t : Tm}, Dp d t → ∀ D, tszN D t ≤ tszN d t := by
  intro d
  induction d with
  | zero => intro t h; cases h
  | succ d ih =>
    intro t h D
    cases D with
    | zero => exact Nat.zero_le _
    | succ D =>
      obtain ⟨k, p, n, N, kids⟩ := t
      show kids.foldl (fun n t => n + tszN D t) 1 ≤ kids.foldl (fun n t => n + tszN d t) 1
      rw [foldl_add, foldl_add (tszN d)]
      have := fold_le (f := tszN D) (g := tszN d) (l := kids) fun x hx => ih (h x hx) D
      omega
theorem tszN_sub {σ : ByteArray → Option Tm} {K : Nat} (hK : 1 ≤ K) (hσ : ∀ n y, σ n = some y → ∀ D, tszN D y ≤ K) : ∀ {d : Nat} {t : Tm}, Dp d t → ∀ D, tszN D (sub σ d t) ≤ K * tszN d t := by
  intro d
  induction d with
  | zero => intro t h; cases h
  | succ d ih =>
    intro t h D
    have hp := tszN_pos h
    obtain ⟨k, p, n, N, kids⟩ := t
    cases e : (if k = 1 then σ n else none) with
    | some y =>
      by_cases hk : k = 1
      · subst hk
        rw [if_pos rfl] at e
        rw [sub_yes e]
        exact Nat.le_trans (hσ n y e D) (Nat.le_mul_of_pos_right K hp)
      · rw [if_neg hk] at e; cases e
    | none =>
      rw [sub_no e]
      cases D with
      | zero => exact Nat.zero_le _
      | succ D =>
        show (kids.map (sub σ d)).foldl (fun n t => n + tszN D t) 1 ≤ K * kids.foldl (fun n t => n + tszN d t) 1
        rw [foldl_add, foldl_add (tszN d), fold_map, Nat.mul_add]
        have h1 := fold_le (f := fun t => tszN D (sub σ d t)) (g := fun t => K * tszN d t) (l := kids) fun x hx => ih (h x hx) D
        rw [fold_mul] at h1
        omega
/-- A term has a variable. -/
def hasV : Nat → Tm → ByteArray → Prop
  | 0, _, _ => False
  | d + 1, .mk k _ n _ kids, v => (k = 1 ∧ n = v) ∨ ∃ x ∈ kids, hasV d x v
theorem inN_put {v n : ByteArray} {ns : List ByteArray} {k : Int} : inN v (put1 ns k n) = true ↔ inN v ns = true ∨ (k = 1 ∧ n = v) := by
  unfold put1
  by_cases h : k = 1 ∧ inN n ns = false
  · rw [if_pos h, inN_snoc]
    simp only [Bool.or_eq_true, decide_eq_true_eq]
    constructor
    · rintro (rfl | e)
      · exact .inr ⟨h.1, rfl⟩
      · exact .inl e
    · rintro (e | ⟨_, rfl⟩)
      · exact .inr e
      · exact .inl rfl
  · rw [if_neg h]
    constructor
    · exact .inl
    · rintro (e | ⟨rfl, rfl⟩)
      · exact e
      · cases hn : inN n ns with
        | true => rfl
        | false => exact absurd ⟨rfl, hn⟩ h
theorem inN_foldV {d : Nat} {v : ByteArray} (h : ∀ (ns : List ByteArray) (t : Tm), inN v (varsT d ns t) = true ↔ inN v ns = true ∨ hasV d t v) : ∀ (l : List Tm) (ns : List ByteArray), inN v (l.foldl (varsT d) ns) = true ↔ inN v ns = true ∨ ∃ x ∈ l, hasV d x v := by
  intro l
  induction l with
  | nil => intro ns; simp
  | cons x l ih =>
    intro ns
    rw [List.foldl_cons, ih, h]
    simp only [List.mem_cons, exists_eq_or_imp, or_assoc]
theorem inN_varsT {v : ByteArray} : ∀ (d : Nat) (ns : List ByteArray) (t : Tm), inN v (varsT d ns t) = true ↔ inN v ns = true ∨ hasV d t v := by
  intro d
  induction d with
  | zero => intro ns t; exact ⟨.inl, fun h => h.elim id fun h => h.elim⟩
  | succ d ih =>
    intro ns t
    obtain ⟨k, p, n, N, kids⟩ := t
    show inN v (kids.foldl (varsT d) (put1 ns k n)) = true ↔ _
    rw [inN_foldV ih, inN_put, or_assoc]
    rfl
theorem hasV_le {v : ByteArray} : ∀ {d : Nat} {t : Tm}, Dp d t → ∀ D, hasV D t v → hasV d t v := by
  intro d
  induction d with
  | zero => intro t h; cases h
  | succ d ih =>
    intro t h D hv
    cases D with
    | zero => cases hv
    | succ D =>
      obtain ⟨k, p, n, N, kids⟩ := t
      rcases hv with hv | ⟨x, hx, hv⟩
      · exact .inl hv
      · exact .inr ⟨x, hx, ih (h x hx) D hv⟩
theorem hasV_sub {σ : ByteArray → Option Tm} {v : ByteArray} : ∀ {d : Nat} {t : Tm}, Dp d t → ∀ D, hasV D (sub σ d t) v → hasV d t v ∨ ∃ n y E, σ n = some y ∧ hasV E y v := by
  intro d
  induction d with
  | zero => intro t h; cases h
  | succ d ih =>
    intro t h D hv
    obtain ⟨k, p, n, N, kids⟩ := t
    cases e : (if k = 1 then σ n else none) with
    | some y =>
      by_cases hk : k = 1
      · subst hk
        rw [if_pos rfl] at e
        rw [sub_yes e] at hv
        exact .inr ⟨n, y, D, e, hv⟩
      · rw [if_neg hk] at e; cases e
    | none =>
      rw [sub_no e] at hv
      cases D with
      | zero => cases hv
      | succ D =>
        rcases hv with hv | ⟨x, hx, hv⟩
        · exact .inl (.inl hv)
        · obtain ⟨z, hz, rfl⟩ := List.mem_map.1 hx
          rcases ih (h z hz) D hv with h1 | h1
          · exact .inl (.inr ⟨z, hz, h1⟩)
          · exact .inr h1
theorem inN_mem {v : ByteArray} {ns : List ByteArray} (h : v ∈ ns) : inN v ns = true := by
  unfold inN
  exact List.any_eq_true.2 ⟨v, h, by simp⟩
theorem byOf_mem {g : ByteArray → Option Int} {bys : List Tm} {n : ByteArray} {y : Tm} (h : byOf g bys n = some y) : y ∈ bys := by
  unfold byOf at h
  cases e : g n with
  | none => rw [e] at h; cases h
  | some i => rw [e] at h; exact List.mem_of_getElem? h
/-- What is put there is all that is new. -/
theorem vars_new {e d D : Nat} {g : ByteArray → Option Int} {bys : List Tm} {t : Tm} (ht : Dp d t) (hb : ∀ y ∈ bys, Dp e y) {v : ByteArray} (hv : v ∈ varsT D [] (sub (byOf g bys) d t)) : inN v (varsT d [] t) = true ∨ inN v (bys.foldl (varsT e) []) = true := by
  rcases (inN_varsT D [] _).1 (inN_mem hv) with h | h
  · cases h
  · rcases hasV_sub ht D h with h | ⟨n, y, E, h1, h2⟩
    · exact .inl ((inN_varsT d [] t).2 (.inr h))
    · have hy := byOf_mem h1
      exact .inr ((inN_foldV (fun ns t => inN_varsT e ns t) bys []).2 (.inr ⟨y, hy, hasV_le (hb y hy) E h2⟩))
end Go.Proofs.YtncebhddcokkoaaDoor
