/- Texts in a row: Na Vm Zm. -/
import Derived.Test.YtncebhddcokkoaaDoorZU11
import Derived.Test.YtncebhddcokkoaaDoorZU10
import Derived.Test.YtncebhddcokkoaaDoorZU7
import Derived.Test.YtncebhddcokkoaaDoorZU6
/- Names of variables, all that are wanted. -/
namespace Go.Proofs.YtncebhddcokkoaaDoor
open Go.RowKit
/-- A number's digits. -/
def digB (x : Nat) : ByteArray := if x < 10 then ⟨#[UInt8.ofNat (48 + x)]⟩ else ⟨#[UInt8.ofNat (48 + x / 10), UInt8.ofNat (48 + x % 10)]⟩
/-- The name of the i-th variable. -/
def nmB (i : Nat) : ByteArray := if i < 26 then Utf8.encode (97 + (i : Int) % 26) else Utf8.encode (97 + (i : Int) % 26) ++ digB (i / 26)
def decB (b : ByteArray) : Nat := match b.toList with
  | [a] => a.toNat - 97
  | [a, x] => a.toNat - 97 + 26 * (x.toNat - 48)
  | [a, x, y] => a.toNat - 97 + 26 * (10 * (x.toNat - 48) + (y.toNat - 48))
  | _ => 0
set_option maxRecDepth 100000 in
theorem dec_nm : ∀ i, i < 2600 → decB (nmB i) = i := by decide +kernel
theorem nm_inj {i j : Nat} (hi : i < 2600) (hj : j < 2600) (h : nmB i = nmB j) : i = j := by
  rw [← dec_nm i hi, h, dec_nm j hj]
end Go.Proofs.YtncebhddcokkoaaDoor
/- How large a type is into which others are put, and which variables it has (mathematics). -/
namespace Go.Proofs.YtncebhddcokkoaaDoor
open Go.RowKit
theorem sub_sm {σ : ByteArray → Option Tm} (hσ : ∀ n y, σ n = some y → ∀ d', Sm d' y) : ∀ {d : Nat} {t : Tm}, Dp d t → Sm d t → ∀ d', Sm d' (sub σ d t) := by
  intro d
  induction d with
  | zero => intro t h; cases h
  | succ d ih =>
    intro t hd hs d'
    obtain ⟨k, p, n, N, kids⟩ := t
    cases e : (if k = 1 then σ n else none) with
    | some y =>
      by_cases hk : k = 1
      · subst hk
        rw [if_pos rfl] at e
        rw [sub_yes e]
        exact hσ n y e d'
      · rw [if_neg hk] at e; cases e
    | none =>
      rw [sub_no e]
      cases d' with
      | zero => trivial
      | succ d' =>
        refine ⟨by rw [List.length_map]; exact hs.1, fun x hx => ?_⟩
        obtain ⟨z, hz, rfl⟩ := List.mem_map.1 hx
        exact ih (hd z hz) (hs.2 z hz) d'
theorem sub_none {σ : ByteArray → Option Tm} (h : ∀ n, σ n = none) : ∀ (d : Nat) (t : Tm), sub σ d t = t := by
  intro d
  induction d with
  | zero => intro t; rfl
  | succ d ih =>
    intro t
    obtain ⟨k, p, n, N, kids⟩ := t
    rw [sub_no (by split <;> simp [h])]
    congr 1
    exact (List.map_congr_left fun x _ => ih x).trans (List.map_id kids)
theorem tszN_pos {d : Nat} {t : Tm} (h : Dp d t) : 1 ≤ tszN d t := by
  cases d with
  | zero => cases h
  | succ d =>
    obtain ⟨k, p, n, N, kids⟩ := t
    show 1 ≤ kids.foldl (fun n t => n + tszN d t) 1
    rw [foldl_add]; omega
theorem fold_le {f g : Tm → Nat} {l : List Tm} (h : ∀ x ∈ l, f x ≤ g x) : l.foldl (fun n t => n + f t) 0 ≤ l.foldl (fun n t => n + g t) 0 := by
  induction l with
  | nil => exact Nat.le_refl _
  | cons x l ih =>
    rw [List.foldl_cons, List.foldl_cons, foldl_add f, foldl_add g]
    have := h x (by simp)
    have := ih fun y hy => h y (by simp [hy])
    omega
theorem fold_mul {f : Tm → Nat} (K : Nat) (l : List Tm) : l.foldl (fun n t => n + K * f t) 0 = K * l.foldl (fun n t => n + f t) 0 := by
  induction l with
  | nil => rfl
  | cons x l ih =>
    rw [List.foldl_cons, List.foldl_cons, foldl_add (fun t => K * f t), foldl_add f, ih, Nat.mul_add, Nat.zero_add, Nat.zero_add]
theorem fold_map {f : Tm → Nat} (F : Tm → Tm) (l : List Tm) : (l.map F).foldl (fun n t => n + f t) 0 = l.foldl (fun n t => n + f (F t)) 0 := by
  rw [List.foldl_map]
theorem tszN_le : ∀ {d : Nat} {t : Tm}, Dp d t → ∀ D, tszN D t ≤ tszN d t := by
  intro d
  induction d with
  | zero => intro t h; cases h
  | succ d ih =>
    intro t h D
    cases D with
    | zero => exact Nat.zero_le _
    | succ D =>
      obtain ⟨k, p, n, N, kids⟩ := t
      show kids.foldl (fun n t => n + tszN D t) 1 ≤ kids.foldl (fun n t => n + tszN d t) 1
      rw [foldl_add, foldl_add (tszN d)]
      have := fold_le (f := tszN D) (g := tszN d) (l := kids) fun x hx => ih (h x hx) D
      omega
theorem tszN_sub {σ : ByteArray → Option Tm} {K : Nat} (hK : 1 ≤ K) (hσ : ∀ n y, σ n = some y → ∀ D, tszN D y ≤ K) : ∀ {d : Nat} {t : Tm}, Dp d t → ∀ D, tszN D (sub σ d t) ≤ K * tszN d t := by
  intro d
  induction d with
  | zero => intro t h; cases h
  | succ d ih =>
    intro t h D
    have hp := tszN_pos h
    obtain ⟨k, p, n, N, kids⟩ := t
    cases e : (if k = 1 then σ n else none) with
    | some y =>
      by_cases hk : k = 1
      · subst hk
        rw [if_pos rfl] at e
        rw [sub_yes e]
        exact Nat.le_trans (hσ n y e D) (Nat.le_mul_of_pos_right K hp)
      · rw [if_neg hk] at e; cases e
    | none =>
      rw [sub_no e]
      cases D with
      | zero => exact Nat.zero_le _
      | succ D =>
        show (kids.map (sub σ d)).foldl (fun n t => n + tszN D t) 1 ≤ K * kids.foldl (fun n t => n + tszN d t) 1
        rw [foldl_add, foldl_add (tszN d), fold_map, Nat.mul_add]
        have h1 := fold_le (f := fun t => tszN D (sub σ d t)) (g := fun t => K * tszN d t) (l := kids) fun x hx => ih (h x hx) D
        rw [fold_mul] at h1
        omega
/-- A term has a variable. -/
def hasV : Nat → Tm → ByteArray → Prop
  | 0, _, _ => False
  | d + 1, .mk k _ n _ kids, v => (k = 1 ∧ n = v) ∨ ∃ x ∈ kids, hasV d x v
theorem inN_put {v n : ByteArray} {ns : List ByteArray} {k : Int} : inN v (put1 ns k n) = true ↔ inN v ns = true ∨ (k = 1 ∧ n = v) := by
  unfold put1
  by_cases h : k = 1 ∧ inN n ns = false
  · rw [if_pos h, inN_snoc]
    simp only [Bool.or_eq_true, decide_eq_true_eq]
    constructor
    · rintro (rfl | e)
      · exact .inr ⟨h.1, rfl⟩
      · exact .inl e
    · rintro (e | ⟨_, rfl⟩)
      · exact .inr e
      · exact .inl rfl
  · rw [if_neg h]
    constructor
    · exact .inl
    · rintro (e | ⟨rfl, rfl⟩)
      · exact e
      · cases hn : inN n ns with
        | true => rfl
        | false => exact absurd ⟨rfl, hn⟩ h
theorem inN_foldV {d : Nat} {v : ByteArray} (h : ∀ (ns : List ByteArray) (t : Tm), inN v (varsT d ns t) = true ↔ inN v ns = true ∨ hasV d t v) : ∀ (l : List Tm) (ns : List ByteArray), inN v (l.foldl (varsT d) ns) = true ↔ inN v ns = true ∨ ∃ x ∈ l, hasV d x v := by
  intro l
  induction l with
  | nil => intro ns; simp
  | cons x l ih =>
    intro ns
    rw [List.foldl_cons, ih, h]
    simp only [List.mem_cons, exists_eq_or_imp, or_assoc]
theorem inN_varsT {v : ByteArray} : ∀ (d : Nat) (ns : List ByteArray) (t : Tm), inN v (varsT d ns t) = true ↔ inN v ns = true ∨ hasV d t v := by
  intro d
  induction d with
  | zero => intro ns t; exact ⟨.inl, fun h => h.elim id fun h => h.elim⟩
  | succ d ih =>
    intro ns t
    obtain ⟨k, p, n, N, kids⟩ := t
    show inN v (kids.foldl (varsT d) (put1 ns k n)) = true ↔ _
    rw [inN_foldV ih, inN_put, or_assoc]
    rfl
theorem hasV_le {v : ByteArray} : ∀ {d : Nat} {t : Tm}, Dp d t → ∀ D, hasV D t v → hasV d t v := by
  intro d
  induction d with
  | zero => intro t h; cases h
  | succ d ih =>
    intro t h D hv
    cases D with
    | zero => cases hv
    | succ D =>
      obtain ⟨k, p, n, N, kids⟩ := t
      rcases hv with hv | ⟨x, hx, hv⟩
      · exact .inl hv
      · exact .inr ⟨x, hx, ih (h x hx) D hv⟩
theorem hasV_sub {σ : ByteArray → Option Tm} {v : ByteArray} : ∀ {d : Nat} {t : Tm}, Dp d t → ∀ D, hasV D (sub σ d t) v → hasV d t v ∨ ∃ n y E, σ n = some y ∧ hasV E y v := by
  intro d
  induction d with
  | zero => intro t h; cases h
  | succ d ih =>
    intro t h D hv
    obtain ⟨k, p, n, N, kids⟩ := t
    cases e : (if k = 1 then σ n else none) with
    | some y =>
      by_cases hk : k = 1
      · subst hk
        rw [if_pos rfl] at e
        rw [sub_yes e] at hv
        exact .inr ⟨n, y, D, e, hv⟩
      · rw [if_neg hk] at e; cases e
    | none =>
      rw [sub_no e] at hv
      cases D with
      | zero => cases hv
      | succ D =>
        rcases hv with hv | ⟨x, hx, hv⟩
        · exact .inl (.inl hv)
        · obtain ⟨z, hz, rfl⟩ := List.mem_map.1 hx
          rcases ih (h z hz) D hv with h1 | h1
          · exact .inl (.inr ⟨z, hz, h1⟩)
          · exact .inr h1
theorem inN_mem {v : ByteArray} {ns : List ByteArray} (h : v ∈ ns) : inN v ns = true := by
  unfold inN
  exact List.any_eq_true.2 ⟨v, h, by simp⟩
theorem byOf_mem {g : ByteArray → Option Int} {bys : List Tm} {n : ByteArray} {y : Tm} (h : byOf g bys n = some y) : y ∈ bys := by
  unfold byOf at h
  cases e : g n with
  | none => rw [e] at h; cases h
  | some i => rw [e] at h; exact List.mem_of_getElem? h
/-- What is put there is all that is new. -/
theorem vars_new {e d D : Nat} {g : ByteArray → Option Int} {bys : List Tm} {t : Tm} (ht : Dp d t) (hb : ∀ y ∈ bys, Dp e y) {v : ByteArray} (hv : v ∈ varsT D [] (sub (byOf g bys) d t)) : inN v (varsT d [] t) = true ∨ inN v (bys.foldl (varsT e) []) = true := by
  rcases (inN_varsT D [] _).1 (inN_mem hv) with h | h
  · cases h
  · rcases hasV_sub ht D h with h | ⟨n, y, E, h1, h2⟩
    · exact .inl ((inN_varsT d [] t).2 (.inr h))
    · have hy := byOf_mem h1
      exact .inr ((inN_foldV (fun ns t => inN_varsT e ns t) bys []).2 (.inr ⟨y, hy, hasV_le (hb y hy) E h2⟩))
end Go.Proofs.YtncebhddcokkoaaDoor
/- What Match finds; being above; canonical forms (mathematics). -/
namespace Go.Proofs.YtncebhddcokkoaaDoor
open Go.RowKit
/-- A variable. -/
abbrev vT (s : ByteArray) : Tm := .mk 1 ⟨#[]⟩ s 0 []
/-- A type becomes another one, if so much is put. -/
inductive Sol (σ : ByteArray → Option Tm) : Tm → Tm → Prop
  | var {p n : ByteArray} {N : Int} {l : List Tm} {s : Tm} : σ n = some s → Sol σ (.mk 1 p n N l) s
  | con {k N : Int} {p n : ByteArray} {l m : List Tm} : k ≠ 1 → l.length = m.length → (∀ (i : Nat) (x y : Tm), l[i]? = some x → m[i]? = some y → Sol σ x y) → Sol σ (.mk k p n N l) (.mk k p n N m)
def Ext (P σ : ByteArray → Option Tm) : Prop := ∀ n t, P n = some t → σ n = some t
theorem Ext.refl (P : ByteArray → Option Tm) : Ext P P := fun _ _ h => h
theorem Ext.trans {P Q R : ByteArray → Option Tm} (h : Ext P Q) (h' : Ext Q R) : Ext P R := fun n t e => h' n t (h n t e)
theorem Ext.up {P : ByteArray → Option Tm} {n : ByteArray} {s : Tm} (h : P n = none) : Ext P (upV P n s) := fun m t e => by
  unfold upV
  by_cases hm : m = n
  · rw [hm, h] at e; cases e
  · rw [if_neg hm]; exact e
theorem zip_mem {l m : List Tm} {i : Nat} {x y : Tm} (hx : l[i]? = some x) (hy : m[i]? = some y) : (x, y) ∈ l.zip m := by
  refine List.mem_of_getElem? (i := i) ?_
  rw [List.getElem?_zip_eq_some]
  exact ⟨hx, hy⟩
theorem Mt.yes {st : List (Tm × Tm)} {P : ByteArray → Option Tm} {r : Bool} (h : Mt st P r) : r = true → ∃ Q, Ext P Q ∧ ∀ x ∈ st, Sol Q x.1 x.2 := by
  induction h with
  | done => intro _; exact ⟨_, Ext.refl _, fun x hx => by cases hx⟩
  | old h1 _ ih =>
    intro e
    obtain ⟨Q, i1, i2⟩ := ih e
    refine ⟨Q, i1, fun x hx => ?_⟩
    rcases List.mem_cons.1 hx with rfl | hx
    · exact .var (i1 _ _ h1)
    · exact i2 x hx
  | clash => intro e; cases e
  | new h1 _ ih =>
    intro e
    obtain ⟨Q, i1, i2⟩ := ih e
    refine ⟨Q, (Ext.up h1).trans i1, fun x hx => ?_⟩
    rcases List.mem_cons.1 hx with rfl | hx
    · exact .var (i1 _ _ (by unfold upV; rw [if_pos rfl]))
    · exact i2 x hx
  | differ => intro e; cases e
  | go h1 h2 _ ih =>
    intro e
    obtain ⟨Q, i1, i2⟩ := ih e
    refine ⟨Q, i1, fun x hx => ?_⟩
    rcases List.mem_cons.1 hx with rfl | hx
    · exact .con h1 h2 fun i x y hx hy => i2 (x, y) (List.mem_append_left _ (List.mem_reverse.2 (zip_mem hx hy)))
    · exact i2 x (List.mem_append_right _ hx)
/-- One type is above another one. -/
def Ab (a b : Tm) : Prop := ∃ σ, Sol σ a b
/-- Types: variables have no parts, and no line. -/
def Ty : Nat → Tm → Prop
  | 0, _ => False
  | d + 1, .mk k p _ N kids => N = 0 ∧ (k = 1 → kids = [] ∧ p = ⟨#[]⟩) ∧ ∀ x ∈ kids, Ty d x
theorem Ty.dp : ∀ {d : Nat} {t : Tm}, Ty d t → Dp d t := by
  intro d
  induction d with
  | zero => intro t h; cases h
  | succ d ih =>
    intro t h
    obtain ⟨k, p, n, N, kids⟩ := t
    exact fun x hx => ih (h.2.2 x hx)
theorem Ty.more : ∀ {d : Nat} {t : Tm}, Ty d t → ∀ d', d ≤ d' → Ty d' t := by
  intro d
  induction d with
  | zero => intro t h; cases h
  | succ d ih =>
    intro t h d' hd
    obtain ⟨e, rfl⟩ : ∃ e, d' = e + 1 := ⟨d' - 1, by omega⟩
    obtain ⟨k, p, n, N, kids⟩ := t
    exact ⟨h.1, h.2.1, fun x hx => ih (h.2.2 x hx) e (by omega)⟩
theorem Ty.var {d : Nat} {p n : ByteArray} {N : Int} {l : List Tm} (h : Ty d (.mk 1 p n N l)) : (Tm.mk 1 p n N l) = vT n := by
  cases d with
  | zero => cases h
  | succ d =>
    obtain ⟨rfl, h2, _⟩ := h
    obtain ⟨rfl, rfl⟩ := h2 rfl
    rfl
theorem Ty.kid {d : Nat} {k N : Int} {p n : ByteArray} {l : List Tm} {x : Tm} {i : Nat} (h : Ty (d + 1) (.mk k p n N l)) (hx : l[i]? = some x) : Ty d x := h.2.2 x (List.mem_of_getElem? hx)
theorem Ty.leaf (s : ByteArray) (d : Nat) : Ty (d + 1) (vT s) := ⟨rfl, fun _ => ⟨rfl, rfl⟩, fun x hx => by cases hx⟩
theorem Ty.sub {σ : ByteArray → Option Tm} {e : Nat} (hσ : ∀ n y, σ n = some y → Ty e y) : ∀ {d : Nat} {t : Tm}, Ty d t → Ty (e + d) (sub σ d t) := by
  intro d
  induction d with
  | zero => intro t h; cases h
  | succ d ih =>
    intro t h
    obtain ⟨k, p, n, N, kids⟩ := t
    cases hc : (if k = 1 then σ n else none) with
    | some y =>
      by_cases hk : k = 1
      · subst hk
        rw [if_pos rfl] at hc
        rw [sub_yes hc]
        exact (hσ n y hc).more _ (by omega)
      · rw [if_neg hk] at hc; cases hc
    | none =>
      rw [sub_no hc]
      refine ⟨h.1, fun hk => ?_, fun x hx => ?_⟩
      · obtain ⟨rfl, rfl⟩ := h.2.1 hk
        exact ⟨rfl, rfl⟩
      · obtain ⟨z, hz, rfl⟩ := List.mem_map.1 hx
        exact ih (h.2.2 z hz)
/-- A type becomes what it is where so much is put. -/
theorem Sol.of_sub {σ : ByteArray → Option Tm} : ∀ {d : Nat} {t : Tm}, Ty d t → Sol (fun n => some ((σ n).getD (vT n))) t (sub σ d t) := by
  intro d
  induction d with
  | zero => intro t h; cases h
  | succ d ih =>
    intro t h
    obtain ⟨k, p, n, N, kids⟩ := t
    by_cases hk : k = 1
    · subst hk
      have hv := h.var
      cases hc : σ n with
      | some y =>
        rw [sub_yes hc]
        exact .var (by rw [hc]; rfl)
      | none =>
        rw [hv, sub_no (by rw [if_pos rfl, hc])]
        exact .var (by rw [hc]; rfl)
    · rw [sub_no (by rw [if_neg hk])]
      refine .con hk (by simp) fun i x y hx hy => ?_
      rw [List.getElem?_map, hx] at hy
      cases hy
      exact ih (h.kid hx)
theorem Ab.of_sub {σ : ByteArray → Option Tm} {d : Nat} {t : Tm} (h : Ty d t) : Ab t (sub σ d t) := ⟨_, Sol.of_sub h⟩
theorem Ab.refl {d : Nat} {t : Tm} (h : Ty d t) : Ab t t := by
  have h2 := Ab.of_sub (σ := fun _ => none) h
  rwa [sub_none (fun _ => rfl)] at h2
theorem Sol.det {σ : ByteArray → Option Tm} {a b : Tm} (h : Sol σ a b) : ∀ {c : Tm}, Sol σ a c → b = c := by
  induction h with
  | var h =>
    intro c h2
    cases h2 with
    | var h3 => exact Option.some.inj (h.symm.trans h3)
    | con h3 => exact absurd rfl h3
  | con h1 h2 h3 ih =>
    intro c h4
    cases h4 with
    | var => exact absurd rfl h1
    | con _ h5 h6 =>
      congr 1
      refine List.ext_getElem (h2.symm.trans h5) fun i hi hj => ?_
      have hl := h2 ▸ hi
      exact ih i _ _ (List.getElem?_eq_getElem (by omega)) (List.getElem?_eq_getElem hi) (h6 i _ _ (List.getElem?_eq_getElem (by omega)) (List.getElem?_eq_getElem hj))
noncomputable def after (τ : ByteArray → Option Tm) (y : Tm) : Option Tm := by
  classical exact if h : ∃ z, Sol τ y z then some (Classical.choose h) else none
theorem after_is {τ : ByteArray → Option Tm} {y z : Tm} (h : Sol τ y z) : after τ y = some z := by
  unfold after
  have h2 : ∃ z, Sol τ y z := ⟨z, h⟩
  rw [dif_pos h2]
  congr 1
  exact (Classical.choose_spec h2).det h
theorem Sol.trans {σ τ : ByteArray → Option Tm} {a b : Tm} (h : Sol σ a b) : ∀ {c : Tm}, Sol τ b c → Sol (fun n => (σ n).bind (after τ)) a c := by
  induction h with
  | var h =>
    intro c h2
    exact .var (by rw [h]; exact after_is h2)
  | con h1 h2 h3 ih =>
    intro c h4
    cases h4 with
    | var => exact absurd rfl h1
    | con _ h5 h6 =>
      refine .con h1 (h2.trans h5) fun i x z hx hz => ?_
      have hi := (List.getElem?_eq_some_iff.1 hz).1
      exact ih i x _ hx (List.getElem?_eq_getElem (by omega)) (h6 i _ z (List.getElem?_eq_getElem (by omega)) hz)
theorem Ab.trans {a b c : Tm} (h : Ab a b) (h2 : Ab b c) : Ab a c := by
  obtain ⟨σ, h⟩ := h
  obtain ⟨τ, h2⟩ := h2
  exact ⟨_, h.trans h2⟩
/-- Two types that are one but for the names, which go over into one another by f. -/
inductive Rn (f : ByteArray → ByteArray → Prop) : Tm → Tm → Prop
  | var {n m : ByteArray} : f n m → Rn f (vT n) (vT m)
  | con {k N : Int} {p n : ByteArray} {l m : List Tm} : k ≠ 1 → l.length = m.length → (∀ (i : Nat) (x y : Tm), l[i]? = some x → m[i]? = some y → Rn f x y) → Rn f (.mk k p n N l) (.mk k p n N m)
theorem Sol.rn {σ τ : ByteArray → Option Tm} : ∀ {d : Nat} {a b : Tm}, Ty d a → Ty d b → Sol σ a b → Sol τ b a → Rn (fun n m => σ n = some (vT m) ∧ τ m = some (vT n)) a b := by
  intro d
  induction d with
  | zero => intro a b h; cases h
  | succ d ih =>
    intro a b ha hb h1 h2
    cases h1 with
    | var h =>
      have hva := ha.var
      rw [hva] at h2 ⊢
      cases h2 with
      | var h3 =>
        have hvb := hb.var
        rw [hvb] at h ⊢
        exact .var ⟨h, h3⟩
      | con h3 => exact absurd rfl h3
    | con h3 h4 h5 =>
      cases h2 with
      | var => exact absurd rfl h3
      | con _ _ h6 => exact .con h3 h4 fun i x y hx hy => ih (ha.kid hx) (hb.kid hy) (h5 i x y hx hy) (h6 i y x hy hx)
/-- Lists that go over into one another, place by place. -/
def Each (f : ByteArray → ByteArray → Prop) (ns ms : List ByteArray) : Prop := ns.length = ms.length ∧ ∀ (i : Nat) (n m : ByteArray), ns[i]? = some n → ms[i]? = some m → f n m
structure One (f : ByteArray → ByteArray → Prop) : Prop where
  to' : ∀ n m m', f n m → f n m' → m = m'
  fro : ∀ n n' m, f n m → f n' m → n = n'
theorem inN_iff {s : ByteArray} {l : List ByteArray} : inN s l = true ↔ s ∈ l := by
  unfold inN
  rw [List.any_eq_true]
  constructor
  · rintro ⟨t, h1, h2⟩
    rw [← of_decide_eq_true h2]; exact h1
  · intro h
    exact ⟨s, h, by simp⟩
theorem Each.inN {f : ByteArray → ByteArray → Prop} (h1 : One f) {ns ms : List ByteArray} (h : Each f ns ms) {n m : ByteArray} (hf : f n m) : Go.Proofs.YtncebhddcokkoaaDoor.inN n ns = Go.Proofs.YtncebhddcokkoaaDoor.inN m ms := by
  have key : Go.Proofs.YtncebhddcokkoaaDoor.inN n ns = true ↔ Go.Proofs.YtncebhddcokkoaaDoor.inN m ms = true := by
    rw [inN_iff, inN_iff]
    constructor
    · intro hm
      obtain ⟨i, hi⟩ := List.getElem?_of_mem hm
      have hlt := (List.getElem?_eq_some_iff.1 hi).1
      have hj := List.getElem?_eq_getElem (l := ms) (i := i) (by have := h.1; omega)
      have := h1.to' n m _ hf (h.2 i _ _ hi hj)
      exact this ▸ List.mem_of_getElem? hj
    · intro hm
      obtain ⟨i, hi⟩ := List.getElem?_of_mem hm
      have hlt := (List.getElem?_eq_some_iff.1 hi).1
      have hj := List.getElem?_eq_getElem (l := ns) (i := i) (by have := h.1; omega)
      have := h1.fro n _ m hf (h.2 i _ _ hj hi)
      exact this ▸ List.mem_of_getElem? hj
  cases hx : Go.Proofs.YtncebhddcokkoaaDoor.inN n ns with
  | true => exact (key.1 hx).symm
  | false =>
    cases hy : Go.Proofs.YtncebhddcokkoaaDoor.inN m ms with
    | false => rfl
    | true => rw [key.2 hy] at hx; cases hx
theorem Each.snoc {f : ByteArray → ByteArray → Prop} {ns ms : List ByteArray} (h : Each f ns ms) {n m : ByteArray} (hf : f n m) : Each f (ns ++ [n]) (ms ++ [m]) := by
  refine ⟨by simp [h.1], fun i x y hx hy => ?_⟩
  by_cases hi : i < ns.length
  · rw [List.getElem?_append_left hi] at hx
    rw [List.getElem?_append_left (by have := h.1; omega)] at hy
    exact h.2 i x y hx hy
  · have h2 := h.1
    rw [List.getElem?_append_right (by omega)] at hx hy
    have e : i - ns.length = 0 := by
      have := (List.getElem?_eq_some_iff.1 hx).1
      simp at this; omega
    have e2 : i - ms.length = 0 := by omega
    rw [e] at hx
    rw [e2] at hy
    cases hx
    cases hy
    exact hf
theorem Rn.vars {f : ByteArray → ByteArray → Prop} (h1 : One f) : ∀ {d : Nat} {a b : Tm}, Rn f a b → ∀ {ns ms : List ByteArray}, Each f ns ms → Each f (varsT d ns a) (varsT d ms b) := by
  intro d
  induction d with
  | zero => intro a b _ ns ms h; exact h
  | succ d ih =>
    intro a b h ns ms hE
    cases h with
    | @var n m hf =>
      show Each f (put1 ns 1 n) (put1 ms 1 m)
      unfold put1
      rw [hE.inN h1 hf]
      split
      · exact hE.snoc hf
      · exact hE
    | @con k N p n l m hk hl hR =>
      have key : ∀ (l m : List Tm), l.length = m.length → (∀ (i : Nat) (x y : Tm), l[i]? = some x → m[i]? = some y → Rn f x y) → ∀ ns ms, Each f ns ms → Each f (l.foldl (varsT d) ns) (m.foldl (varsT d) ms) := by
        intro l
        induction l with
        | nil =>
          intro m hl _ ns ms h
          obtain rfl : m = [] := List.length_eq_zero_iff.1 hl.symm
          exact h
        | cons x l ihl =>
          intro m hl hR ns ms h
          cases m with
          | nil => cases hl
          | cons y m => exact ihl m (by simpa using hl) (fun i x' y' hx hy => hR (i + 1) x' y' hx hy) _ _ (ih (hR 0 x y rfl rfl) h)
      refine key l m hl hR _ _ ?_
      unfold put1
      rw [if_neg fun h => hk h.1, if_neg fun h => hk h.1]
      exact hE
/-- What is put for the names, in order. -/
def RenOk (nm : Nat → ByteArray) (ns : List ByteArray) (ρ : ByteArray → Option Tm) : Prop := ∀ (i : Nat) (n : ByteArray), ns[i]? = some n → ρ n = some (vT (nm i))
theorem Rn.sub {f : ByteArray → ByteArray → Prop} {nm : Nat → ByteArray} (h1 : One f) {ns ms : List ByteArray} {ρ π : ByteArray → Option Tm} (hρ : RenOk nm ns ρ) (hπ : RenOk nm ms π) (hE : Each f ns ms) : ∀ {d : Nat} {a b : Tm}, Dp d a → Rn f a b → (∀ v, hasV d a v → v ∈ ns) → Go.Proofs.YtncebhddcokkoaaDoor.sub ρ d a = Go.Proofs.YtncebhddcokkoaaDoor.sub π d b := by
  intro d
  induction d with
  | zero => intro a b h; cases h
  | succ d ih =>
    intro a b hd h hv
    cases h with
    | @var n m hf =>
      obtain ⟨i, hi⟩ := List.getElem?_of_mem (hv n (.inl ⟨rfl, rfl⟩))
      have hlt := (List.getElem?_eq_some_iff.1 hi).1
      have hj := List.getElem?_eq_getElem (l := ms) (i := i) (by have := hE.1; omega)
      have e := h1.to' n m _ hf (hE.2 i _ _ hi hj)
      rw [← e] at hj
      rw [sub_yes (hρ i n hi), sub_yes (hπ i m hj)]
    | @con k N p n l m hk hl hR =>
      rw [sub_no (by rw [if_neg hk]), sub_no (by rw [if_neg hk])]
      congr 1
      refine List.ext_getElem (by simpa using hl) fun i hi hj => ?_
      rw [List.getElem_map, List.getElem_map]
      rw [List.length_map] at hi hj
      exact ih (hd _ (List.getElem_mem hi)) (hR i _ _ (List.getElem?_eq_getElem hi) (List.getElem?_eq_getElem hj)) fun v h => hv v (.inr ⟨_, List.getElem_mem hi, h⟩)
end Go.Proofs.YtncebhddcokkoaaDoor
