/- Texts in a row: Zm Cn Xg. -/
import Derived.Test.YtncebhddcokkoaaDoorZM12
import Derived.Test.YtncebhddcokkoaaDoorZM6
import Derived.Test.YtncebhddcokkoaaDoorZM10
import Derived.Laws.MakeOwn
import Derived.Test.YtncebhddcokkoaaDoorZM9
/- What Match finds; being above; canonical forms (mathematics). -/
namespace Go.Proofs.YtncebhddcokkoaaDoor
open Go.RowKit
/-- A variable. -/
abbrev vT (s : ByteArray) : Tm := .mk 1 ⟨#[]⟩ s 0 []
/-- A type becomes another one, if so much is put. -/
inductive Sol (σ : ByteArray → Option Tm) : Tm → Tm → Prop
  | var {p n : ByteArray} {N : Int} {l : List Tm} {s : Tm} : σ n = some s → Sol σ (.mk 1 p n N l) s
  | con {k N : Int} {p n : ByteArray} {l m : List Tm} : k ≠ 1 → l.length = m.length → (∀ (i : Nat) (x y : Tm), l[i]? = some x → m[i]? = some y → Sol σ x y) → Sol σ (.mk k p n N l) (.mk k p n N m)
def Ext (P σ : ByteArray → Option Tm) : Prop := ∀ n t, P n = some t → σ n = some t
theorem Ext.refl (P : ByteArray → Option Tm) : Ext P P := fun _ _ h => h
theorem Ext.trans {P Q R : ByteArray → Option Tm} (h : Ext P Q) (h' : Ext Q R) : Ext P R := fun n t e => h' n t (h n t e)
theorem Ext.up {P : ByteArray → Option Tm} {n : ByteArray} {s : Tm} (h : P n = none) : Ext P (upV P n s) := fun m t e => by
  unfold upV
  by_cases hm : m = n
  · rw [hm, h] at e; cases e
  · rw [if_neg hm]; exact e
theorem Ext.up_le {P σ : ByteArray → Option Tm} {n : ByteArray} {s : Tm} (h : Ext P σ) (hs : σ n = some s) : Ext (upV P n s) σ := fun m t e => by
  unfold upV at e
  by_cases hm : m = n
  · rw [if_pos hm] at e; cases e; rw [hm]; exact hs
  · rw [if_neg hm] at e; exact h m t e
theorem zip_mem {l m : List Tm} {i : Nat} {x y : Tm} (hx : l[i]? = some x) (hy : m[i]? = some y) : (x, y) ∈ l.zip m := by
  refine List.mem_of_getElem? (i := i) ?_
  rw [List.getElem?_zip_eq_some]
  exact ⟨hx, hy⟩
theorem Mt.yes {st : List (Tm × Tm)} {P : ByteArray → Option Tm} {r : Bool} (h : Mt st P r) : r = true → ∃ Q, Ext P Q ∧ ∀ x ∈ st, Sol Q x.1 x.2 := by
  induction h with
  | done => intro _; exact ⟨_, Ext.refl _, fun x hx => by cases hx⟩
  | old h1 _ ih =>
    intro e
    obtain ⟨Q, i1, i2⟩ := ih e
    refine ⟨Q, i1, fun x hx => ?_⟩
    rcases List.mem_cons.1 hx with rfl | hx
    · exact .var (i1 _ _ h1)
    · exact i2 x hx
  | clash => intro e; cases e
  | new h1 _ ih =>
    intro e
    obtain ⟨Q, i1, i2⟩ := ih e
    refine ⟨Q, (Ext.up h1).trans i1, fun x hx => ?_⟩
    rcases List.mem_cons.1 hx with rfl | hx
    · exact .var (i1 _ _ (by unfold upV; rw [if_pos rfl]))
    · exact i2 x hx
  | differ => intro e; cases e
  | go h1 h2 _ ih =>
    intro e
    obtain ⟨Q, i1, i2⟩ := ih e
    refine ⟨Q, i1, fun x hx => ?_⟩
    rcases List.mem_cons.1 hx with rfl | hx
    · exact .con h1 h2 fun i x y hx hy => i2 (x, y) (List.mem_append_left _ (List.mem_reverse.2 (zip_mem hx hy)))
    · exact i2 x (List.mem_append_right _ hx)
theorem Mt.leastX {st : List (Tm × Tm)} {P : ByteArray → Option Tm} {r : Bool} (h : Mt st P r) : ∀ {σ : ByteArray → Option Tm}, Ext P σ → (∀ x ∈ st, Sol σ x.1 x.2) → r = true := by
  induction h with
  | done => intro σ _ _; rfl
  | old h1 _ ih => intro σ hE hs; exact ih hE fun x hx => hs x (List.mem_cons_of_mem _ hx)
  | clash h1 h2 =>
    intro σ hE hs
    have h3 := hs _ (List.mem_cons_self ..)
    cases h3 with
    | var h => exact absurd (Option.some.inj ((hE _ _ h1).symm.trans h)) h2
    | con h => exact absurd rfl h
  | new h1 _ ih =>
    intro σ hE hs
    have h3 := hs _ (List.mem_cons_self ..)
    cases h3 with
    | var h => exact ih (hE.up_le h) fun x hx => hs x (List.mem_cons_of_mem _ hx)
    | con h => exact absurd rfl h
  | differ h1 h2 =>
    intro σ hE hs
    have h4 := hs _ (List.mem_cons_self ..)
    cases h4 with
    | var h => exact absurd rfl h1
    | con h h3 _ => exact absurd ⟨rfl, rfl, rfl, rfl, h3⟩ h2
  | go h1 h2 _ ih =>
    intro σ hE hs
    refine ih hE fun x hx => ?_
    rcases List.mem_append.1 hx with hx | hx
    · obtain ⟨i, hi⟩ := List.getElem?_of_mem (List.mem_reverse.1 hx)
      rw [List.getElem?_zip_eq_some] at hi
      have h4 := hs _ (List.mem_cons_self ..)
      cases h4 with
      | var h => exact absurd rfl h1
      | con _ _ h3 => exact h3 i x.1 x.2 hi.1 hi.2
    · exact hs x (List.mem_cons_of_mem _ hx)
/-- One type is above another one. -/
def Ab (a b : Tm) : Prop := ∃ σ, Sol σ a b
theorem mt_iff {a b : Tm} {r : Bool} (h : Mt [(a, b)] (fun _ => none) r) : r = true ↔ Ab a b := by
  constructor
  · intro e
    obtain ⟨Q, _, h2⟩ := h.yes e
    exact ⟨Q, h2 (a, b) (List.mem_singleton.2 rfl)⟩
  · rintro ⟨σ, hσ⟩
    refine h.leastX (σ := σ) (fun n t e => by cases e) fun x hx => ?_
    rw [List.mem_singleton.1 hx]
    exact hσ
/-- Types: variables have no parts, and no line. -/
def Ty : Nat → Tm → Prop
  | 0, _ => False
  | d + 1, .mk k p _ N kids => N = 0 ∧ (k = 1 → kids = [] ∧ p = ⟨#[]⟩) ∧ ∀ x ∈ kids, Ty d x
theorem Ty.dp : ∀ {d : Nat} {t : Tm}, Ty d t → Dp d t := by
  intro d
  induction d with
  | zero => intro t h; cases h
  | succ d ih =>
    intro t h
    obtain ⟨k, p, n, N, kids⟩ := t
    exact fun x hx => ih (h.2.2 x hx)
theorem Ty.more : ∀ {d : Nat} {t : Tm}, Ty d t → ∀ d', d ≤ d' → Ty d' t := by
  intro d
  induction d with
  | zero => intro t h; cases h
  | succ d ih =>
    intro t h d' hd
    obtain ⟨e, rfl⟩ : ∃ e, d' = e + 1 := ⟨d' - 1, by omega⟩
    obtain ⟨k, p, n, N, kids⟩ := t
    exact ⟨h.1, h.2.1, fun x hx => ih (h.2.2 x hx) e (by omega)⟩
theorem Ty.var {d : Nat} {p n : ByteArray} {N : Int} {l : List Tm} (h : Ty d (.mk 1 p n N l)) : (Tm.mk 1 p n N l) = vT n := by
  cases d with
  | zero => cases h
  | succ d =>
    obtain ⟨rfl, h2, _⟩ := h
    obtain ⟨rfl, rfl⟩ := h2 rfl
    rfl
theorem Ty.kid {d : Nat} {k N : Int} {p n : ByteArray} {l : List Tm} {x : Tm} {i : Nat} (h : Ty (d + 1) (.mk k p n N l)) (hx : l[i]? = some x) : Ty d x := h.2.2 x (List.mem_of_getElem? hx)
theorem Ty.leaf (s : ByteArray) (d : Nat) : Ty (d + 1) (vT s) := ⟨rfl, fun _ => ⟨rfl, rfl⟩, fun x hx => by cases hx⟩
theorem Ty.sub {σ : ByteArray → Option Tm} {e : Nat} (hσ : ∀ n y, σ n = some y → Ty e y) : ∀ {d : Nat} {t : Tm}, Ty d t → Ty (e + d) (sub σ d t) := by
  intro d
  induction d with
  | zero => intro t h; cases h
  | succ d ih =>
    intro t h
    obtain ⟨k, p, n, N, kids⟩ := t
    cases hc : (if k = 1 then σ n else none) with
    | some y =>
      by_cases hk : k = 1
      · subst hk
        rw [if_pos rfl] at hc
        rw [sub_yes hc]
        exact (hσ n y hc).more _ (by omega)
      · rw [if_neg hk] at hc; cases hc
    | none =>
      rw [sub_no hc]
      refine ⟨h.1, fun hk => ?_, fun x hx => ?_⟩
      · obtain ⟨rfl, rfl⟩ := h.2.1 hk
        exact ⟨rfl, rfl⟩
      · obtain ⟨z, hz, rfl⟩ := List.mem_map.1 hx
        exact ih (h.2.2 z hz)
/-- A type becomes what it is where so much is put. -/
theorem Sol.of_sub {σ : ByteArray → Option Tm} : ∀ {d : Nat} {t : Tm}, Ty d t → Sol (fun n => some ((σ n).getD (vT n))) t (sub σ d t) := by
  intro d
  induction d with
  | zero => intro t h; cases h
  | succ d ih =>
    intro t h
    obtain ⟨k, p, n, N, kids⟩ := t
    by_cases hk : k = 1
    · subst hk
      have hv := h.var
      cases hc : σ n with
      | some y =>
        rw [sub_yes hc]
        exact .var (by rw [hc]; rfl)
      | none =>
        rw [hv, sub_no (by rw [if_pos rfl, hc])]
        exact .var (by rw [hc]; rfl)
    · rw [sub_no (by rw [if_neg hk])]
      refine .con hk (by simp) fun i x y hx hy => ?_
      rw [List.getElem?_map, hx] at hy
      cases hy
      exact ih (h.kid hx)
theorem Ab.of_sub {σ : ByteArray → Option Tm} {d : Nat} {t : Tm} (h : Ty d t) : Ab t (sub σ d t) := ⟨_, Sol.of_sub h⟩
theorem Ab.refl {d : Nat} {t : Tm} (h : Ty d t) : Ab t t := by
  have h2 := Ab.of_sub (σ := fun _ => none) h
  rwa [sub_none (fun _ => rfl)] at h2
theorem Sol.det {σ : ByteArray → Option Tm} {a b : Tm} (h : Sol σ a b) : ∀ {c : Tm}, Sol σ a c → b = c := by
  induction h with
  | var h =>
    intro c h2
    cases h2 with
    | var h3 => exact Option.some.inj (h.symm.trans h3)
    | con h3 => exact absurd rfl h3
  | con h1 h2 h3 ih =>
    intro c h4
    cases h4 with
    | var => exact absurd rfl h1
    | con _ h5 h6 =>
      congr 1
      refine List.ext_getElem (h2.symm.trans h5) fun i hi hj => ?_
      have hl := h2 ▸ hi
      exact ih i _ _ (List.getElem?_eq_getElem (by omega)) (List.getElem?_eq_getElem hi) (h6 i _ _ (List.getElem?_eq_getElem (by omega)) (List.getElem?_eq_getElem hj))
noncomputable def after (τ : ByteArray → Option Tm) (y : Tm) : Option Tm := by
  classical exact if h : ∃ z, Sol τ y z then some (Classical.choose h) else none
theorem after_is {τ : ByteArray → Option Tm} {y z : Tm} (h : Sol τ y z) : after τ y = some z := by
  unfold after
  have h2 : ∃ z, Sol τ y z := ⟨z, h⟩
  rw [dif_pos h2]
  congr 1
  exact (Classical.choose_spec h2).det h
theorem Sol.trans {σ τ : ByteArray → Option Tm} {a b : Tm} (h : Sol σ a b) : ∀ {c : Tm}, Sol τ b c → Sol (fun n => (σ n).bind (after τ)) a c := by
  induction h with
  | var h =>
    intro c h2
    exact .var (by rw [h]; exact after_is h2)
  | con h1 h2 h3 ih =>
    intro c h4
    cases h4 with
    | var => exact absurd rfl h1
    | con _ h5 h6 =>
      refine .con h1 (h2.trans h5) fun i x z hx hz => ?_
      have hi := (List.getElem?_eq_some_iff.1 hz).1
      exact ih i x _ hx (List.getElem?_eq_getElem (by omega)) (h6 i _ z (List.getElem?_eq_getElem (by omega)) hz)
theorem Ab.trans {a b c : Tm} (h : Ab a b) (h2 : Ab b c) : Ab a c := by
  obtain ⟨σ, h⟩ := h
  obtain ⟨τ, h2⟩ := h2
  exact ⟨_, h.trans h2⟩
/-- Two types that are one but for the names, which go over into one another by f. -/
inductive Rn (f : ByteArray → ByteArray → Prop) : Tm → Tm → Prop
  | var {n m : ByteArray} : f n m → Rn f (vT n) (vT m)
  | con {k N : Int} {p n : ByteArray} {l m : List Tm} : k ≠ 1 → l.length = m.length → (∀ (i : Nat) (x y : Tm), l[i]? = some x → m[i]? = some y → Rn f x y) → Rn f (.mk k p n N l) (.mk k p n N m)
/-- Lists that go over into one another, place by place. -/
def Each (f : ByteArray → ByteArray → Prop) (ns ms : List ByteArray) : Prop := ns.length = ms.length ∧ ∀ (i : Nat) (n m : ByteArray), ns[i]? = some n → ms[i]? = some m → f n m
structure One (f : ByteArray → ByteArray → Prop) : Prop where
  to' : ∀ n m m', f n m → f n m' → m = m'
  fro : ∀ n n' m, f n m → f n' m → n = n'
theorem inN_iff {s : ByteArray} {l : List ByteArray} : inN s l = true ↔ s ∈ l := by
  unfold inN
  rw [List.any_eq_true]
  constructor
  · rintro ⟨t, h1, h2⟩
    rw [← of_decide_eq_true h2]; exact h1
  · intro h
    exact ⟨s, h, by simp⟩
theorem Each.inN {f : ByteArray → ByteArray → Prop} (h1 : One f) {ns ms : List ByteArray} (h : Each f ns ms) {n m : ByteArray} (hf : f n m) : Go.Proofs.YtncebhddcokkoaaDoor.inN n ns = Go.Proofs.YtncebhddcokkoaaDoor.inN m ms := by
  have key : Go.Proofs.YtncebhddcokkoaaDoor.inN n ns = true ↔ Go.Proofs.YtncebhddcokkoaaDoor.inN m ms = true := by
    rw [inN_iff, inN_iff]
    constructor
    · intro hm
      obtain ⟨i, hi⟩ := List.getElem?_of_mem hm
      have hlt := (List.getElem?_eq_some_iff.1 hi).1
      have hj := List.getElem?_eq_getElem (l := ms) (i := i) (by have := h.1; omega)
      have := h1.to' n m _ hf (h.2 i _ _ hi hj)
      exact this ▸ List.mem_of_getElem? hj
    · intro hm
      obtain ⟨i, hi⟩ := List.getElem?_of_mem hm
      have hlt := (List.getElem?_eq_some_iff.1 hi).1
      have hj := List.getElem?_eq_getElem (l := ns) (i := i) (by have := h.1; omega)
      have := h1.fro n _ m hf (h.2 i _ _ hj hi)
      exact this ▸ List.mem_of_getElem? hj
  cases hx : Go.Proofs.YtncebhddcokkoaaDoor.inN n ns with
  | true => exact (key.1 hx).symm
  | false =>
    cases hy : Go.Proofs.YtncebhddcokkoaaDoor.inN m ms with
    | false => rfl
    | true => rw [key.2 hy] at hx; cases hx
theorem Each.snoc {f : ByteArray → ByteArray → Prop} {ns ms : List ByteArray} (h : Each f ns ms) {n m : ByteArray} (hf : f n m) : Each f (ns ++ [n]) (ms ++ [m]) := by
  refine ⟨by simp [h.1], fun i x y hx hy => ?_⟩
  by_cases hi : i < ns.length
  · rw [List.getElem?_append_left hi] at hx
    rw [List.getElem?_append_left (by have := h.1; omega)] at hy
    exact h.2 i x y hx hy
  · have h2 := h.1
    rw [List.getElem?_append_right (by omega)] at hx hy
    have e : i - ns.length = 0 := by
      have := (List.getElem?_eq_some_iff.1 hx).1
      simp at this; omega
    have e2 : i - ms.length = 0 := by omega
    rw [e] at hx
    rw [e2] at hy
    cases hx
    cases hy
    exact hf
/-- What is put for the names, in order. -/
def RenOk (nm : Nat → ByteArray) (ns : List ByteArray) (ρ : ByteArray → Option Tm) : Prop := ∀ (i : Nat) (n : ByteArray), ns[i]? = some n → ρ n = some (vT (nm i))
theorem Rn.sub {f : ByteArray → ByteArray → Prop} {nm : Nat → ByteArray} (h1 : One f) {ns ms : List ByteArray} {ρ π : ByteArray → Option Tm} (hρ : RenOk nm ns ρ) (hπ : RenOk nm ms π) (hE : Each f ns ms) : ∀ {d : Nat} {a b : Tm}, Dp d a → Rn f a b → (∀ v, hasV d a v → v ∈ ns) → Go.Proofs.YtncebhddcokkoaaDoor.sub ρ d a = Go.Proofs.YtncebhddcokkoaaDoor.sub π d b := by
  intro d
  induction d with
  | zero => intro a b h; cases h
  | succ d ih =>
    intro a b hd h hv
    cases h with
    | @var n m hf =>
      obtain ⟨i, hi⟩ := List.getElem?_of_mem (hv n (.inl ⟨rfl, rfl⟩))
      have hlt := (List.getElem?_eq_some_iff.1 hi).1
      have hj := List.getElem?_eq_getElem (l := ms) (i := i) (by have := hE.1; omega)
      have e := h1.to' n m _ hf (hE.2 i _ _ hi hj)
      rw [← e] at hj
      rw [sub_yes (hρ i n hi), sub_yes (hπ i m hj)]
    | @con k N p n l m hk hl hR =>
      rw [sub_no (by rw [if_neg hk]), sub_no (by rw [if_neg hk])]
      congr 1
      refine List.ext_getElem (by simpa using hl) fun i hi hj => ?_
      rw [List.getElem_map, List.getElem_map]
      rw [List.length_map] at hi hj
      exact ih (hd _ (List.getElem_mem hi)) (hR i _ _ (List.getElem?_eq_getElem hi) (List.getElem?_eq_getElem hj)) fun v h => hv v (.inr ⟨_, List.getElem_mem hi, h⟩)
end Go.Proofs.YtncebhddcokkoaaDoor
/- Canon of any type. -/
namespace Go.Proofs.YtncebhddcokkoaaDoor
open Go.RowKit
set_option linter.unusedSimpArgs false
set_option linter.unusedVariables false
theorem info24z : (Tryd.prog.info? 36).map (fun i => (i.zero, i.size, i.bytes)) = some (some zT, 5, 72) := by kernel_rfl
/-- What is put for so many names. -/
def nmT (n : Nat) : List Tm := (List.range n).map fun i => vT (nmB i)
/-- A type whose variables are named in the order in which they are met. -/
def canonT (d : Nat) (t : Tm) : Tm := sub (byOf (fg (varsT d [] t) (varsT d [] t).length) (nmT (varsT d [] t).length)) d t
/-- The cells of the names' terms, the first j of them made. -/
def cellJ (j i : Nat) : Nat → Value
  | 0 => .int .i64 (if i < j then 1 else 0)
  | 1 => .string ⟨#[]⟩
  | 2 => .string (if i < j then nmB i else ⟨#[]⟩)
  | 3 => .int .i64 0
  | _ => .slice none 0 0
def byA (n j : Nat) : Array Value := (Array.range (n * 5)).map fun k => cellJ j (k / 5) (k % 5)
theorem byA_at (n j i r : Nat) (hi : i < n) (hr : r < 5) : (byA n j)[i * 5 + r]? = some (cellJ j i r) := by
  unfold byA
  have h1 : i * 5 + r < n * 5 := by omega
  rw [Array.getElem?_map, Array.getElem?_range, if_pos h1]
  simp only [Option.map_some]
  congr 2
  · omega
  · omega
theorem byA_made (n : Nat) : madeCells zT.cells (n * 5) = byA n 0 := by
  unfold madeCells byA
  congr 1
  funext k
  have h1 : k % zT.cells.size = k % 5 := rfl
  rw [h1]
  have h2 : k % 5 = 0 ∨ k % 5 = 1 ∨ k % 5 = 2 ∨ k % 5 = 3 ∨ k % 5 = 4 := by omega
  rcases h2 with h | h | h | h | h <;> rw [h] <;> rfl
theorem byA_next (n j : Nat) (hj : j < n) : (((((byA n j).setIfInBounds (j * 5) (.int .i64 1)).setIfInBounds (j * 5 + 1) (.string ⟨#[]⟩)).setIfInBounds (j * 5 + 2) (.string (nmB j))).setIfInBounds (j * 5 + 3) (.int .i64 0)).setIfInBounds (j * 5 + 4) (.slice none 0 0) = byA n (j + 1) := by
  apply Array.ext_getElem?
  intro k
  simp only [Array.getElem?_setIfInBounds]
  have hsz : (byA n j).size = n * 5 := by simp [byA]
  have hsz2 : (byA n (j + 1)).size = n * 5 := by simp [byA]
  by_cases hk : k < n * 5
  · obtain ⟨i, r, rfl, hr⟩ : ∃ i r, k = i * 5 + r ∧ r < 5 := ⟨k / 5, k % 5, by omega, by omega⟩
    have hi : i < n := by omega
    rw [byA_at n j i r hi hr, byA_at n (j + 1) i r hi hr]
    simp only [Array.size_setIfInBounds, hsz]
    by_cases hij : i = j
    · subst hij
      have h2 : r = 0 ∨ r = 1 ∨ r = 2 ∨ r = 3 ∨ r = 4 := by omega
      rcases h2 with rfl | rfl | rfl | rfl | rfl
      · rw [if_neg (by omega), if_neg (by omega), if_neg (by omega), if_neg (by omega), if_pos (by omega), if_pos (by omega)]
        simp [cellJ]
      · rw [if_neg (by omega), if_neg (by omega), if_neg (by omega), if_pos (by omega), if_pos (by omega)]
        simp [cellJ]
      · rw [if_neg (by omega), if_neg (by omega), if_pos (by omega), if_pos (by omega)]
        simp [cellJ]
      · rw [if_neg (by omega), if_pos (by omega), if_pos (by omega)]
        simp [cellJ]
      · rw [if_pos (by omega), if_pos (by omega)]
        simp [cellJ]
    · rw [if_neg (by omega), if_neg (by omega), if_neg (by omega), if_neg (by omega), if_neg (by omega)]
      congr 1
      have h2 : r = 0 ∨ r = 1 ∨ r = 2 ∨ r = 3 ∨ r = 4 := by omega
      have h3 : (i < j + 1) ↔ (i < j) := by omega
      rcases h2 with rfl | rfl | rfl | rfl | rfl <;> simp [cellJ, h3]
  · rw [if_neg (by omega), if_neg (by omega), if_neg (by omega), if_neg (by omega), if_neg (by omega), Array.getElem?_eq_none (by omega), Array.getElem?_eq_none (by omega)]
theorem byA_kids {w : World} {g n : Nat} (hn : n ≤ 2600) (h : w.heap[g]? = some (.cells (byA n n) 36 (0, 0))) : KidsT w 1 (.slice (some ⟨g, 0, none⟩) n n) (nmT n) := by
  have hl : (nmT n).length = n := by simp [nmT]
  refine ⟨some ⟨g, 0, none⟩, n, by rw [hl], by rw [hl]; unfold maxLen; omega, fun i x hx => ?_⟩
  have hi : i < n := by
    have := (List.getElem?_eq_some_iff.1 hx).1
    omega
  have hx2 : x = vT (nmB i) := by
    unfold nmT at hx
    rw [List.getElem?_map, List.getElem?_range hi] at hx
    exact (Option.some.inj hx).symm
  subst hx2
  have e : ∀ r, r < 5 → w.cell? ⟨g, i * 5 + r, none⟩ = some (cellJ n i r) := fun r hr => by rw [hb_cell h, byA_at n n i r hi hr]
  have e0 := e 0 (by omega)
  have e1 := e 1 (by omega)
  have e2 := e 2 (by omega)
  have e3 := e 3 (by omega)
  have e4 := e 4 (by omega)
  simp only [cellJ, if_pos hi] at e0 e1 e2 e3 e4
  refine ⟨g, 0, 1, ⟨#[]⟩, nmB i, 0, .slice none 0 0, rfl, ?_, leaf_is w 0 1 _ (nm_size (by omega))⟩
  rw [Nat.zero_add]
  exact ⟨e0, e1, e2, e3, e4⟩
theorem makeM (m : Nat) (hm : m ≤ 2600) (W : World) : (Instr.makeSlice 34 (.int .i64 (m : Int)) (.int .i64 (m : Int))).run Tryd.prog W = .ok (.slice (some ⟨W.heap.size, 0, none⟩) m m) (W.alloc (.cells (byA m 0) 36)) := by
  obtain ⟨i0, hi, hz0, hz1, hz2⟩ := info_parts info24z
  have h := run_makeSlice (P := Tryd.prog) (w := W) 34 36 i0 zT Tryd.underlying34 hi hz0 .i64 .i64 m m (by omega) (by omega) (by rw [hz1]; simp; omega) (by rw [hz2]; omega) (by omega)
  rw [hz1, Int.toNat_natCast, byA_made] at h
  exact h
def CanA (d : Nat) (t : Tm) (w : World) (e : Ending) (w' : World) : Prop := ∃ k p n N q l c, e = .returned (tv k p n N (.slice q l c)) ∧ IsX (fun b => w.heap.size ≤ b) w' (1 + d) (tv k p n N (.slice q l c)) (canonT d t) ∧ Below w.heap.size w w'
set_option maxRecDepth 100000 in
set_option maxHeartbeats 4000000 in
theorem canonA_any (d : Nat) (v : Value) (t : Tm) (w : World) (h : IsT w d v t) (hs : Sm d t) (hz : tszN d t ≤ 30000) (hl : (varsT d [] t).length ≤ 2600) : Calls Tryd.prog 61 #[v] w (CanA d t w) := by
  have HT := Lib.hid h
  obtain ⟨d1, k, p, n, N, s1, kids, e1, e2, rfl, _, _, q, c, rfl, _, _⟩ := h.open
  generalize kids.length = l at *
  clear h e1 e2
  have k0 := hb_alloc (hb_alloc (hb_new w (.cells #[.int .i64 k, .string p, .string n, .int .i64 N, .slice q l c] 36)) (.cells #[.int .i64 0, .string ⟨#[]⟩, .string ⟨#[]⟩, .int .i64 0, .slice none 0 0] 36)) (.cells #[.int .i64 k, .string p, .string n, .int .i64 N, .slice q l c] 36)
  have k1 := hb_alloc (hb_new (w.alloc (.cells #[.int .i64 k, .string p, .string n, .int .i64 N, .slice q l c] 36)) (.cells #[.int .i64 0, .string ⟨#[]⟩, .string ⟨#[]⟩, .int .i64 0, .slice none 0 0] 36)) (.cells #[.int .i64 k, .string p, .string n, .int .i64 N, .slice q l c] 36)
  have k2 := hb_new ((w.alloc (.cells #[.int .i64 k, .string p, .string n, .int .i64 N, .slice q l c] 36)).alloc (.cells #[.int .i64 0, .string ⟨#[]⟩, .string ⟨#[]⟩, .int .i64 0, .slice none 0 0] 36)) (.cells #[.int .i64 k, .string p, .string n, .int .i64 N, .slice q l c] 36)
  simp only [World.size_alloc] at k1 k2
  have hB0 := (below2 w (.cells #[.int .i64 k, .string p, .string n, .int .i64 N, .slice q l c] 36) (.cells #[.int .i64 0, .string ⟨#[]⟩, .string ⟨#[]⟩, .int .i64 0, .slice none 0 0] 36)).trans ((below_alloc ((w.alloc (.cells #[.int .i64 k, .string p, .string n, .int .i64 N, .slice q l c] 36)).alloc (.cells #[.int .i64 0, .string ⟨#[]⟩, .string ⟨#[]⟩, .int .i64 0, .slice none 0 0] 36)) (.cells #[.int .i64 k, .string p, .string n, .int .i64 N, .slice q l c] 36)).mono (by simp; omega))
  have K0 := Lib.hid k0
  have K1 := Lib.hid k1
  have K2 := Lib.hid k2
  have HB0 := Lib.hid hB0
  have HVA := Lib.hid (vars_any d [t] _ _ (KidsT.one k2 (HT.out.below hB0)) (by show [t].foldl (fun n t => n + tszN d t) 0 ≤ 100000; simp only [List.foldl_cons, List.foldl_nil]; omega))
  have HS := Lib.hid hs
  have hsz : ∀ s ∈ varsT d [] t, s.size ≤ maxLen := vars_sz HT.out (ns := []) (by simp)
  have HSZ := Lib.hid hsz
  have hcan : canonT d t = sub (byOf (fg (varsT d [] t) (varsT d [] t).length) (nmT (varsT d [] t).length)) d t := rfl
  have HCAN := Lib.hid hcan
  clear k0 k1 k2 hB0 hs hsz hcan
  generalize hns : varsT d [] t = ns at *
  generalize hnl : ns.length = m at *
  have HNL := Lib.hid hnl
  have HNS : RowKit.Hid ([t].foldl (varsT d) [] = ns) := Lib.hid hns
  clear hns hnl hz
  go_enter Tryd.func61, Tryd.ntmps61
  go_upto_region 2 with (go_at_call 68; ((with_reducible refine HVA.out.mono ?_); rintro e w3 ⟨v3, rfl, ho3, hb3⟩; rw [HNS.out, HNL.out] at ho3; obtain ⟨a3, cc3, rfl, _⟩ := own_sl0 ho3; have HO3 := Lib.hid (SRow.own (l := ns) HNL.out.symm ho3); have HB3 := Lib.hid hb3; have u0 := hb_below K0.out hb3 (by simp <;> omega); have u1 := hb_below K1.out hb3 (by simp <;> omega); have U0 := Lib.hid u0; have U1 := Lib.hid u1; clear ho3 hb3 u0 u1))
  have hB3 : Below w.heap.size w w3 := HB0.out.trans (HB3.out.mono HB0.out.size)
  have HB3w := Lib.hid hB3
  have hz3 := hB3.size
  clear hB3
  have hmk := makeM m hl
  go_upto_region 3 with fail
  have hn4 := hb_new w3 (.cells (byA m 0) 36)
  have hB4 := below_alloc w3 (.cells (byA m 0) 36)
  generalize hW4 : w3.alloc (.cells (byA m 0) 36) = w4 at *
  have hz4 : w4.heap.size = w3.heap.size + 1 := by rw [← hW4]; simp
  clear hW4 hmk
  have HB4 := Lib.hid hB4
  have HN4 := Lib.hid hn4
  clear hB4 hn4
  go_wp2
  go_loopw [14] (fun i wr => ∃ j : Nat, j ≤ m ∧ i = .int .i64 j ∧ wr.heap[w3.heap.size]? = some (.cells (byA m j) 36 (0, 0)) ∧ Below w3.heap.size w3 wr) (fun i _ => m - (intOf i).toNat)
  case atStart => exact ⟨0, by omega, rfl, HN4.out, HB4.out⟩
  case round =>
    obtain ⟨j, hj, rfl, hbj, hBj⟩ := hrel
    have HBJ := Lib.hid hBj
    have hzj := hBj.size
    have hlb := hb_lt hbj
    have hf := hb_free hbj
    by_cases hjm : (j : Int) < (m : Int)
    · have hsz : (byA m j).size = m * 5 := by simp [byA]
      have e0 : wr.cell? ⟨w3.heap.size, j * 5, none⟩ = some (cellJ j j 0) := by rw [hb_cell hbj]; exact byA_at m j j 0 (by omega) (by omega)
      have e1 : wr.cell? ⟨w3.heap.size, j * 5 + 1, none⟩ = some (cellJ j j 1) := by rw [hb_cell hbj]; exact byA_at m j j 1 (by omega) (by omega)
      have e2 : wr.cell? ⟨w3.heap.size, j * 5 + 2, none⟩ = some (cellJ j j 2) := by rw [hb_cell hbj]; exact byA_at m j j 2 (by omega) (by omega)
      have e3 : wr.cell? ⟨w3.heap.size, j * 5 + 3, none⟩ = some (cellJ j j 3) := by rw [hb_cell hbj]; exact byA_at m j j 3 (by omega) (by omega)
      have e4 : wr.cell? ⟨w3.heap.size, j * 5 + 4, none⟩ = some (cellJ j j 4) := by rw [hb_cell hbj]; exact byA_at m j j 4 (by omega) (by omega)
      generalize cellJ j j 0 = y0 at *
      generalize cellJ j j 1 = y1 at *
      generalize cellJ j j 2 = y2 at *
      generalize cellJ j j 3 = y3 at *
      generalize cellJ j j 4 = y4 at *
      have f0 := hf (j * 5)
      have f1 := hf (j * 5 + 1)
      have f2 := hf (j * 5 + 2)
      have f3 := hf (j * 5 + 3)
      have f4 := hf (j * 5 + 4)
      have h0 := hb_set_same hbj (j * 5) (.int .i64 1)
      have h1 := hb_set_same h0 (j * 5 + 1) (.string ⟨#[]⟩)
      have h2 := hb_set_same h1 (j * 5 + 2) (.string (nmB j))
      have h3 := hb_set_same h2 (j * 5 + 3) (.int .i64 0)
      have h4 := hb_set_same h3 (j * 5 + 4) (.slice none 0 0)
      rw [byA_next m j (by omega)] at h4
      have H4 := Lib.hid h4
      clear hbj hf h0 h1 h2 h3 h4 hBj hsz
      go_wp2_with (go_at_call 63; (with_reducible refine (name_any j (by omega) _).mono ?_); rintro e w5 ⟨rfl, rfl⟩)
      exact ⟨⟨j + 1, by omega, by go_num, H4.out, (((((HBJ.out.setCell (by simp) _).setCell (by simp) _).setCell (by simp) _).setCell (by simp) _).setCell (by simp) _)⟩, by simp [intOf]; omega⟩
    · obtain rfl : j = m := by omega
      have hw1 : Below w.heap.size w wr := HB3w.out.trans (hBj.mono hz3)
      have HW1 := Lib.hid hw1
      have hT := HT.out.below hw1
      have t0 := hb_below U0.out hBj (hb_lt U0.out)
      have t1 := hb_below U1.out hBj (hb_lt U1.out)
      have T1 := Lib.hid t1
      have x0 := hb_at t0 0 rfl
      have x1 := hb_at t0 1 rfl
      have x2 := hb_at t0 2 rfl
      have x3 := hb_at t0 3 rfl
      have x4 := hb_at t0 4 rfl
      have hnsl := HNL.out
      have hK := byA_kids hl hbj
      have hsub := subst_any d 1 t _ ns _ (nmT j) _ wr hT (HO3.out.below hBj) (by omega) HSZ.out hK HS.out (by
        intro x hx
        unfold nmT at hx
        obtain ⟨i, _, rfl⟩ := List.mem_map.1 hx
        exact ⟨by simp, fun y hy => by cases hy⟩)
      rw [hnsl, ← HCAN.out] at hsub
      have HSU := Lib.hid hsub
      clear hbj hf hBj hw1 hT t0 t1 hK hsub hnsl
      go_wp2_with (go_at_call 80; (with_reducible refine HSU.out.mono ?_); rintro e w5 ⟨v5, rfl, hx5, hb5⟩; obtain ⟨k5, p5, n5, N5, q5, l5, c5, rfl⟩ := hx5.shape; have HX6 := Lib.hid hx5; have HB5 := Lib.hid hb5; have u1 := hb_below T1.out hb5 (hb_lt T1.out); have y0 := hb_at u1 0 rfl; have y1 := hb_at u1 1 rfl; have y2 := hb_at u1 2 rfl; have y3 := hb_at u1 3 rfl; have y4 := hb_at u1 4 rfl; have g0 := hb_free u1 0; have g1 := hb_free u1 1; have g2 := hb_free u1 2; have g3 := hb_free u1 3; have g4 := hb_free u1 4; have hw8 := hb_lt T1.out; clear hx5 hb5 u1)
      have hB5 : Below w.heap.size w w5 := HW1.out.trans (HB5.out.mono HW1.out.size)
      refine bodyPost_ret (v := tv k5 p5 n5 N5 (.slice q5 l5 c5)) (by simp [results, Tryd.results61, go_sem, y0, y1, y2, y3, y4]) rfl ⟨_, _, _, _, _, _, _, rfl, ?_, (((((hB5.setCell (by simp) _).setCell (by simp) _).setCell (by simp) _).setCell (by simp) _).setCell (by simp) _)⟩
      refine HX6.out.move fun b hb _ => ⟨by have := HW1.out.size; show w.heap.size ≤ b; have hb2 : wr.heap.size ≤ b := hb; omega, ?_⟩
      have hb2 : wr.heap.size ≤ b := hb
      have hne : b ≠ w.heap.size + 1 := by omega
      rw [Below.heap_setCell _ _ _ b hne, Below.heap_setCell _ _ _ b hne, Below.heap_setCell _ _ _ b hne, Below.heap_setCell _ _ _ b hne, Below.heap_setCell _ _ _ b hne]
end Go.Proofs.YtncebhddcokkoaaDoor
/- A term, copied: of it no more is asked than that it comes. -/
namespace Go.Proofs.YtncebhddcokkoaaDoor
open Go.RowKit
def CopyP (w : World) (e : Ending) (w' : World) : Prop := ∃ k p n N q l c, e = .returned (tv k p n N (.slice q l c)) ∧ Below w.heap.size w w'
def CopyR (d : Nat) : Prop := ∀ (v : Value) (t : Tm) (w : World), IsT w d v t → Sm d t → Calls Tryd.prog 82 #[v] w (CopyP w)
def SliceP (w : World) (e : Ending) (w' : World) : Prop := ∃ q l c, e = .returned (.slice q l c) ∧ Below w.heap.size w w'
set_option maxRecDepth 100000 in
set_option maxHeartbeats 4000000 in
theorem list_any (d : Nat) (HR : CopyR d) (kids : List Tm) (s : Value) (w : World) (hk : KidsT w d s kids) (hl : kids.length ≤ 100000) (hsm : ∀ x ∈ kids, Sm d x) :
    Calls Tryd.prog 97 #[s, .func (.func 82) #[] #[]] w (SliceP w) := by
  obtain ⟨q1, c1, rfl, hkm, hK⟩ := hk
  have HK := Lib.hid hK
  have HSM := Lib.hid hsm
  have HR2 := Lib.hid HR
  obtain ⟨z, hz, hzc⟩ := info24
  obtain ⟨i0, hi, hz0, hz1, hz2⟩ := info_parts hz
  have HI := Lib.hid hi
  have HZ0 := Lib.hid hz0
  have HZ1 := Lib.hid hz1
  have HZ2 := Lib.hid hz2
  have HZC := Lib.hid hzc
  clear hK hsm HR hi hz0 hz1 hz2 hzc hz
  go_enter Tryd.func97, Tryd.ntmps97
  go_wp2
  go_loopw [5, 10] (fun sv i wr => ∃ j : Nat, j ≤ kids.length ∧ i = .int .i64 j ∧ Below w.heap.size w wr ∧ ∃ l : List T5, l.length = j ∧ wr.ownsRow w.heap.size 36 5 sv l.length (flatC l)) (fun _ i _ => kids.length - (intOf i).toNat)
  case atStart => exact ⟨0, Nat.zero_le _, rfl, Below.refl _ _, [], rfl, World.ownsRow_nil _ _ _ _⟩
  case round =>
    obtain ⟨j, hj, rfl, hbl, l, hlj, hown⟩ := hrel
    have HBL := Lib.hid hbl
    have hsz := hbl.size
    by_cases hlt : j < kids.length
    · have hjx : kids[j]? = some kids[j] := List.getElem?_eq_getElem hlt
      have HSJ := Lib.hid (HSM.out kids[j] (List.getElem_mem hlt))
      have HLJ := Lib.hid hlj
      have HOW := Lib.hid hown
      obtain ⟨b, o, k', p', n', N', s', rfl, ta, it⟩ := HK.out j kids[j] hjx
      obtain ⟨q', l', c', rfl⟩ := it.spell
      have hta := ta.below hbl ta.lt
      have hitb := it.below hbl
      have HIT := Lib.hid hitb
      obtain ⟨y0, y1, y2, y3, y4⟩ := hta
      generalize kids[j] = x at *
      have HC := Lib.hid (HR2.out (tv k' p' n' N' (.slice q' l' c')) x (wr.alloc (.cells #[.int .i64 k', .string p', .string n', .int .i64 N', .slice q' l' c'] 36)) (HIT.out.below (below_alloc _ _)) HSJ.out)
      have hki : (j : Int) < (kids.length : Int) := by omega
      clear hbl hown hjx ta it hitb hlj
      go_wp2_with (first
        | (go_at_call 82; refine HC.out.mono ?_; rintro e w3 ⟨k3, p3, n3, N3, q3, l3, c3, rfl, hb3⟩; have HB3 := Lib.hid hb3; have OW3 := Lib.hid (own_below (HOW.out.alloc _) hb3); have HZ3 := Lib.hid hb3.size; clear hb3)
        | (at_builtin; refine wpList_append_own_at _ rfl _ _ 34 rfl w.heap.size 36 i0 z 5 72 Tryd.underlying34 HI.out HZ0.out HZ1.out HZ2.out HZC.out (by decide) _ l.length (flatC l) rfl (OW3.out.alloc _) ⟨w3.heap.size, 0, none⟩ 1 1 [.int .i64 k3, .string p3, .string n3, .int .i64 N3, .slice q3 l3 c3] rfl rfl (fun j u hu => (by
            rw [add_zero_none]
            match j, hu with
            | 0, hu => cases hu; exact hb_at (hb_new w3 _) 0 rfl
            | 1, hu => cases hu; exact hb_at (hb_new w3 _) 1 rfl
            | 2, hu => cases hu; exact hb_at (hb_new w3 _) 2 rfl
            | 3, hu => cases hu; exact hb_at (hb_new w3 _) 3 rfl
            | 4, hu => cases hu; exact hb_at (hb_new w3 _) 4 rfl
            | j + 5, hu => simp at hu)) (by simp [Value.oneCell']) (by have := HLJ.out; unfold maxLen; omega) (by have := HLJ.out; omega) (by have := HZ3.out; simp at this; simp; omega) ?_; intro v4 w4 ho4 hg4 _ hblk4; have HO4 := Lib.hid ho4; have HG4 := Lib.hid hg4; clear ho4 hg4 hblk4))
      have hB1 := HBL.out.alloc HBL.out.size (.cells #[.int .i64 k', .string p', .string n', .int .i64 N', .slice q' l' c'] 36)
      have hB3 := hB1.trans (HB3.out.mono hB1.size)
      have hB5 := hB3.alloc hB3.size (.cells #[.int .i64 k3, .string p3, .string n3, .int .i64 N3, .slice q3 l3 c3] 36)
      have hB4 := hB5.grown HG4.out hB5.size (fun g hg => by have := (HOW.out.lt g hg).1; omega)
      refine ⟨⟨j + 1, by omega, by go_num, hB4, l ++ [(k3, p3, n3, N3, .slice q3 l3 c3)], by rw [List.length_append, HLJ.out]; rfl, ?_⟩, by simp [intOf]; omega⟩
      rw [flatC_snoc, List.length_append]
      exact HO4.out
    · obtain rfl : j = kids.length := by omega
      obtain ⟨qs, cs, rfl⟩ : ∃ qs cs, u5 = .slice qs l.length cs := by
        rcases hown.2 with ⟨h1, h0⟩ | ⟨g, cap, cur, h1, _⟩
        · exact ⟨none, 0, by rw [h1, h0]⟩
        · exact ⟨_, cap, h1⟩
      clear hbl hown
      go_wp2
      go_ret
      exact ⟨_, _, _, rfl, HBL.out⟩
set_option maxRecDepth 100000 in
set_option maxHeartbeats 4000000 in
theorem kidsOf_any (d : Nat) (HR : CopyR d) (k : Int) (p n : ByteArray) (N : Int) (kids : List Tm) (s : Value) (w : World) (hk : KidsT w d s kids) (hl : kids.length ≤ 100000) (hsm : ∀ x ∈ kids, Sm d x) :
    Calls Tryd.prog 93 #[tv k p n N s, .func (.func 82) #[] #[]] w (CopyP w) := by
  have HK := Lib.hid hk
  have HLA := Lib.hid (fun W (hW : KidsT W d s kids) => list_any d HR kids s W hW hl hsm)
  obtain ⟨q1, c1, rfl, _, _⟩ := hk
  have b0 := hb_alloc (hb_new w (.cells #[.int .i64 k, .string p, .string n, .int .i64 N, .slice q1 kids.length c1] 36)) (.cells #[.int .i64 0, .string ⟨#[]⟩, .string ⟨#[]⟩, .int .i64 0, .slice none 0 0] 36)
  have b1 := hb_new (w.alloc (.cells #[.int .i64 k, .string p, .string n, .int .i64 N, .slice q1 kids.length c1] 36)) (.cells #[.int .i64 0, .string ⟨#[]⟩, .string ⟨#[]⟩, .int .i64 0, .slice none 0 0] 36)
  rw [World.size_alloc] at b1
  have K0 := Lib.hid b0
  have K1 := Lib.hid b1
  have hB0 := below2 w (.cells #[.int .i64 k, .string p, .string n, .int .i64 N, .slice q1 kids.length c1] 36) (.cells #[.int .i64 0, .string ⟨#[]⟩, .string ⟨#[]⟩, .int .i64 0, .slice none 0 0] 36)
  have HB0 := Lib.hid hB0
  have HK1 := Lib.hid (HK.out.below hB0)
  clear b0 b1 hB0
  go_enter Tryd.func93, Tryd.ntmps93
  go_wp2_with (go_at_call 97; refine (HLA.out _ HK1.out).mono ?_; rintro e w3 ⟨q3, l3, c3, rfl, hb3⟩; have HB3 := Lib.hid hb3; have u0 := hb_below K0.out hb3 (by simp; omega); have u1 := hb_below K1.out hb3 (by simp); have x0 := hb_at u0 0 rfl; have x1 := hb_at u0 1 rfl; have x2 := hb_at u0 2 rfl; have x3 := hb_at u0 3 rfl; have x4 := hb_at u0 4 rfl; have f4 := hb_free u0 4; have y0 := hb_at u1 0 rfl; have y1 := hb_at u1 1 rfl; have y2 := hb_at u1 2 rfl; have y3 := hb_at u1 3 rfl; have y4 := hb_at u1 4 rfl; have g0 := hb_free u1 0; have g1 := hb_free u1 1; have g2 := hb_free u1 2; have g3 := hb_free u1 3; have g4 := hb_free u1 4; clear u0 u1 hb3)
  have hB3 : Below w.heap.size w w3 := HB0.out.trans (HB3.out.mono HB0.out.size)
  refine bodyPost_ret (v := tv k p n N (.slice q3 l3 c3)) (by simp [results, Tryd.results93, go_sem, y0, y1, y2, y3, y4]) rfl ⟨_, _, _, _, _, _, _, rfl, ((((((hB3.setCell (by simp) _).setCell (by simp) _).setCell (by simp) _).setCell (by simp) _).setCell (by simp) _).setCell (by simp) _)⟩
set_option maxRecDepth 100000 in
theorem copy_any : ∀ d, CopyR d := by
  intro d
  induction d with
  | zero => intro v t w h; cases h
  | succ d ih =>
    intro v t w h hs
    obtain ⟨k, p, n, N, kids⟩ := t
    obtain ⟨q, c, rfl, hp, hn, hkm, hK⟩ := h
    have HW := Lib.hid (kidsOf_any d ih k p n N kids (.slice q kids.length c))
    have HKT : RowKit.Hid (KidsT w d (.slice q kids.length c) kids) := Lib.hid ⟨q, c, rfl, hkm, hK⟩
    have HS1 := Lib.hid hs.1
    have HS2 := Lib.hid hs.2
    have HB0 := Lib.hid (below2 w (.cells #[.int .i64 k, .string p, .string n, .int .i64 N, .slice q kids.length c] 36) (.cells #[.int .i64 0, .string ⟨#[]⟩, .string ⟨#[]⟩, .int .i64 0, .slice none 0 0] 36))
    have hb1 := hb_new (w.alloc (.cells #[.int .i64 k, .string p, .string n, .int .i64 N, .slice q kids.length c] 36)) (.cells #[.int .i64 0, .string ⟨#[]⟩, .string ⟨#[]⟩, .int .i64 0, .slice none 0 0] 36)
    rw [World.size_alloc] at hb1
    have K1 := Lib.hid hb1
    clear hK hs hp hn hb1
    go_enter Tryd.func82, Tryd.ntmps82
    go_wp2_with (go_at_call 93; refine (HW.out _ (HKT.out.below HB0.out) HS1.out HS2.out).mono ?_; rintro e w3 ⟨k3, p3, n3, N3, q3, l3, c3, rfl, hb3⟩; have h1 := hb_below K1.out hb3 (by simp); have y0 := hb_at h1 0 rfl; have y1 := hb_at h1 1 rfl; have y2 := hb_at h1 2 rfl; have y3 := hb_at h1 3 rfl; have y4 := hb_at h1 4 rfl; have g0 := hb_free h1 0; have g1 := hb_free h1 1; have g2 := hb_free h1 2; have g3 := hb_free h1 3; have g4 := hb_free h1 4; have HB3 := Lib.hid hb3; clear hb3 h1)
    have hB3 : Below w.heap.size w w3 := HB0.out.trans (HB3.out.mono HB0.out.size)
    refine bodyPost_ret (v := tv k3 p3 n3 N3 (.slice q3 l3 c3)) (by simp [results, Tryd.results82, go_sem, y0, y1, y2, y3, y4]) rfl ⟨_, _, _, _, _, _, _, rfl, (((((hB3.setCell (by simp) _).setCell (by simp) _).setCell (by simp) _).setCell (by simp) _).setCell (by simp) _)⟩
end Go.Proofs.YtncebhddcokkoaaDoor
