/- Texts in a row: Zm Yc Va. -/
import Derived.Test.YtncebhddcokkoaaDoorZR20
import Derived.Test.YtncebhddcokkoaaDoorZR13
import Derived.Test.YtncebhddcokkoaaDoorZR16
import Derived.Test.YtncebhddcokkoaaDoorZR18
import Derived.Test.YtncebhddcokkoaaDoorZR19
import Derived.Deep.QuietTactic
import Derived.BigQuiet
import Derived.Deep.DeepCutAuto
import Derived.Outline
/- What Match finds; being above; canonical forms (mathematics). -/
namespace Go.Proofs.YtncebhddcokkoaaDoor
open Go.RowKit
/-- A variable. -/
abbrev vT (s : ByteArray) : Tm := .mk 1 ⟨#[]⟩ s 0 []
/-- A type becomes another one, if so much is put. -/
inductive Sol (σ : ByteArray → Option Tm) : Tm → Tm → Prop
  | var {p n : ByteArray} {N : Int} {l : List Tm} {s : Tm} : σ n = some s → Sol σ (.mk 1 p n N l) s
  | con {k N : Int} {p n : ByteArray} {l m : List Tm} : k ≠ 1 → l.length = m.length → (∀ (i : Nat) (x y : Tm), l[i]? = some x → m[i]? = some y → Sol σ x y) → Sol σ (.mk k p n N l) (.mk k p n N m)
def Ext (P σ : ByteArray → Option Tm) : Prop := ∀ n t, P n = some t → σ n = some t
theorem Ext.refl (P : ByteArray → Option Tm) : Ext P P := fun _ _ h => h
theorem Ext.trans {P Q R : ByteArray → Option Tm} (h : Ext P Q) (h' : Ext Q R) : Ext P R := fun n t e => h' n t (h n t e)
theorem Ext.up {P : ByteArray → Option Tm} {n : ByteArray} {s : Tm} (h : P n = none) : Ext P (upV P n s) := fun m t e => by
  unfold upV
  by_cases hm : m = n
  · rw [hm, h] at e; cases e
  · rw [if_neg hm]; exact e
/-- One type is above another one. -/
def Ab (a b : Tm) : Prop := ∃ σ, Sol σ a b
/-- Types: variables have no parts, and no line. -/
def Ty : Nat → Tm → Prop
  | 0, _ => False
  | d + 1, .mk k p _ N kids => N = 0 ∧ (k = 1 → kids = [] ∧ p = ⟨#[]⟩) ∧ ∀ x ∈ kids, Ty d x
theorem Ty.dp : ∀ {d : Nat} {t : Tm}, Ty d t → Dp d t := by
  intro d
  induction d with
  | zero => intro t h; cases h
  | succ d ih =>
    intro t h
    obtain ⟨k, p, n, N, kids⟩ := t
    exact fun x hx => ih (h.2.2 x hx)
theorem Ty.more : ∀ {d : Nat} {t : Tm}, Ty d t → ∀ d', d ≤ d' → Ty d' t := by
  intro d
  induction d with
  | zero => intro t h; cases h
  | succ d ih =>
    intro t h d' hd
    obtain ⟨e, rfl⟩ : ∃ e, d' = e + 1 := ⟨d' - 1, by omega⟩
    obtain ⟨k, p, n, N, kids⟩ := t
    exact ⟨h.1, h.2.1, fun x hx => ih (h.2.2 x hx) e (by omega)⟩
theorem Ty.var {d : Nat} {p n : ByteArray} {N : Int} {l : List Tm} (h : Ty d (.mk 1 p n N l)) : (Tm.mk 1 p n N l) = vT n := by
  cases d with
  | zero => cases h
  | succ d =>
    obtain ⟨rfl, h2, _⟩ := h
    obtain ⟨rfl, rfl⟩ := h2 rfl
    rfl
theorem Ty.kid {d : Nat} {k N : Int} {p n : ByteArray} {l : List Tm} {x : Tm} {i : Nat} (h : Ty (d + 1) (.mk k p n N l)) (hx : l[i]? = some x) : Ty d x := h.2.2 x (List.mem_of_getElem? hx)
theorem Ty.leaf (s : ByteArray) (d : Nat) : Ty (d + 1) (vT s) := ⟨rfl, fun _ => ⟨rfl, rfl⟩, fun x hx => by cases hx⟩
theorem Ty.sub {σ : ByteArray → Option Tm} {e : Nat} (hσ : ∀ n y, σ n = some y → Ty e y) : ∀ {d : Nat} {t : Tm}, Ty d t → Ty (e + d) (sub σ d t) := by
  intro d
  induction d with
  | zero => intro t h; cases h
  | succ d ih =>
    intro t h
    obtain ⟨k, p, n, N, kids⟩ := t
    cases hc : (if k = 1 then σ n else none) with
    | some y =>
      by_cases hk : k = 1
      · subst hk
        rw [if_pos rfl] at hc
        rw [sub_yes hc]
        exact (hσ n y hc).more _ (by omega)
      · rw [if_neg hk] at hc; cases hc
    | none =>
      rw [sub_no hc]
      refine ⟨h.1, fun hk => ?_, fun x hx => ?_⟩
      · obtain ⟨rfl, rfl⟩ := h.2.1 hk
        exact ⟨rfl, rfl⟩
      · obtain ⟨z, hz, rfl⟩ := List.mem_map.1 hx
        exact ih (h.2.2 z hz)
/-- A type becomes what it is where so much is put. -/
theorem Sol.of_sub {σ : ByteArray → Option Tm} : ∀ {d : Nat} {t : Tm}, Ty d t → Sol (fun n => some ((σ n).getD (vT n))) t (sub σ d t) := by
  intro d
  induction d with
  | zero => intro t h; cases h
  | succ d ih =>
    intro t h
    obtain ⟨k, p, n, N, kids⟩ := t
    by_cases hk : k = 1
    · subst hk
      have hv := h.var
      cases hc : σ n with
      | some y =>
        rw [sub_yes hc]
        exact .var (by rw [hc]; rfl)
      | none =>
        rw [hv, sub_no (by rw [if_pos rfl, hc])]
        exact .var (by rw [hc]; rfl)
    · rw [sub_no (by rw [if_neg hk])]
      refine .con hk (by simp) fun i x y hx hy => ?_
      rw [List.getElem?_map, hx] at hy
      cases hy
      exact ih (h.kid hx)
theorem Ab.of_sub {σ : ByteArray → Option Tm} {d : Nat} {t : Tm} (h : Ty d t) : Ab t (sub σ d t) := ⟨_, Sol.of_sub h⟩
theorem Ab.refl {d : Nat} {t : Tm} (h : Ty d t) : Ab t t := by
  have h2 := Ab.of_sub (σ := fun _ => none) h
  rwa [sub_none (fun _ => rfl)] at h2
theorem Sol.det {σ : ByteArray → Option Tm} {a b : Tm} (h : Sol σ a b) : ∀ {c : Tm}, Sol σ a c → b = c := by
  induction h with
  | var h =>
    intro c h2
    cases h2 with
    | var h3 => exact Option.some.inj (h.symm.trans h3)
    | con h3 => exact absurd rfl h3
  | con h1 h2 h3 ih =>
    intro c h4
    cases h4 with
    | var => exact absurd rfl h1
    | con _ h5 h6 =>
      congr 1
      refine List.ext_getElem (h2.symm.trans h5) fun i hi hj => ?_
      have hl := h2 ▸ hi
      exact ih i _ _ (List.getElem?_eq_getElem (by omega)) (List.getElem?_eq_getElem hi) (h6 i _ _ (List.getElem?_eq_getElem (by omega)) (List.getElem?_eq_getElem hj))
noncomputable def after (τ : ByteArray → Option Tm) (y : Tm) : Option Tm := by
  classical exact if h : ∃ z, Sol τ y z then some (Classical.choose h) else none
theorem after_is {τ : ByteArray → Option Tm} {y z : Tm} (h : Sol τ y z) : after τ y = some z := by
  unfold after
  have h2 : ∃ z, Sol τ y z := ⟨z, h⟩
  rw [dif_pos h2]
  congr 1
  exact (Classical.choose_spec h2).det h
theorem Sol.trans {σ τ : ByteArray → Option Tm} {a b : Tm} (h : Sol σ a b) : ∀ {c : Tm}, Sol τ b c → Sol (fun n => (σ n).bind (after τ)) a c := by
  induction h with
  | var h =>
    intro c h2
    exact .var (by rw [h]; exact after_is h2)
  | con h1 h2 h3 ih =>
    intro c h4
    cases h4 with
    | var => exact absurd rfl h1
    | con _ h5 h6 =>
      refine .con h1 (h2.trans h5) fun i x z hx hz => ?_
      have hi := (List.getElem?_eq_some_iff.1 hz).1
      exact ih i x _ hx (List.getElem?_eq_getElem (by omega)) (h6 i _ z (List.getElem?_eq_getElem (by omega)) hz)
theorem Ab.trans {a b c : Tm} (h : Ab a b) (h2 : Ab b c) : Ab a c := by
  obtain ⟨σ, h⟩ := h
  obtain ⟨τ, h2⟩ := h2
  exact ⟨_, h.trans h2⟩
/-- Two types that are one but for the names, which go over into one another by f. -/
inductive Rn (f : ByteArray → ByteArray → Prop) : Tm → Tm → Prop
  | var {n m : ByteArray} : f n m → Rn f (vT n) (vT m)
  | con {k N : Int} {p n : ByteArray} {l m : List Tm} : k ≠ 1 → l.length = m.length → (∀ (i : Nat) (x y : Tm), l[i]? = some x → m[i]? = some y → Rn f x y) → Rn f (.mk k p n N l) (.mk k p n N m)
/-- Lists that go over into one another, place by place. -/
def Each (f : ByteArray → ByteArray → Prop) (ns ms : List ByteArray) : Prop := ns.length = ms.length ∧ ∀ (i : Nat) (n m : ByteArray), ns[i]? = some n → ms[i]? = some m → f n m
structure One (f : ByteArray → ByteArray → Prop) : Prop where
  to' : ∀ n m m', f n m → f n m' → m = m'
  fro : ∀ n n' m, f n m → f n' m → n = n'
theorem inN_iff {s : ByteArray} {l : List ByteArray} : inN s l = true ↔ s ∈ l := by
  unfold inN
  rw [List.any_eq_true]
  constructor
  · rintro ⟨t, h1, h2⟩
    rw [← of_decide_eq_true h2]; exact h1
  · intro h
    exact ⟨s, h, by simp⟩
theorem Each.inN {f : ByteArray → ByteArray → Prop} (h1 : One f) {ns ms : List ByteArray} (h : Each f ns ms) {n m : ByteArray} (hf : f n m) : Go.Proofs.YtncebhddcokkoaaDoor.inN n ns = Go.Proofs.YtncebhddcokkoaaDoor.inN m ms := by
  have key : Go.Proofs.YtncebhddcokkoaaDoor.inN n ns = true ↔ Go.Proofs.YtncebhddcokkoaaDoor.inN m ms = true := by
    rw [inN_iff, inN_iff]
    constructor
    · intro hm
      obtain ⟨i, hi⟩ := List.getElem?_of_mem hm
      have hlt := (List.getElem?_eq_some_iff.1 hi).1
      have hj := List.getElem?_eq_getElem (l := ms) (i := i) (by have := h.1; omega)
      have := h1.to' n m _ hf (h.2 i _ _ hi hj)
      exact this ▸ List.mem_of_getElem? hj
    · intro hm
      obtain ⟨i, hi⟩ := List.getElem?_of_mem hm
      have hlt := (List.getElem?_eq_some_iff.1 hi).1
      have hj := List.getElem?_eq_getElem (l := ns) (i := i) (by have := h.1; omega)
      have := h1.fro n _ m hf (h.2 i _ _ hj hi)
      exact this ▸ List.mem_of_getElem? hj
  cases hx : Go.Proofs.YtncebhddcokkoaaDoor.inN n ns with
  | true => exact (key.1 hx).symm
  | false =>
    cases hy : Go.Proofs.YtncebhddcokkoaaDoor.inN m ms with
    | false => rfl
    | true => rw [key.2 hy] at hx; cases hx
theorem Each.snoc {f : ByteArray → ByteArray → Prop} {ns ms : List ByteArray} (h : Each f ns ms) {n m : ByteArray} (hf : f n m) : Each f (ns ++ [n]) (ms ++ [m]) := by
  refine ⟨by simp [h.1], fun i x y hx hy => ?_⟩
  by_cases hi : i < ns.length
  · rw [List.getElem?_append_left hi] at hx
    rw [List.getElem?_append_left (by have := h.1; omega)] at hy
    exact h.2 i x y hx hy
  · have h2 := h.1
    rw [List.getElem?_append_right (by omega)] at hx hy
    have e : i - ns.length = 0 := by
      have := (List.getElem?_eq_some_iff.1 hx).1
      simp at this; omega
    have e2 : i - ms.length = 0 := by omega
    rw [e] at hx
    rw [e2] at hy
    cases hx
    cases hy
    exact hf
/-- What is put for the names, in order. -/
def RenOk (nm : Nat → ByteArray) (ns : List ByteArray) (ρ : ByteArray → Option Tm) : Prop := ∀ (i : Nat) (n : ByteArray), ns[i]? = some n → ρ n = some (vT (nm i))
theorem Rn.sub {f : ByteArray → ByteArray → Prop} {nm : Nat → ByteArray} (h1 : One f) {ns ms : List ByteArray} {ρ π : ByteArray → Option Tm} (hρ : RenOk nm ns ρ) (hπ : RenOk nm ms π) (hE : Each f ns ms) : ∀ {d : Nat} {a b : Tm}, Dp d a → Rn f a b → (∀ v, hasV d a v → v ∈ ns) → Go.Proofs.YtncebhddcokkoaaDoor.sub ρ d a = Go.Proofs.YtncebhddcokkoaaDoor.sub π d b := by
  intro d
  induction d with
  | zero => intro a b h; cases h
  | succ d ih =>
    intro a b hd h hv
    cases h with
    | @var n m hf =>
      obtain ⟨i, hi⟩ := List.getElem?_of_mem (hv n (.inl ⟨rfl, rfl⟩))
      have hlt := (List.getElem?_eq_some_iff.1 hi).1
      have hj := List.getElem?_eq_getElem (l := ms) (i := i) (by have := hE.1; omega)
      have e := h1.to' n m _ hf (hE.2 i _ _ hi hj)
      rw [← e] at hj
      rw [sub_yes (hρ i n hi), sub_yes (hπ i m hj)]
    | @con k N p n l m hk hl hR =>
      rw [sub_no (by rw [if_neg hk]), sub_no (by rw [if_neg hk])]
      congr 1
      refine List.ext_getElem (by simpa using hl) fun i hi hj => ?_
      rw [List.getElem_map, List.getElem_map]
      rw [List.length_map] at hi hj
      exact ih (hd _ (List.getElem_mem hi)) (hR i _ _ (List.getElem?_eq_getElem hi) (List.getElem?_eq_getElem hj)) fun v h => hv v (.inr ⟨_, List.getElem_mem hi, h⟩)
end Go.Proofs.YtncebhddcokkoaaDoor
/- Above, and Same, of the program. -/
namespace Go.Proofs.YtncebhddcokkoaaDoor
open Go.RowKit
/-- May Match go through these two? -/
structure Two (w : World) (d : Nat) (va vb : Value) (ta tb : Tm) : Prop where
  a : IsT w d va ta
  b : IsT w d vb tb
  sa : Sm d ta
  sb : Sm d tb
  za : tszN d ta ≤ 30000
  zb : tszN d tb ≤ 30000
theorem Two.below {w w' : World} {d : Nat} {va vb : Value} {ta tb : Tm} (h : Two w d va vb ta tb) (hb : Below w.heap.size w w') : Two w' d va vb ta tb := ⟨h.a.below hb, h.b.below hb, h.sa, h.sb, h.za, h.zb⟩
theorem Two.turn {w : World} {d : Nat} {va vb : Value} {ta tb : Tm} (h : Two w d va vb ta tb) : Two w d vb va tb ta := ⟨h.b, h.a, h.sb, h.sa, h.zb, h.za⟩
theorem Two.shape {w : World} {d : Nat} {va vb : Value} {ta tb : Tm} (h : Two w d va vb ta tb) : ∃ k1 p1 n1 N1 q1 l1 c1 k2 p2 n2 N2 q2 l2 c2, va = tv k1 p1 n1 N1 (.slice q1 l1 c1) ∧ vb = tv k2 p2 n2 N2 (.slice q2 l2 c2) := by
  obtain ⟨_, k1, p1, n1, N1, _, l1, _, _, rfl, _, _, q1, c1, rfl, _, _⟩ := h.a.open
  obtain ⟨_, k2, p2, n2, N2, _, l2, _, _, rfl, _, _, q2, c2, rfl, _, _⟩ := h.b.open
  exact ⟨_, _, _, _, _, _, _, _, _, _, _, _, _, _, rfl, rfl⟩
/-- What Same says. -/
def SameM (ta tb : Tm) (r : Bool) : Prop := ∃ r1, Mt [(ta, tb)] (fun _ => none) r1 ∧ (r1 = false → r = false) ∧ (r1 = true → Mt [(tb, ta)] (fun _ => none) r)
theorem SameM.parts {k : Int} {p n e : ByteArray} {la lb : List Tm} {r r' : Bool} (hk : k ≠ 1) (h : SameM (.mk k p n 0 la) (.mk k p n 0 lb) r) (h' : SameM (.mk 4 e e 0 la) (.mk 4 e e 0 lb) r') : r = r' := by
  obtain ⟨r1, h1, h2, h3⟩ := h
  obtain ⟨r2, h4, h5, h6⟩ := h'
  obtain rfl := h1.parts hk h4
  cases r1 with
  | false => rw [h2 rfl, h5 rfl]
  | true => exact (h3 rfl).parts hk (h6 rfl)
end Go.Proofs.YtncebhddcokkoaaDoor
/- Lists of terms that are made out of terms that were there, and new ones. -/
namespace Go.Proofs.YtncebhddcokkoaaDoor
open Go.RowKit
theorem IsT.isX {w : World} {d : Nat} : ∀ {v : Value} {x : Tm}, IsT w d v x → IsX (fun b => b < w.heap.size) w d v x := by
  induction d with
  | zero => intro v x h; cases h
  | succ d ih =>
    intro v x h
    obtain ⟨k, p, n, N, kids⟩ := x
    obtain ⟨q, c, h1, h2, h3, h4, h5⟩ := h
    refine ⟨q, c, h1, h2, h3, h4, fun i y hy => ?_⟩
    obtain ⟨b, o, k', p', n', N', s', e, ha, ht⟩ := h5 i y hy
    exact ⟨b, o, k', p', n', N', s', e, ha.lt, ha, ih ht⟩
theorem TAt.of_blk {w : World} {g j : Nat} {cs : Array Value} {k : Int} {p n : ByteArray} {N : Int} {s : Value} (h : w.heap[g]? = some (.cells cs 36 (0, 0)))
    (h0 : cs[j]? = some (.int .i64 k)) (h1 : cs[j + 1]? = some (.string p)) (h2 : cs[j + 2]? = some (.string n)) (h3 : cs[j + 3]? = some (.int .i64 N)) (h4 : cs[j + 4]? = some s) : TAt w g j k p n N s :=
  ⟨hb_at h _ h0, hb_at h _ h1, hb_at h _ h2, hb_at h _ h3, hb_at h _ h4⟩
theorem SRow.nil (w : World) : SRow w (.slice none 0 0) [] := ⟨none, 0, rfl, fun i s h => by simp at h⟩
theorem SRow.two {w : World} {g : Nat} {x y : ByteArray} (h : w.heap[g]? = some (.cells #[.string x, .string y] 9 (0, 0))) : SRow w (.slice (some ⟨g, 0, none⟩) 2 2) [x, y] := by
  refine ⟨_, 2, rfl, fun i z hz => ⟨g, rfl, ?_⟩⟩
  match i, hz with
  | 0, hz => cases hz; exact hb_at h 0 rfl
  | 1, hz => cases hz; exact hb_at h 1 rfl
  | i + 2, hz => simp at hz
/-- What a list of terms that is being made holds, the terms out of old blocks and new ones. -/
def MadeB (B0 base : Nat) (w : World) (d : Nat) (sv : Value) (done : List Tm) : Prop :=
  ∃ l : List T5, l.length = done.length ∧ w.ownsRow base 36 5 sv l.length (flatC l) ∧ ∀ (i : Nat) (x : Tm), done[i]? = some x → ∃ t : T5, l[i]? = some t ∧ IsX (fun b => (b < B0 ∨ base ≤ b) ∧ some b ≠ sv.ownBlock) w d (t5v t) x
theorem MadeB.nil (B0 base : Nat) (w : World) (d : Nat) : MadeB B0 base w d (.slice none 0 0) [] := ⟨[], rfl, World.ownsRow_nil _ _ _ _, fun i x h => by simp at h⟩
theorem MadeB.shape {B0 base : Nat} {w : World} {d : Nat} {sv : Value} {done : List Tm} (h : MadeB B0 base w d sv done) : ∃ q c, sv = .slice q done.length c := by
  obtain ⟨l, hl, ho, _⟩ := h
  rcases ho.2 with ⟨rfl, h0⟩ | ⟨g, cap, cur, rfl, _⟩
  · exact ⟨none, 0, by rw [← hl, h0]⟩
  · exact ⟨_, _, by rw [hl]⟩
theorem MadeB.move {B0 base : Nat} {w w' : World} {d : Nat} {sv : Value} {done : List Tm} (h : MadeB B0 base w d sv done) (hw : ∀ b, (b < B0 ∨ base ≤ b) → b < w.heap.size → w'.heap[b]? = w.heap[b]?) : MadeB B0 base w' d sv done := by
  obtain ⟨l, hl, ho, hd⟩ := h
  refine ⟨l, hl, own_kept ho fun g x hg hx => ?_, fun i x hx => ?_⟩
  · have := ho.lt g hg
    rw [hw g (.inr this.1) this.2]; exact hx
  · obtain ⟨t, h1, h2⟩ := hd i x hx
    exact ⟨t, h1, h2.move fun b hX hb => ⟨hX, hw b hX.1 hb⟩⟩
theorem MadeB.append {B0 base : Nat} {w wq : World} {d : Nat} {sv : Value} {done : List Tm} {x : Tm} {g : Nat} {k N : Int} {p n : ByteArray} {q : Option Addr} {ln c : Nat} (h : MadeB B0 base w d sv done) (hB : B0 ≤ base) (hbase : base ≤ w.heap.size) (hb : Below w.heap.size w wq)
    (hx : IsX (fun b => b < B0 ∨ w.heap.size ≤ b) wq d (tv k p n N (.slice q ln c)) x) (hg : wq.heap[g]? = some (.cells #[.int .i64 k, .string p, .string n, .int .i64 N, .slice q ln c] 36 (0, 0))) (cc : Nat) (hn : done.length ≤ 100000) :
    ∃ v' w', (Builtin.append_ #[34, 34] 34 #[sv, .slice (some ⟨g, 0, none⟩) 1 cc]).run Tryd.prog wq = .ok v' w' ∧ MadeB B0 base w' d v' (done ++ [x]) ∧ Below base wq w' := by
  obtain ⟨l, hl, ho, hd⟩ := h
  have hlt := ho.lt
  have hsz := hb.size
  obtain ⟨v', w', hr, h2, hgr, hblk⟩ := append_t wq base sv l (own_below ho hb) g 0 (TAt.of_blk hg rfl rfl rfl rfl rfl) cc (by omega) (by omega)
  refine ⟨v', w', hr, ⟨l ++ [(k, p, n, N, Value.slice q ln c)], by simp [hl], h2, fun i y hy => ?_⟩, (Below.refl _ wq).grown hgr (by omega) (fun j hj => (hlt j hj).1)⟩
  rw [List.getElem?_append] at hy
  split at hy
  · rename_i hi
    obtain ⟨t, h3, h4⟩ := hd i y hy
    refine ⟨t, by rw [List.getElem?_append_left (by omega)]; exact h3, ?_⟩
    refine h4.move fun b hX hl2 => ⟨⟨hX.1, fun e => ?_⟩, by rw [hgr.block b (by omega) hX.2, hb.block b hl2]⟩
    rcases hblk with h | h
    · exact hX.2 (e.trans h)
    · rw [h] at e; have := Option.some.inj e; omega
  · rename_i hi
    have hi2 : i - done.length = 0 := by
      have := (List.getElem?_eq_some_iff.1 hy).1
      simp at this
      omega
    rw [hi2] at hy
    obtain rfl : x = y := by simpa using hy
    have hil : i = l.length := by omega
    refine ⟨_, by rw [hil]; exact List.getElem?_concat_length, ?_⟩
    have hne : ∀ b, (b < B0 ∨ w.heap.size ≤ b) → some b ≠ sv.ownBlock := fun b hX e => by have := hlt b e.symm; omega
    refine hx.move fun b hX hl2 => ⟨⟨by omega, fun e => ?_⟩, by rw [hgr.block b hl2 (hne b hX)]⟩
    rcases hblk with h | h
    · exact hne b hX (e.trans h)
    · rw [h] at e; have := Option.some.inj e; omega
theorem MadeB.all {B0 base : Nat} {w w' : World} {d : Nat} {sv : Value} {kids : List Tm} (h : MadeB B0 base w d sv kids) (hk : kids.length ≤ maxLen) (hw : ∀ b, (b < B0 ∨ base ≤ b) → w'.heap[b]? = w.heap[b]?) : KidsX (fun b => b < B0 ∨ base ≤ b) w' d sv kids := by
  obtain ⟨l, hl, ho, hd⟩ := h
  obtain ⟨hfl, ⟨rfl, h0⟩ | ⟨g, cap, cur, rfl, hbg, hh, _, _, _, htk⟩⟩ := ho
  · have : kids = [] := List.eq_nil_of_length_eq_zero (by omega)
    subst this
    exact ⟨none, 0, rfl, hk, fun i x h => by simp at h⟩
  · refine ⟨some ⟨g, 0, none⟩, cap, by rw [hl], hk, fun i x hx => ?_⟩
    obtain ⟨t, h1, h2⟩ := hd i x hx
    have hi : i < l.length := (List.getElem?_eq_some_iff.1 h1).1
    have hcell : ∀ j (hj : j < 5), w'.cell? ⟨g, 0 + i * 5 + j, none⟩ = (flatC l)[i * 5 + j]? := fun j hj => by
      have h3 : w'.cell? ⟨g, 0 + i * 5 + j, none⟩ = cur[0 + i * 5 + j]? := by
        have hh2 : w'.heap[g]? = some (.cells cur 36 (0, 0)) := by rw [hw g (.inr hbg), hh]
        exact hb_cell hh2 _
      rw [h3, ← htk, List.getElem?_take, if_pos (by omega), Array.getElem?_toList, Nat.zero_add]
    have hflat : ∀ j (hj : j < 5), (flatC l)[i * 5 + j]? = [Value.int .i64 t.1, .string t.2.1, .string t.2.2.1, .int .i64 t.2.2.2.1, t.2.2.2.2][j]? := fun j hj => by
      have e : l = l.take i ++ t :: l.drop (i + 1) := by
        have h4 := List.getElem?_eq_some_iff.1 h1
        rw [← h4.2, ← List.drop_eq_getElem_cons hi, List.take_append_drop]
      have e2 : flatC l = flatC (l.take i) ++ ([Value.int .i64 t.1, .string t.2.1, .string t.2.2.1, .int .i64 t.2.2.2.1, t.2.2.2.2] ++ flatC (l.drop (i + 1))) := by
        conv => lhs; rw [e]
        simp [flatC]
      have hlen : (flatC (l.take i)).length = i * 5 := by rw [flatC_length, List.length_take, Nat.min_eq_left (by omega)]
      rw [e2, List.getElem?_append_right (by omega), hlen, Nat.add_sub_cancel_left, List.getElem?_append_left (by simpa using hj)]
    refine ⟨g, 0, t.1, t.2.1, t.2.2.1, t.2.2.2.1, t.2.2.2.2, rfl, .inr hbg, ⟨?_, ?_, ?_, ?_, ?_⟩, h2.move fun b hX _ => ⟨hX.1, hw b hX.1⟩⟩
    · have := hcell 0 (by decide); rw [hflat 0 (by decide)] at this; exact this
    · have := hcell 1 (by decide); rw [hflat 1 (by decide)] at this; exact this
    · have := hcell 2 (by decide); rw [hflat 2 (by decide)] at this; exact this
    · have := hcell 3 (by decide); rw [hflat 3 (by decide)] at this; exact this
    · have := hcell 4 (by decide); rw [hflat 4 (by decide)] at this; exact this
end Go.Proofs.YtncebhddcokkoaaDoor
