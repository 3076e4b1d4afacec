/- Texts in a row: Zm Ub Yc. -/
import Derived.Test.YtncebhddcokkoaaDoorZT20
import Derived.Test.YtncebhddcokkoaaDoorZT13
import Derived.Test.YtncebhddcokkoaaDoorZT16
import Derived.Test.YtncebhddcokkoaaDoorZT18
import Derived.Test.YtncebhddcokkoaaDoorZT19
import Derived.Deep.QuietTactic
import Derived.BigQuiet
import Derived.Deep.DeepCutAuto
import Derived.Outline
/- What Match finds; being above; canonical forms (mathematics). -/
namespace Go.Proofs.YtncebhddcokkoaaDoor
open Go.RowKit
/-- A variable. -/
abbrev vT (s : ByteArray) : Tm := .mk 1 ⟨#[]⟩ s 0 []
/-- A type becomes another one, if so much is put. -/
inductive Sol (σ : ByteArray → Option Tm) : Tm → Tm → Prop
  | var {p n : ByteArray} {N : Int} {l : List Tm} {s : Tm} : σ n = some s → Sol σ (.mk 1 p n N l) s
  | con {k N : Int} {p n : ByteArray} {l m : List Tm} : k ≠ 1 → l.length = m.length → (∀ (i : Nat) (x y : Tm), l[i]? = some x → m[i]? = some y → Sol σ x y) → Sol σ (.mk k p n N l) (.mk k p n N m)
def Ext (P σ : ByteArray → Option Tm) : Prop := ∀ n t, P n = some t → σ n = some t
theorem Ext.refl (P : ByteArray → Option Tm) : Ext P P := fun _ _ h => h
theorem Ext.trans {P Q R : ByteArray → Option Tm} (h : Ext P Q) (h' : Ext Q R) : Ext P R := fun n t e => h' n t (h n t e)
theorem Ext.up {P : ByteArray → Option Tm} {n : ByteArray} {s : Tm} (h : P n = none) : Ext P (upV P n s) := fun m t e => by
  unfold upV
  by_cases hm : m = n
  · rw [hm, h] at e; cases e
  · rw [if_neg hm]; exact e
theorem zip_mem {l m : List Tm} {i : Nat} {x y : Tm} (hx : l[i]? = some x) (hy : m[i]? = some y) : (x, y) ∈ l.zip m := by
  refine List.mem_of_getElem? (i := i) ?_
  rw [List.getElem?_zip_eq_some]
  exact ⟨hx, hy⟩
theorem Mt.yes {st : List (Tm × Tm)} {P : ByteArray → Option Tm} {r : Bool} (h : Mt st P r) : r = true → ∃ Q, Ext P Q ∧ ∀ x ∈ st, Sol Q x.1 x.2 := by
  induction h with
  | done => intro _; exact ⟨_, Ext.refl _, fun x hx => by cases hx⟩
  | old h1 _ ih =>
    intro e
    obtain ⟨Q, i1, i2⟩ := ih e
    refine ⟨Q, i1, fun x hx => ?_⟩
    rcases List.mem_cons.1 hx with rfl | hx
    · exact .var (i1 _ _ h1)
    · exact i2 x hx
  | clash => intro e; cases e
  | new h1 _ ih =>
    intro e
    obtain ⟨Q, i1, i2⟩ := ih e
    refine ⟨Q, (Ext.up h1).trans i1, fun x hx => ?_⟩
    rcases List.mem_cons.1 hx with rfl | hx
    · exact .var (i1 _ _ (by unfold upV; rw [if_pos rfl]))
    · exact i2 x hx
  | differ => intro e; cases e
  | go h1 h2 _ ih =>
    intro e
    obtain ⟨Q, i1, i2⟩ := ih e
    refine ⟨Q, i1, fun x hx => ?_⟩
    rcases List.mem_cons.1 hx with rfl | hx
    · exact .con h1 h2 fun i x y hx hy => i2 (x, y) (List.mem_append_left _ (List.mem_reverse.2 (zip_mem hx hy)))
    · exact i2 x (List.mem_append_right _ hx)
/-- One type is above another one. -/
def Ab (a b : Tm) : Prop := ∃ σ, Sol σ a b
/-- Types: variables have no parts, and no line. -/
def Ty : Nat → Tm → Prop
  | 0, _ => False
  | d + 1, .mk k p _ N kids => N = 0 ∧ (k = 1 → kids = [] ∧ p = ⟨#[]⟩) ∧ ∀ x ∈ kids, Ty d x
theorem Ty.dp : ∀ {d : Nat} {t : Tm}, Ty d t → Dp d t := by
  intro d
  induction d with
  | zero => intro t h; cases h
  | succ d ih =>
    intro t h
    obtain ⟨k, p, n, N, kids⟩ := t
    exact fun x hx => ih (h.2.2 x hx)
theorem Ty.more : ∀ {d : Nat} {t : Tm}, Ty d t → ∀ d', d ≤ d' → Ty d' t := by
  intro d
  induction d with
  | zero => intro t h; cases h
  | succ d ih =>
    intro t h d' hd
    obtain ⟨e, rfl⟩ : ∃ e, d' = e + 1 := ⟨d' - 1, by omega⟩
    obtain ⟨k, p, n, N, kids⟩ := t
    exact ⟨h.1, h.2.1, fun x hx => ih (h.2.2 x hx) e (by omega)⟩
theorem Ty.var {d : Nat} {p n : ByteArray} {N : Int} {l : List Tm} (h : Ty d (.mk 1 p n N l)) : (Tm.mk 1 p n N l) = vT n := by
  cases d with
  | zero => cases h
  | succ d =>
    obtain ⟨rfl, h2, _⟩ := h
    obtain ⟨rfl, rfl⟩ := h2 rfl
    rfl
theorem Ty.kid {d : Nat} {k N : Int} {p n : ByteArray} {l : List Tm} {x : Tm} {i : Nat} (h : Ty (d + 1) (.mk k p n N l)) (hx : l[i]? = some x) : Ty d x := h.2.2 x (List.mem_of_getElem? hx)
theorem Ty.leaf (s : ByteArray) (d : Nat) : Ty (d + 1) (vT s) := ⟨rfl, fun _ => ⟨rfl, rfl⟩, fun x hx => by cases hx⟩
theorem Ty.sub {σ : ByteArray → Option Tm} {e : Nat} (hσ : ∀ n y, σ n = some y → Ty e y) : ∀ {d : Nat} {t : Tm}, Ty d t → Ty (e + d) (sub σ d t) := by
  intro d
  induction d with
  | zero => intro t h; cases h
  | succ d ih =>
    intro t h
    obtain ⟨k, p, n, N, kids⟩ := t
    cases hc : (if k = 1 then σ n else none) with
    | some y =>
      by_cases hk : k = 1
      · subst hk
        rw [if_pos rfl] at hc
        rw [sub_yes hc]
        exact (hσ n y hc).more _ (by omega)
      · rw [if_neg hk] at hc; cases hc
    | none =>
      rw [sub_no hc]
      refine ⟨h.1, fun hk => ?_, fun x hx => ?_⟩
      · obtain ⟨rfl, rfl⟩ := h.2.1 hk
        exact ⟨rfl, rfl⟩
      · obtain ⟨z, hz, rfl⟩ := List.mem_map.1 hx
        exact ih (h.2.2 z hz)
/-- A type becomes what it is where so much is put. -/
theorem Sol.of_sub {σ : ByteArray → Option Tm} : ∀ {d : Nat} {t : Tm}, Ty d t → Sol (fun n => some ((σ n).getD (vT n))) t (sub σ d t) := by
  intro d
  induction d with
  | zero => intro t h; cases h
  | succ d ih =>
    intro t h
    obtain ⟨k, p, n, N, kids⟩ := t
    by_cases hk : k = 1
    · subst hk
      have hv := h.var
      cases hc : σ n with
      | some y =>
        rw [sub_yes hc]
        exact .var (by rw [hc]; rfl)
      | none =>
        rw [hv, sub_no (by rw [if_pos rfl, hc])]
        exact .var (by rw [hc]; rfl)
    · rw [sub_no (by rw [if_neg hk])]
      refine .con hk (by simp) fun i x y hx hy => ?_
      rw [List.getElem?_map, hx] at hy
      cases hy
      exact ih (h.kid hx)
theorem Ab.of_sub {σ : ByteArray → Option Tm} {d : Nat} {t : Tm} (h : Ty d t) : Ab t (sub σ d t) := ⟨_, Sol.of_sub h⟩
theorem Ab.refl {d : Nat} {t : Tm} (h : Ty d t) : Ab t t := by
  have h2 := Ab.of_sub (σ := fun _ => none) h
  rwa [sub_none (fun _ => rfl)] at h2
theorem Sol.det {σ : ByteArray → Option Tm} {a b : Tm} (h : Sol σ a b) : ∀ {c : Tm}, Sol σ a c → b = c := by
  induction h with
  | var h =>
    intro c h2
    cases h2 with
    | var h3 => exact Option.some.inj (h.symm.trans h3)
    | con h3 => exact absurd rfl h3
  | con h1 h2 h3 ih =>
    intro c h4
    cases h4 with
    | var => exact absurd rfl h1
    | con _ h5 h6 =>
      congr 1
      refine List.ext_getElem (h2.symm.trans h5) fun i hi hj => ?_
      have hl := h2 ▸ hi
      exact ih i _ _ (List.getElem?_eq_getElem (by omega)) (List.getElem?_eq_getElem hi) (h6 i _ _ (List.getElem?_eq_getElem (by omega)) (List.getElem?_eq_getElem hj))
noncomputable def after (τ : ByteArray → Option Tm) (y : Tm) : Option Tm := by
  classical exact if h : ∃ z, Sol τ y z then some (Classical.choose h) else none
theorem after_is {τ : ByteArray → Option Tm} {y z : Tm} (h : Sol τ y z) : after τ y = some z := by
  unfold after
  have h2 : ∃ z, Sol τ y z := ⟨z, h⟩
  rw [dif_pos h2]
  congr 1
  exact (Classical.choose_spec h2).det h
theorem Sol.trans {σ τ : ByteArray → Option Tm} {a b : Tm} (h : Sol σ a b) : ∀ {c : Tm}, Sol τ b c → Sol (fun n => (σ n).bind (after τ)) a c := by
  induction h with
  | var h =>
    intro c h2
    exact .var (by rw [h]; exact after_is h2)
  | con h1 h2 h3 ih =>
    intro c h4
    cases h4 with
    | var => exact absurd rfl h1
    | con _ h5 h6 =>
      refine .con h1 (h2.trans h5) fun i x z hx hz => ?_
      have hi := (List.getElem?_eq_some_iff.1 hz).1
      exact ih i x _ hx (List.getElem?_eq_getElem (by omega)) (h6 i _ z (List.getElem?_eq_getElem (by omega)) hz)
theorem Ab.trans {a b c : Tm} (h : Ab a b) (h2 : Ab b c) : Ab a c := by
  obtain ⟨σ, h⟩ := h
  obtain ⟨τ, h2⟩ := h2
  exact ⟨_, h.trans h2⟩
/-- Two types that are one but for the names, which go over into one another by f. -/
inductive Rn (f : ByteArray → ByteArray → Prop) : Tm → Tm → Prop
  | var {n m : ByteArray} : f n m → Rn f (vT n) (vT m)
  | con {k N : Int} {p n : ByteArray} {l m : List Tm} : k ≠ 1 → l.length = m.length → (∀ (i : Nat) (x y : Tm), l[i]? = some x → m[i]? = some y → Rn f x y) → Rn f (.mk k p n N l) (.mk k p n N m)
/-- Lists that go over into one another, place by place. -/
def Each (f : ByteArray → ByteArray → Prop) (ns ms : List ByteArray) : Prop := ns.length = ms.length ∧ ∀ (i : Nat) (n m : ByteArray), ns[i]? = some n → ms[i]? = some m → f n m
structure One (f : ByteArray → ByteArray → Prop) : Prop where
  to' : ∀ n m m', f n m → f n m' → m = m'
  fro : ∀ n n' m, f n m → f n' m → n = n'
theorem inN_iff {s : ByteArray} {l : List ByteArray} : inN s l = true ↔ s ∈ l := by
  unfold inN
  rw [List.any_eq_true]
  constructor
  · rintro ⟨t, h1, h2⟩
    rw [← of_decide_eq_true h2]; exact h1
  · intro h
    exact ⟨s, h, by simp⟩
theorem Each.inN {f : ByteArray → ByteArray → Prop} (h1 : One f) {ns ms : List ByteArray} (h : Each f ns ms) {n m : ByteArray} (hf : f n m) : Go.Proofs.YtncebhddcokkoaaDoor.inN n ns = Go.Proofs.YtncebhddcokkoaaDoor.inN m ms := by
  have key : Go.Proofs.YtncebhddcokkoaaDoor.inN n ns = true ↔ Go.Proofs.YtncebhddcokkoaaDoor.inN m ms = true := by
    rw [inN_iff, inN_iff]
    constructor
    · intro hm
      obtain ⟨i, hi⟩ := List.getElem?_of_mem hm
      have hlt := (List.getElem?_eq_some_iff.1 hi).1
      have hj := List.getElem?_eq_getElem (l := ms) (i := i) (by have := h.1; omega)
      have := h1.to' n m _ hf (h.2 i _ _ hi hj)
      exact this ▸ List.mem_of_getElem? hj
    · intro hm
      obtain ⟨i, hi⟩ := List.getElem?_of_mem hm
      have hlt := (List.getElem?_eq_some_iff.1 hi).1
      have hj := List.getElem?_eq_getElem (l := ns) (i := i) (by have := h.1; omega)
      have := h1.fro n _ m hf (h.2 i _ _ hj hi)
      exact this ▸ List.mem_of_getElem? hj
  cases hx : Go.Proofs.YtncebhddcokkoaaDoor.inN n ns with
  | true => exact (key.1 hx).symm
  | false =>
    cases hy : Go.Proofs.YtncebhddcokkoaaDoor.inN m ms with
    | false => rfl
    | true => rw [key.2 hy] at hx; cases hx
theorem Each.snoc {f : ByteArray → ByteArray → Prop} {ns ms : List ByteArray} (h : Each f ns ms) {n m : ByteArray} (hf : f n m) : Each f (ns ++ [n]) (ms ++ [m]) := by
  refine ⟨by simp [h.1], fun i x y hx hy => ?_⟩
  by_cases hi : i < ns.length
  · rw [List.getElem?_append_left hi] at hx
    rw [List.getElem?_append_left (by have := h.1; omega)] at hy
    exact h.2 i x y hx hy
  · have h2 := h.1
    rw [List.getElem?_append_right (by omega)] at hx hy
    have e : i - ns.length = 0 := by
      have := (List.getElem?_eq_some_iff.1 hx).1
      simp at this; omega
    have e2 : i - ms.length = 0 := by omega
    rw [e] at hx
    rw [e2] at hy
    cases hx
    cases hy
    exact hf
/-- What is put for the names, in order. -/
def RenOk (nm : Nat → ByteArray) (ns : List ByteArray) (ρ : ByteArray → Option Tm) : Prop := ∀ (i : Nat) (n : ByteArray), ns[i]? = some n → ρ n = some (vT (nm i))
theorem Rn.sub {f : ByteArray → ByteArray → Prop} {nm : Nat → ByteArray} (h1 : One f) {ns ms : List ByteArray} {ρ π : ByteArray → Option Tm} (hρ : RenOk nm ns ρ) (hπ : RenOk nm ms π) (hE : Each f ns ms) : ∀ {d : Nat} {a b : Tm}, Dp d a → Rn f a b → (∀ v, hasV d a v → v ∈ ns) → Go.Proofs.YtncebhddcokkoaaDoor.sub ρ d a = Go.Proofs.YtncebhddcokkoaaDoor.sub π d b := by
  intro d
  induction d with
  | zero => intro a b h; cases h
  | succ d ih =>
    intro a b hd h hv
    cases h with
    | @var n m hf =>
      obtain ⟨i, hi⟩ := List.getElem?_of_mem (hv n (.inl ⟨rfl, rfl⟩))
      have hlt := (List.getElem?_eq_some_iff.1 hi).1
      have hj := List.getElem?_eq_getElem (l := ms) (i := i) (by have := hE.1; omega)
      have e := h1.to' n m _ hf (hE.2 i _ _ hi hj)
      rw [← e] at hj
      rw [sub_yes (hρ i n hi), sub_yes (hπ i m hj)]
    | @con k N p n l m hk hl hR =>
      rw [sub_no (by rw [if_neg hk]), sub_no (by rw [if_neg hk])]
      congr 1
      refine List.ext_getElem (by simpa using hl) fun i hi hj => ?_
      rw [List.getElem_map, List.getElem_map]
      rw [List.length_map] at hi hj
      exact ih (hd _ (List.getElem_mem hi)) (hR i _ _ (List.getElem?_eq_getElem hi) (List.getElem?_eq_getElem hj)) fun v h => hv v (.inr ⟨_, List.getElem_mem hi, h⟩)
end Go.Proofs.YtncebhddcokkoaaDoor
/- What Few tells of a term that it lets through. -/
namespace Go.Proofs.YtncebhddcokkoaaDoor
open Go.RowKit
def mn (s : ByteArray) : Nat := if 100000 < s.size then 100000 else s.size
theorem mn_le (s : ByteArray) : mn s ≤ 100000 := by unfold mn; split <;> omega
theorem mn_if (s : ByteArray) : (if (100000 : Int) < (s.size : Int) then (100000 : Int) else (s.size : Int)) = ((mn s : Nat) : Int) := by
  unfold mn
  by_cases h : 100000 < s.size
  · rw [if_pos h, if_pos (by omega)]; rfl
  · rw [if_neg h, if_neg (by omega)]
def SomeW (d : Nat) (t : Tm) (w : World) (e : Ending) (w' : World) : Prop := ∃ n : Int, e = .returned (.int .i64 n) ∧ 0 ≤ n ∧ n ≤ 100000 ∧ (n ≤ 600 → Sm d t ∧ ((tszN d t : Nat) : Int) ≤ n) ∧ Below w.heap.size w w'
set_option maxRecDepth 100000 in
set_option maxHeartbeats 2000000 in
theorem weight2_any (d : Nat) : ∀ (va : Value) (ta : Tm) (deep : Int) (w : World), IsT w d va ta → Calls Tryd.prog 71 #[va, .int .i64 deep] w (SomeW d ta w) := by
  induction d with
  | zero => intro va ta deep w h; cases h
  | succ d ih =>
    intro va ta deep w ha
    obtain ⟨d1, k1, p1, n1, N1, s1, l1, e1, rfl, rfl, hp1, hn1, hk1⟩ := ha.open
    obtain rfl : d = d1 := by omega
    obtain ⟨q1, c1, hs1, hm1, hr1⟩ := hk1
    subst hs1
    have HR1 := Lib.hid hr1
    clear ha e1 hr1
    unfold maxLen at hm1 hp1 hn1
    have HIH := Lib.hid ih
    clear ih
    by_cases hd : 90 < deep
    · go_enter Tryd.func71, Tryd.ntmps71
      go_wp2
      go_ret
      exact ⟨_, rfl, by decide, by decide, fun h => by omega, below_alloc w _⟩
    by_cases hl : (300 : Int) < (l1.length : Int)
    · go_enter Tryd.func71, Tryd.ntmps71
      go_wp2
      go_ret
      exact ⟨_, rfl, by decide, by decide, fun h => by omega, below_alloc w _⟩
    have hd' : deep ≤ 90 := by omega
    have hl' : (l1.length : Int) ≤ 300 := by omega
    have hd2 : decide (90 < deep) = false := by simpa using hd'
    have hl2 : decide ((300 : Int) < (l1.length : Int)) = false := by simpa using hl'
    clear hd hl
    have q1m := mn_if p1
    have q2m := mn_if n1
    have q1l := mn_le p1
    have q2l := mn_le n1
    generalize mn p1 = u1 at *
    generalize mn n1 = u2 at *
    have hnew := Lib.hid (hb_new w (.cells #[.int .i64 k1, .string p1, .string n1, .int .i64 N1, .slice q1 l1.length c1] 36))
    go_enter Tryd.func71, Tryd.ntmps71
    go_upto_region 3 with (fail)
    generalize hW1 : w.alloc (.cells #[.int .i64 k1, .string p1, .string n1, .int .i64 N1, .slice q1 l1.length c1] 36) = W1 at *
    have hBW : Below w.heap.size w W1 := by rw [← hW1]; exact below_alloc w _
    have HBW := Lib.hid hBW
    have hzw : w.heap.size + 1 ≤ W1.heap.size := by rw [← hW1]; simp
    have m1 := hb_at hnew.out 1 rfl
    have m2 := hb_at hnew.out 2 rfl
    have m4 := hb_at hnew.out 4 rfl
    clear hW1 hBW
    go_cut [5] (fun v wx => (∃ m : Int, v = .int .i64 m ∧ 1 ≤ m ∧ m ≤ 20000) ∧ wx = W1)
    case first =>
      go_wp2_with fail
      all_goals
        go_meet
        exact ⟨⟨_, rfl, by omega, by omega⟩, rfl⟩
    case rest =>
      obtain ⟨⟨m0, rfl, hm0, hm0'⟩, rfl⟩ := hcut
      go_wp2
      have M4 : RowKit.Hid (wc.cell? ⟨w.heap.size, 4, none⟩ = some (.slice q1 l1.length c1)) := Lib.hid m4
      clear m1 m2 m4
      go_loopw [5, 29] (fun n i wr => ∃ k : Nat, k ≤ l1.length ∧ i = .int .i64 k ∧ (∃ m : Int, n = .int .i64 m ∧ 1 ≤ m ∧ m ≤ 200000 ∧ (m ≤ 600 → (∀ x ∈ l1.take k, Sm d x) ∧ (((l1.take k).foldl (fun n t => n + tszN d t) 1 : Nat) : Int) ≤ m)) ∧ Below wc.heap.size wc wr) (fun _ i _ => l1.length - (intOf i).toNat)
      case atStart => exact ⟨0, Nat.zero_le _, rfl, ⟨_, rfl, hm0, by omega, fun _ => ⟨fun x hx => by simp at hx, by show ((1 : Nat) : Int) ≤ m0; omega⟩⟩, Below.refl _ _⟩
      case round =>
        obtain ⟨k, hk, rfl, ⟨m, rfl, hm1', hm2', hmI⟩, hB⟩ := hrel
        have HMI := Lib.hid hmI
        clear hmI
        have hzr := hB.size
        have HB := Lib.hid hB
        by_cases hlt : k < l1.length
        · have hx1 := List.getElem?_eq_getElem hlt
          have htk := List.take_succ_eq_append_getElem hlt
          have HTK := Lib.hid htk
          clear htk
          generalize l1[k] = x at *
          obtain ⟨b1, o1, k1', p1', n1', N1', s1', hq1, ha1, ht1⟩ := HR1.out k x hx1
          subst hq1
          have hBR : Below w.heap.size w wr := HBW.out.trans (hB.mono (by omega))
          obtain ⟨x0, x1, x2, x3, x4⟩ := ha1.below hBR ha1.lt
          have m4 : wr.cell? ⟨w.heap.size, 4, none⟩ = some (.slice (some ⟨b1, o1, none⟩) l1.length c1) := (hB.cell (p := ⟨w.heap.size, 4, none⟩) (by simp; omega)).trans M4.out
          have HC : RowKit.Hid (∀ deep, Calls Tryd.prog 71 #[tv k1' p1' n1' N1' s1', .int .i64 deep] wr (SomeW d x wr)) :=
            Lib.hid fun deep => HIH.out _ _ deep wr (ht1.below hBR)
          clear hx1 ht1 ha1 hB hBR
          by_cases hm : m < 100000
          · go_wp2_with (go_at_call 71; ((with_reducible refine (HC.out _).mono ?_); rintro e w3 ⟨m3, rfl, hg1, hg2, hg3, hb⟩; have HG := Lib.hid hg3; clear hg3))
            have HQ := Lib.hid (HB.out.trans (hb.mono hzr))
            go_roundw
            case rel =>
              refine ⟨k + 1, by omega, by go_num, ⟨m + m3, by go_num, by omega, by omega, fun h6 => ?_⟩, HQ.out⟩
              obtain ⟨i1, i2⟩ := HMI.out (by omega)
              obtain ⟨j1, j2⟩ := HG.out (by omega)
              rw [HTK.out]
              refine ⟨fun y hy => ?_, by rw [List.foldl_append]; simp only [List.foldl_cons, List.foldl_nil]; omega⟩
              rcases List.mem_append.1 hy with hy | hy
              · exact i1 y hy
              · obtain rfl := List.mem_singleton.1 hy; exact j1
            case measure => simp [intOf]; omega
          · go_wp2
            go_roundw
            case rel => exact ⟨k + 1, by omega, by go_num, ⟨m, rfl, by omega, by omega, fun h6 => by omega⟩, HB.out⟩
            case measure => simp [intOf]; omega
        · obtain rfl : k = l1.length := by omega
          rw [List.take_length] at HMI
          go_wp2
          all_goals
            go_ret
            refine ⟨_, rfl, by omega, by omega, fun h6 => ?_, HBW.out.trans (HB.out.mono (by omega))⟩
            obtain ⟨i1, i2⟩ := HMI.out (by omega)
            exact ⟨⟨by omega, i1⟩, by show ((l1.foldl (fun n t => n + tszN d t) 1 : Nat) : Int) ≤ _; omega⟩
def SomeF (d : Nat) (t : Tm) (w : World) (e : Ending) (w' : World) : Prop := ∃ r : Bool, e = .returned (.bool r) ∧ (r = true → Sm d t ∧ tszN d t ≤ 600) ∧ Below w.heap.size w w'
set_option maxRecDepth 100000 in
theorem few2_any (d : Nat) (va : Value) (ta : Tm) (w : World) (h : IsT w d va ta) : Calls Tryd.prog 44 #[va] w (SomeF d ta w) := by
  have HT := Lib.hid h
  obtain ⟨d1, k1, p1, n1, N1, s1, l1, e1, rfl, e2, _, _, _⟩ := h.open
  subst e2
  clear h e1
  have HC := Lib.hid (weight2_any d _ _ 0 _ (HT.out.below (below_alloc w (.cells #[.int .i64 k1, .string p1, .string n1, .int .i64 N1, s1] 36))))
  go_enter Tryd.func44, Tryd.ntmps44
  go_wp2_with (go_at_call 71; ((with_reducible refine HC.out.mono ?_); rintro e w3 ⟨m3, rfl, g1, g2, g3, hb⟩; have HG := Lib.hid g3; clear g3))
  go_ret
  refine ⟨_, rfl, fun hr => ?_, (below_alloc w _).trans (hb.mono (by simp))⟩
  have h6 : m3 ≤ 600 := by simpa using hr
  obtain ⟨i1, i2⟩ := HG.out h6
  exact ⟨i1, by omega⟩
end Go.Proofs.YtncebhddcokkoaaDoor
/- Above, and Same, of the program. -/
namespace Go.Proofs.YtncebhddcokkoaaDoor
open Go.RowKit
/-- May Match go through these two? -/
structure Two (w : World) (d : Nat) (va vb : Value) (ta tb : Tm) : Prop where
  a : IsT w d va ta
  b : IsT w d vb tb
  sa : Sm d ta
  sb : Sm d tb
  za : tszN d ta ≤ 30000
  zb : tszN d tb ≤ 30000
theorem Two.below {w w' : World} {d : Nat} {va vb : Value} {ta tb : Tm} (h : Two w d va vb ta tb) (hb : Below w.heap.size w w') : Two w' d va vb ta tb := ⟨h.a.below hb, h.b.below hb, h.sa, h.sb, h.za, h.zb⟩
theorem Two.turn {w : World} {d : Nat} {va vb : Value} {ta tb : Tm} (h : Two w d va vb ta tb) : Two w d vb va tb ta := ⟨h.b, h.a, h.sb, h.sa, h.zb, h.za⟩
theorem Two.shape {w : World} {d : Nat} {va vb : Value} {ta tb : Tm} (h : Two w d va vb ta tb) : ∃ k1 p1 n1 N1 q1 l1 c1 k2 p2 n2 N2 q2 l2 c2, va = tv k1 p1 n1 N1 (.slice q1 l1 c1) ∧ vb = tv k2 p2 n2 N2 (.slice q2 l2 c2) := by
  obtain ⟨_, k1, p1, n1, N1, _, l1, _, _, rfl, _, _, q1, c1, rfl, _, _⟩ := h.a.open
  obtain ⟨_, k2, p2, n2, N2, _, l2, _, _, rfl, _, _, q2, c2, rfl, _, _⟩ := h.b.open
  exact ⟨_, _, _, _, _, _, _, _, _, _, _, _, _, _, rfl, rfl⟩
/-- What Same says. -/
def SameM (ta tb : Tm) (r : Bool) : Prop := ∃ r1, Mt [(ta, tb)] (fun _ => none) r1 ∧ (r1 = false → r = false) ∧ (r1 = true → Mt [(tb, ta)] (fun _ => none) r)
theorem SameM.parts {k : Int} {p n e : ByteArray} {la lb : List Tm} {r r' : Bool} (hk : k ≠ 1) (h : SameM (.mk k p n 0 la) (.mk k p n 0 lb) r) (h' : SameM (.mk 4 e e 0 la) (.mk 4 e e 0 lb) r') : r = r' := by
  obtain ⟨r1, h1, h2, h3⟩ := h
  obtain ⟨r2, h4, h5, h6⟩ := h'
  obtain rfl := h1.parts hk h4
  cases r1 with
  | false => rw [h2 rfl, h5 rfl]
  | true => exact (h3 rfl).parts hk (h6 rfl)
end Go.Proofs.YtncebhddcokkoaaDoor
