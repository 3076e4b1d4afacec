/- Texts in a row: Xb Xc Iv. -/
import Derived.Test.YtncebhddcokkoaaDoorZU6
import Derived.Test.YtncebhddcokkoaaDoorRows
import Derived.Deep.RegionHeld3
import Derived.Below
/- What Match goes through (mathematics). -/
namespace Go.Proofs.YtncebhddcokkoaaDoor
open Go.RowKit
/-- A term is at most so deep. -/
def Dp : Nat → Tm → Prop
  | 0, _ => False
  | d + 1, .mk _ _ _ _ kids => ∀ x ∈ kids, Dp d x
theorem IsT.dp {w : World} : ∀ {d : Nat} {v : Value} {t : Tm}, IsT w d v t → Dp d t := by
  intro d
  induction d with
  | zero => intro v t h; cases h
  | succ d ih =>
    intro v t h
    obtain ⟨k, p, n, N, kids⟩ := t
    obtain ⟨q, c, _, _, _, _, h5⟩ := h
    intro x hx
    obtain ⟨i, hi, hxi⟩ := List.getElem_of_mem hx
    obtain ⟨_, _, _, _, _, _, _, _, _, ht⟩ := h5 i x (by rw [List.getElem?_eq_getElem hi, hxi])
    exact ih ht
theorem Sm.all : ∀ {d : Nat} {t : Tm}, Dp d t → Sm d t → ∀ d', Sm d' t := by
  intro d
  induction d with
  | zero => intro t h; cases h
  | succ d ih =>
    intro t h hs d'
    cases d' with
    | zero => trivial
    | succ d' =>
      obtain ⟨k, p, n, N, kids⟩ := t
      exact ⟨hs.1, fun x hx => ih (h x hx) (hs.2 x hx) d'⟩
theorem foldl_congr1 (f g : Tm → Nat) (l : List Tm) (h : ∀ x ∈ l, f x = g x) (a : Nat) : l.foldl (fun n t => n + f t) a = l.foldl (fun n t => n + g t) a := by
  induction l generalizing a with
  | nil => rfl
  | cons x l ih =>
    simp only [List.foldl_cons]
    rw [h x (by simp), ih fun y hy => h y (by simp [hy])]
theorem tsz_dp : ∀ {d : Nat} {t : Tm}, Dp d t → ∀ d', d ≤ d' → tszN d' t = tszN d t := by
  intro d
  induction d with
  | zero => intro t h; cases h
  | succ d ih =>
    intro t h d' hd
    obtain ⟨e, rfl⟩ : ∃ e, d' = e + 1 := ⟨d' - 1, by omega⟩
    obtain ⟨k, p, n, N, kids⟩ := t
    exact foldl_congr1 _ _ kids (fun x hx => ih (h x hx) e (by omega)) 1
theorem tsz_pos {d : Nat} {t : Tm} (h : Dp d t) : 1 ≤ tszN d t := by
  cases d with
  | zero => cases h
  | succ d =>
    obtain ⟨k, p, n, N, kids⟩ := t
    show 1 ≤ kids.foldl (fun n t => n + tszN d t) 1
    rw [foldl_add]
    omega
/-- What Match says of the pairs that are to be gone through, where so much is put. -/
inductive Mt : List (Tm × Tm) → (ByteArray → Option Tm) → Bool → Prop
  | done {P : ByteArray → Option Tm} : Mt [] P true
  | old {p n : ByteArray} {N : Int} {l : List Tm} {s : Tm} {rest : List (Tm × Tm)} {P : ByteArray → Option Tm} {r : Bool} : P n = some s → Mt rest P r → Mt ((.mk 1 p n N l, s) :: rest) P r
  | clash {p n : ByteArray} {N : Int} {l : List Tm} {s y : Tm} {rest : List (Tm × Tm)} {P : ByteArray → Option Tm} : P n = some y → y ≠ s → Mt ((.mk 1 p n N l, s) :: rest) P false
  | new {p n : ByteArray} {N : Int} {l : List Tm} {s : Tm} {rest : List (Tm × Tm)} {P : ByteArray → Option Tm} {r : Bool} : P n = none → Mt rest (upV P n s) r → Mt ((.mk 1 p n N l, s) :: rest) P r
  | differ {k k2 N N2 : Int} {p n p2 n2 : ByteArray} {l m : List Tm} {rest : List (Tm × Tm)} {P : ByteArray → Option Tm} : k ≠ 1 → ¬ (k = k2 ∧ p = p2 ∧ n = n2 ∧ N = N2 ∧ l.length = m.length) → Mt ((.mk k p n N l, .mk k2 p2 n2 N2 m) :: rest) P false
  | go {k N : Int} {p n : ByteArray} {l m : List Tm} {rest : List (Tm × Tm)} {P : ByteArray → Option Tm} {r : Bool} : k ≠ 1 → l.length = m.length → Mt ((l.zip m).reverse ++ rest) P r → Mt ((.mk k p n N l, .mk k p n N m) :: rest) P r
theorem Mt.det {st : List (Tm × Tm)} {P : ByteArray → Option Tm} {r : Bool} (h : Mt st P r) : ∀ {r' : Bool}, Mt st P r' → r = r' := by
  induction h with
  | done => intro r' h; cases h; rfl
  | old h1 h2 ih =>
    intro r' h
    cases h with
    | old h3 h4 => exact ih h4
    | clash h3 h4 => rw [h1] at h3; exact absurd (Option.some.inj h3).symm h4
    | new h3 h4 => rw [h1] at h3; cases h3
    | differ h3 _ => exact absurd rfl h3
    | go h3 _ _ => exact absurd rfl h3
  | clash h1 h2 =>
    intro r' h
    cases h with
    | old h3 h4 => rw [h1] at h3; exact absurd (Option.some.inj h3) h2
    | clash h3 h4 => rfl
    | new h3 h4 => rw [h1] at h3; cases h3
    | differ h3 _ => rfl
    | go h3 _ _ => exact absurd rfl h3
  | new h1 h2 ih =>
    intro r' h
    cases h with
    | old h3 h4 => rw [h1] at h3; cases h3
    | clash h3 h4 => rw [h1] at h3; cases h3
    | new h3 h4 => exact ih h4
    | differ h3 _ => exact absurd rfl h3
    | go h3 _ _ => exact absurd rfl h3
  | differ h1 h2 =>
    intro r' h
    cases h with
    | old => exact absurd rfl h1
    | clash => rfl
    | new => exact absurd rfl h1
    | differ => rfl
    | go h3 h4 _ => exact absurd ⟨rfl, rfl, rfl, rfl, h4⟩ h2
  | go h1 h2 h5 ih =>
    intro r' h
    cases h with
    | old => exact absurd rfl h1
    | clash => exact absurd rfl h1
    | new => exact absurd rfl h1
    | differ _ h4 => exact absurd ⟨rfl, rfl, rfl, rfl, h2⟩ h4
    | go _ _ h6 => exact ih h6
/-- Types of one kind and name: as their parts, as tuples. -/
theorem Mt.parts {k : Int} {p n e : ByteArray} {la lb : List Tm} {P : ByteArray → Option Tm} {r r' : Bool} (hk : k ≠ 1) (h : Mt [(.mk k p n 0 la, .mk k p n 0 lb)] P r) (h' : Mt [(.mk 4 e e 0 la, .mk 4 e e 0 lb)] P r') : r = r' := by
  by_cases hl : la.length = lb.length
  · cases h with
    | old => exact absurd rfl hk
    | clash => exact absurd rfl hk
    | new => exact absurd rfl hk
    | differ _ h4 => exact absurd ⟨rfl, rfl, rfl, rfl, hl⟩ h4
    | go _ _ h6 => exact (Mt.go (by decide) hl h6).det h'
  · exact (Mt.differ hk (fun h => hl h.2.2.2.2)).det h |>.symm.trans ((Mt.differ (by decide) fun h => hl h.2.2.2.2).det h')
end Go.Proofs.YtncebhddcokkoaaDoor
/- The stack of pairs, and what is put. -/
namespace Go.Proofs.YtncebhddcokkoaaDoor
open Go.RowKit
abbrev T10 := T5 × T5
def prC (q : T10) : List Value := [.int .i64 q.1.1, .string q.1.2.1, .string q.1.2.2.1, .int .i64 q.1.2.2.2.1, q.1.2.2.2.2, .int .i64 q.2.1, .string q.2.2.1, .string q.2.2.2.1, .int .i64 q.2.2.2.2.1, q.2.2.2.2.2]
/-- The cells of a stack, its top first. -/
def prL (vs : List T10) : List Value := vs.reverse.flatMap prC
/-- The stack's values are terms. -/
def Prs (w0 : World) (D : Nat) : List T10 → List (Tm × Tm) → Prop
  | [], [] => True
  | q :: vs, x :: st => IsT w0 D (t5v q.1) x.1 ∧ IsT w0 D (t5v q.2) x.2 ∧ Sm D x.2 ∧ Prs w0 D vs st
  | _, _ => False
theorem Prs.len {w0 : World} {D : Nat} : ∀ {vs : List T10} {st : List (Tm × Tm)}, Prs w0 D vs st → vs.length = st.length
  | [], [], _ => rfl
  | _ :: vs, _ :: st, h => by rw [List.length_cons, List.length_cons, Prs.len h.2.2.2]
  | [], _ :: _, h => h.elim
  | _ :: _, [], h => h.elim
theorem Prs.dp {w0 : World} {D : Nat} : ∀ {vs : List T10} {st : List (Tm × Tm)}, Prs w0 D vs st → ∀ x ∈ st, Dp D x.1
  | [], [], _, x, hx => by cases hx
  | _ :: vs, y :: st, h, x, hx => by
    rcases List.mem_cons.1 hx with rfl | hx
    · exact h.1.dp
    · exact Prs.dp h.2.2.2 x hx
  | [], _ :: _, h, _, _ => h.elim
  | _ :: _, [], h, _, _ => h.elim
/-- What is put: values that are these terms. -/
def PutOk (w0 : World) (D : Nat) (g : ByteArray → Option Value) (P : ByteArray → Option Tm) : Prop :=
  ∀ s, (g s = none ∧ P s = none) ∨ ∃ v t, g s = some v ∧ P s = some t ∧ IsT w0 D v t ∧ Sm D t
theorem PutOk.up {w0 : World} {D : Nat} {g : ByteArray → Option Value} {P : ByteArray → Option Tm} (h : PutOk w0 D g P) (n : ByteArray) {v : Value} {t : Tm} (ht : IsT w0 D v t) (hs : Sm D t) : PutOk w0 D (upV g n v) (upV P n t) := fun s => by
  unfold upV
  by_cases e : s = n
  · rw [if_pos e, if_pos e]; exact .inr ⟨v, t, rfl, rfl, ht, hs⟩
  · rw [if_neg e, if_neg e]; exact h s
/-- The world while the loop goes round: b0 lies the general one's box; M is the map. -/
structure MSt (w0 w : World) (D M b0 : Nat) (bx : Array Value) (sv : Value) (st : List (Tm × Tm)) (P : ByteArray → Option Tm) (n : Nat) : Prop where
  vs : ∃ vs, Prs w0 D vs st ∧ w.ownsRow w0.heap.size 110 10 sv vs.length (prL vs)
  put : ∃ g, TMap w M n g ∧ PutOk w0 D g P
  box : w.heap[b0]? = some (.cells bx 36 (0, 0))
  lo : w0.heap.size ≤ M ∧ w0.heap.size ≤ b0
  below : Below w0.heap.size w0 w
theorem MSt.kept {w0 w w' : World} {D M b0 : Nat} {bx : Array Value} {sv : Value} {st : List (Tm × Tm)} {P : ByteArray → Option Tm} {n : Nat} (h : MSt w0 w D M b0 bx sv st P n) (hk : ∀ (g : Nat) (x : Obj), w.heap[g]? = some x → w'.heap[g]? = some x) (hb : Below w0.heap.size w0 w') : MSt w0 w' D M b0 bx sv st P n := by
  obtain ⟨vs, h1, h2⟩ := h.vs
  obtain ⟨g, h3, h4⟩ := h.put
  exact ⟨⟨vs, h1, own_kept h2 fun g x _ hx => hk g x hx⟩, ⟨g, h3.kept fun x hx => hk _ x hx, h4⟩, hk _ _ h.box, h.lo, hb⟩
theorem MSt.below2 {w0 w w' : World} {D M b0 : Nat} {bx : Array Value} {sv : Value} {st : List (Tm × Tm)} {P : ByteArray → Option Tm} {n : Nat} (h : MSt w0 w D M b0 bx sv st P n) (hb : Below w.heap.size w w') : MSt w0 w' D M b0 bx sv st P n :=
  h.kept (fun g x hx => hb_below hx hb (hb_lt hx)) (h.below.trans (hb.mono h.below.size))
end Go.Proofs.YtncebhddcokkoaaDoor
/- A region that draws its order, walked by one fact for each operation's value: no orders are gone through. -/
namespace Go.Proofs.YtncebhddcokkoaaDoor
open Go.RowKit
namespace Inv
def deps (ops : Array Oper) (i : Nat) : List Nat := match ops[i]? with
  | none => []
  | some o => (o.after.toList.filter (Region.binds .any ·)).map (·.on)
def dstOf (ops : Array Oper) (i : Nat) : Option Tmp := (ops[i]?).bind (·.dst)
/-- A frame into which the values of some operations are put. -/
def putL (ops : Array Oper) (vs : Nat → Value) (a0 : Act) (l : List Nat) : Act := l.foldl (fun a j => a.put (dstOf ops j) (vs j)) a0
def looks (ops : Array Oper) (i : Nat) : List Tmp := match ops[i]? with
  | none => []
  | some o => o.looksAt ops
/-- What is asked of the region's text: those of hd are gone through in whatever order; those of t0 :: tl, which wait for them, one behind the other. -/
def okB (ops : Array Oper) (hd pre : List Nat) (t0 : Nat) (tl : List Nat) : Bool :=
  Region.noSelect ops &&
  (List.range ops.size).all (fun i => hd.contains i || pre.contains i || t0 == i || tl.contains i) &&
  hd.all (fun i => decide (i < ops.size) && (deps ops i).all (fun j => (hd.contains j && decide (j < i)) || pre.contains j)) &&
  hd.all (fun i => (hd ++ [t0]).any fun x => decide (i < x) && (deps ops x).contains i) &&
  hd.all (fun i => decide (i < t0) && !pre.contains i) &&
  (t0 :: tl).all (fun t => !hd.contains t && !pre.contains t) &&
  tl.all (fun t => (deps ops t).any fun x => x == t0 || tl.contains x) &&
  hd.all (fun i => hd.all fun j => (i == j) || (dstOf ops i).isNone || (dstOf ops i != dstOf ops j)) &&
  hd.all (fun i => hd.all fun j => match dstOf ops j with
    | none => true
    | some d => !(looks ops i).contains d || (deps ops i).contains j || (deps ops j).contains i)
structure Ok (ops : Array Oper) (hd pre : List Nat) (t0 : Nat) (tl : List Nat) : Prop where
  sel : Region.noSelect ops = true
  all : ∀ i, i < ops.size → i ∈ hd ∨ i ∈ pre ∨ i = t0 ∨ i ∈ tl
  lt : ∀ i ∈ hd, i < ops.size
  dep : ∀ i ∈ hd, ∀ j ∈ deps ops i, (j ∈ hd ∧ j < i) ∨ j ∈ pre
  sink : ∀ i ∈ hd, ∃ x, (x ∈ hd ∨ x = t0) ∧ i < x ∧ i ∈ deps ops x
  bef : ∀ i ∈ hd, i < t0 ∧ i ∉ pre
  apart : ∀ t, (t = t0 ∨ t ∈ tl) → t ∉ hd ∧ t ∉ pre
  tail : ∀ t ∈ tl, ∃ x ∈ deps ops t, x = t0 ∨ x ∈ tl
  dist : ∀ i j, i ∈ hd → j ∈ hd → i ≠ j → ∀ d, dstOf ops i = some d → dstOf ops j ≠ some d
  look : ∀ i j, i ∈ hd → j ∈ hd → ∀ d, dstOf ops j = some d → d ∈ looks ops i → j ∈ deps ops i ∨ i ∈ deps ops j
theorem not_contains {l : List Nat} {i : Nat} (h : (!l.contains i) = true) : i ∉ l := fun hc => by
  rw [List.contains_iff_mem.2 hc] at h; cases h
theorem ok_of {ops : Array Oper} {hd pre : List Nat} {t0 : Nat} {tl : List Nat} (h : okB ops hd pre t0 tl = true) : Ok ops hd pre t0 tl := by
  unfold okB at h
  simp only [Bool.and_eq_true, decide_eq_true_eq, List.all_eq_true, List.any_eq_true, List.mem_range, Bool.or_eq_true, List.contains_iff_mem, beq_iff_eq, List.mem_append, List.mem_singleton, List.mem_cons] at h
  obtain ⟨⟨⟨⟨⟨⟨⟨⟨h1, h2⟩, h3⟩, h4⟩, h5⟩, h9⟩, h6⟩, h7⟩, h8⟩ := h
  refine ⟨h1, fun i hi => ?_, fun i hi => (h3 i hi).1, fun i hi j hj => (h3 i hi).2 j hj, fun i hi => ?_, fun i hi => ⟨(h5 i hi).1, not_contains (h5 i hi).2⟩, fun t ht => ⟨not_contains (h9 t ht).1, not_contains (h9 t ht).2⟩, fun t ht => ?_, fun i j hi hj hne d hd hd2 => ?_, fun i j hi hj d hd hl => ?_⟩
  · rcases h2 i hi with ((h | h) | h) | h
    · exact .inl h
    · exact .inr (.inl h)
    · exact .inr (.inr (.inl h.symm))
    · exact .inr (.inr (.inr h))
  · obtain ⟨x, hx, h⟩ := h4 i hi
    exact ⟨x, by simpa using hx, h⟩
  · obtain ⟨x, hx, h⟩ := h6 t ht
    exact ⟨x, hx, h⟩
  · have := h7 i hi j hj
    rw [hd, hd2] at this
    simp [hne] at this
  · have := h8 i hi j hj
    rw [hd] at this
    simp only [Bool.or_eq_true, Bool.not_eq_true', List.contains_iff_mem] at this
    rcases this with (h | h) | h
    · rw [← Bool.not_eq_true, List.contains_iff_mem] at h; exact absurd hl h
    · exact .inl h
    · exact .inr h
/-- What an operation waits for, of hd. -/
def depsH (ops : Array Oper) (hd : List Nat) (i : Nat) : List Nat := (deps ops i).filter hd.contains
theorem mem_depsH {ops : Array Oper} {hd : List Nat} {i j : Nat} : j ∈ depsH ops hd i ↔ j ∈ deps ops i ∧ j ∈ hd := by
  unfold depsH
  rw [List.mem_filter, List.contains_iff_mem]
/-- A frame that bears the values of what is listed. -/
structure Ag (ops : Array Oper) (hd : List Nat) (a0 : Act) (L : Nat → Prop) (vs : Nat → Value) (a : Act) : Prop where
  defers : a.defers = a0.defers
  size : a.tmps.size = a0.tmps.size
  set : ∀ i d, i ∈ hd → L i → dstOf ops i = some d → d < a0.tmps.size → a.tmps[d]? = some (vs i)
  old : ∀ t, (∀ i, i ∈ hd → L i → dstOf ops i ≠ some t) → a.tmps[t]? = a0.tmps[t]?
section
variable {ops : Array Oper} {hd pre : List Nat} {t0 : Nat} {tl : List Nat} {a0 a a' : Act} {L : Nat → Prop} {vs : Nat → Value}
theorem put_size (a : Act) (d : Option Tmp) (v : Value) : (a.put d v).tmps.size = a.tmps.size := by cases d <;> simp [Act.put]
theorem put_defers (a : Act) (d : Option Tmp) (v : Value) : (a.put d v).defers = a.defers := by cases d <;> rfl
theorem put_at (a : Act) (d : Tmp) (v : Value) (h : d < a.tmps.size) : (a.put (some d) v).tmps[d]? = some v := by simp [Act.put, h]
theorem put_ne (a : Act) (d : Option Tmp) (v : Value) (t : Tmp) (h : d ≠ some t) : (a.put d v).tmps[t]? = a.tmps[t]? := by
  cases d with
  | none => rfl
  | some d =>
    have hne : d ≠ t := fun e => h (by rw [e])
    simp [Act.put, Array.getElem?_setIfInBounds_ne hne]
theorem Ag.congr {L2 : Nat → Prop} (h : Ag ops hd a0 L vs a) (hL : ∀ i, L i ↔ L2 i) : Ag ops hd a0 L2 vs a :=
  ⟨h.defers, h.size, fun i d hi hl => h.set i d hi ((hL i).2 hl), fun t ht => h.old t fun i hi hl => ht i hi ((hL i).1 hl)⟩
theorem Ag.nil : Ag ops hd a0 (fun _ => False) vs a0 := ⟨rfl, rfl, fun _ _ _ h => h.elim, fun _ _ => rfl⟩
theorem Ag.put (ok : Ok ops hd pre t0 tl) (h : Ag ops hd a0 L vs a) (i : Nat) (hi : i ∈ hd) (hn : ¬ L i) (v : Value) : Ag ops hd a0 (fun k => k = i ∨ L k) (fun k => if k = i then v else vs k) (a.put (dstOf ops i) v) := by
  refine ⟨by rw [put_defers, h.defers], by rw [put_size, h.size], fun k d hk hl hd hlt => ?_, fun t ht => ?_⟩
  · by_cases hki : k = i
    · subst hki
      rw [hd, put_at _ _ _ (by rw [h.size]; exact hlt), if_pos rfl]
    · rw [put_ne _ _ _ _ (fun e => ok.dist i k hi hk (Ne.symm hki) d e hd), if_neg hki]
      rcases hl with hl | hl
      · exact absurd hl hki
      · exact h.set k d hk hl hd hlt
  · rw [put_ne _ _ _ _ (ht i hi (.inl rfl))]
    exact h.old t fun k hk hl => ht k hk (.inr hl)
theorem Ag.vals {vs2 : Nat → Value} (h : Ag ops hd a0 L vs a) (hv : ∀ i, L i → vs i = vs2 i) : Ag ops hd a0 L vs2 a :=
  ⟨h.defers, h.size, fun i d hi hl hd hlt => by rw [← hv i hl]; exact h.set i d hi hl hd hlt, h.old⟩
theorem Ag.putL (ok : Ok ops hd pre t0 tl) (vs : Nat → Value) (a0 : Act) : ∀ l : List Nat, (∀ j ∈ l, j ∈ hd) → Ag ops hd a0 (fun k => k ∈ l) vs (putL ops vs a0 l) := by
  intro l
  have key : ∀ (l : List Nat) (L : Nat → Prop) (a : Act), (∀ j ∈ l, j ∈ hd) → Ag ops hd a0 L vs a → Ag ops hd a0 (fun k => k ∈ l ∨ L k) vs (l.foldl (fun a j => a.put (dstOf ops j) (vs j)) a) := by
    intro l
    induction l with
    | nil => intro L a _ h; exact h.congr fun i => by simp
    | cons x l ih =>
      intro L a hl h
      have hx := hl x (by simp)
      have h2 : Ag ops hd a0 (fun k => k = x ∨ L k) vs (a.put (dstOf ops x) (vs x)) := by
        by_cases hLx : L x
        · refine ⟨by rw [put_defers, h.defers], by rw [put_size, h.size], fun k d hk hl hd hlt => ?_, fun t ht => ?_⟩
          · by_cases hkx : k = x
            · subst hkx
              rw [hd, put_at _ _ _ (by rw [h.size]; exact hlt)]
            · rw [put_ne _ _ _ _ (fun e => ok.dist x k hx hk (Ne.symm hkx) d e hd)]
              rcases hl with hl | hl
              · exact absurd hl hkx
              · exact h.set k d hk hl hd hlt
          · rw [put_ne _ _ _ _ (ht x hx (.inl rfl))]
            exact h.old t fun k hk hl => ht k hk (.inr hl)
        · exact (h.put ok x hx hLx (vs x)).vals fun i _ => by split <;> simp_all
      exact (ih _ _ (fun j hj => hl j (by simp [hj])) h2).congr fun i => by
        simp only [List.mem_cons]
        constructor
        · rintro (h | h | h)
          · exact .inl (.inr h)
          · exact .inl (.inl h)
          · exact .inr h
        · rintro ((h | h) | h)
          · exact .inr (.inl h)
          · exact .inl h
          · exact .inr (.inr h)
  intro hl
  exact (key l _ _ hl Ag.nil).congr fun i => by simp
theorem Ag.unique (h : Ag ops hd a0 L vs a) (h' : Ag ops hd a0 L vs a') : a = a' := by
  obtain ⟨t, ds⟩ := a
  obtain ⟨t', ds'⟩ := a'
  have e1 : ds = ds' := h.defers.trans h'.defers.symm
  have e2 : t = t' := by
    apply Array.ext_getElem?
    intro k
    by_cases hk : ∃ i, i ∈ hd ∧ L i ∧ dstOf ops i = some k
    · obtain ⟨i, hi, hl, hd⟩ := hk
      rcases Nat.lt_or_ge k a0.tmps.size with hlt | hge
      · exact (h.set i k hi hl hd hlt).trans (h'.set i k hi hl hd hlt).symm
      · have s1 : t.size = a0.tmps.size := h.size
        have s2 : t'.size = a0.tmps.size := h'.size
        rw [Array.getElem?_eq_none (by omega), Array.getElem?_eq_none (by omega)]
    · have hn : ∀ i, i ∈ hd → L i → dstOf ops i ≠ some k := fun i hi hl hd => hk ⟨i, hi, hl, hd⟩
      exact (h.old k hn).trans (h'.old k hn).symm
  rw [e1, e2]
/-- An operation sees what it waits for, and what was there. -/
theorem Ag.look (ok : Ok ops hd pre t0 tl) (h : Ag ops hd a0 L vs a) {i : Nat} (hi : i ∈ hd) (hn : ¬ L i) (hdd : ∀ j ∈ deps ops i, j ∈ hd → L j) (hc : ∀ j, j ∈ hd → L j → ∀ k ∈ deps ops j, k ∈ hd → L k) :
    ∀ t ∈ looks ops i, a.tmps[t]? = (Inv.putL ops vs a0 (depsH ops hd i)).tmps[t]? := by
  intro t ht
  have h2 := Ag.putL ok vs a0 (depsH ops hd i) fun j hj => (mem_depsH.1 hj).2
  by_cases hk : ∃ j, j ∈ hd ∧ L j ∧ dstOf ops j = some t
  · obtain ⟨j, hj, hl, hdj⟩ := hk
    have hmem : j ∈ depsH ops hd i := by
      rcases ok.look i j hi hj t hdj ht with h | h
      · exact mem_depsH.2 ⟨h, hj⟩
      · exact absurd (hc j hj hl i h hi) hn
    rcases Nat.lt_or_ge t a0.tmps.size with hs | hs
    · exact (h.set j t hj hl hdj hs).trans (h2.set j t hj hmem hdj hs).symm
    · have s1 := h.size
      have s2 := h2.size
      rw [Array.getElem?_eq_none (by omega), Array.getElem?_eq_none (by omega)]
  · have hn1 : ∀ i, i ∈ hd → L i → dstOf ops i ≠ some t := fun i hi hl hd => hk ⟨i, hi, hl, hd⟩
    exact (h.old t hn1).trans (h2.old t fun j hj hl => hn1 j hj (hdd j (mem_depsH.1 hl).1 hj)).symm
end
section
variable {P : Program} {ops : Array Oper} {hd pre : List Nat} {t0 : Nat} {tl : List Nat} {a0 : Act} {Q : Exit → Act → World → Prop}
theorem eval_same {a a' : Act} {o : Oper} (h : ∀ t ∈ o.looksAt ops, a.tmps[t]? = a'.tmps[t]?) : ∀ x ∈ o.op.operands, a.eval x = a'.eval x := by
  intro x hx
  cases x with
  | tmp t =>
    have := h t (List.mem_append_left _ (List.mem_filterMap.2 ⟨.tmp t, by simpa using hx, rfl⟩))
    simp only [Act.eval, Array.getD_eq_getD_getElem?, this]
  | _ => rfl
theorem wanted_same {a a' : Act} {o : Oper} (h : ∀ t ∈ o.looksAt ops, a.tmps[t]? = a'.tmps[t]?) : Region.wanted o (yielded ops a.tmps) = Region.wanted o (yielded ops a'.tmps) := by
  unfold Region.wanted
  cases hg : o.guard with
  | none => rfl
  | some gw =>
    obtain ⟨g, want⟩ := gw
    have hy : yielded ops a.tmps g = yielded ops a'.tmps g := by
      unfold yielded
      cases ht : (ops[g]?).bind (·.dst) with
      | none => rfl
      | some t =>
        have := h t (List.mem_append_right _ (by simp [hg, ht]))
        simp only [Option.bind_some, this]
    simp only [hy]
def NoQ : Exit → Act → World → Prop := fun _ _ _ => False
/-- What the value of an operation is to those that it is tied to. -/
structure Tie where
  a : Nat
  b : Nat
  r : Value → Value → World → Prop
  mono : ∀ v u w w', r v u w → Below w.heap.size w w' → r v u w'
def Ties (PP : Nat → Value → World → Prop) (XP : List Tie) (i : Nat) (v : Value) (w w' : World) : Prop :=
  ∀ x ∈ XP, (x.a = i → ∀ u, PP x.b u w → x.r v u w') ∧ (x.b = i → ∀ u, PP x.a u w → x.r u v w')
theorem noTies (PP : Nat → Value → World → Prop) (i : Nat) (v : Value) (w w' : World) : Ties PP [] i v w w' := fun _ h => by cases h
/-- What is to be shown of one operation. -/
def Step (P : Program) (ops : Array Oper) (hd : List Nat) (a0 : Act) (PP : Nat → Value → World → Prop) (XP : List Tie) (i : Nat) (o : Oper) (vs : Nat → Value) (w : World) : Prop :=
  ∀ K : Act → World → Prop, Shut (∀ v w', PP i v w' → Below w.heap.size w w' → Ties PP XP i v w w' → K ((putL ops vs a0 (depsH ops hd i)).put o.dst v) w') →
    if Region.wanted o (yielded ops (putL ops vs a0 (depsH ops hd i)).tmps) = true then Oper.wp P o (putL ops vs a0 (depsH ops hd i)) w K NoQ else K ((putL ops vs a0 (depsH ops hd i)).put o.dst undef) w
theorem put_inj_defers {a b : Act} {d : Option Tmp} {v u : Value} (h : a.put d v = b.put d u) : a.defers = b.defers := by
  have := congrArg Act.defers h
  rwa [put_defers, put_defers] at this
theorem put_same {a a1 : Act} {d : Option Tmp} {u v : Value} (h : a1.put d u = a1.put d v) (hz : a.tmps.size = a1.tmps.size) : a.put d u = a.put d v := by
  cases d with
  | none => rfl
  | some d =>
    rcases Nat.lt_or_ge d a.tmps.size with hl | hl
    · have h1 := put_at a1 d u (by rw [← hz]; exact hl)
      rw [h, put_at a1 d v (by rw [← hz]; exact hl)] at h1
      cases h1
      rfl
    · have hn : ¬ d < a.tmps.size := Nat.not_lt.2 hl
      simp [Act.put, Array.setIfInBounds, hn]
/-- From the frame that bears only what the operation waits for to the frame at hand. -/
theorem wpOp_of_step {PP : Nat → Value → World → Prop} {XP : List Tie} {i : Nat} {o : Oper} (ho : ops[i]? = some o) (hsel : ∀ cs b, o.op ≠ .select cs b) {vs : Nat → Value} {w : World} {a : Act} {K : Act → World → Prop}
    (hz : a.tmps.size = (putL ops vs a0 (depsH ops hd i)).tmps.size)
    (hlook : ∀ t ∈ o.looksAt ops, a.tmps[t]? = (putL ops vs a0 (depsH ops hd i)).tmps[t]?) (hs : Step P ops hd a0 PP XP i o vs w) (hK : ∀ v w', PP i v w' → Below w.heap.size w w' → Ties PP XP i v w w' → K (a.put o.dst v) w') : wpOp P ops Q i K a w := by
  have h1 := hs (fun a' w' => ∃ v, a' = (putL ops vs a0 (depsH ops hd i)).put o.dst v ∧ K (a.put o.dst v) w') (fun v w' h1 h2 h3 => ⟨v, rfl, hK v w' h1 h2 h3⟩)
  generalize putL ops vs a0 (depsH ops hd i) = a1 at *
  have next : ∀ u w', (∃ v, a1.put o.dst u = a1.put o.dst v ∧ K (a.put o.dst v) w') → K (a.put o.dst u) w' := by
    rintro u w' ⟨v, he, hk⟩
    rw [put_same he hz]; exact hk
  unfold wpOp
  simp only [ho]
  rw [wanted_same hlook]
  split
  · rename_i hw
    rw [if_pos hw] at h1
    refine .inl ?_
    unfold Oper.wp at *
    rw [execOp_congr o hsel (eval_same hlook)]
    generalize (execOp a1.eval o).run P w = r at *
    cases r with
    | ok n w' =>
      cases n <;> simp only [Oper.upon] at h1 ⊢
      case value u => exact next u w' h1
      case skip => exact next _ w' h1
      case defer d =>
        obtain ⟨v, he, _⟩ := h1
        have h2 := put_inj_defers he
        have h3 := congrArg List.length h2
        simp at h3
      case enter f args =>
        refine Calls.mono h1 fun e w'' he => ?_
        cases e with
        | returned u => exact next u w'' he
        | panicked c => exact he.elim
        | outgrown => obtain ⟨_, _, h⟩ := he; exact h.elim
      case row row args => exact Rows.mono h1 fun u w'' he => next u w'' he
    | halt x w' =>
      cases x <;> simp only [Oper.upon] at h1 ⊢
      all_goals exact h1.elim
  · rename_i hw
    rw [if_neg hw] at h1
    exact next _ w h1
theorem getD_false {listed : Array Bool} {i : Nat} : listed.getD i false = true ↔ listed[i]? = some true := by
  rcases Nat.lt_or_ge i listed.size with h | h
  · simp [h]
  · simp [Array.getElem?_eq_none h]
theorem getD_true {listed : Array Bool} {i : Nat} : listed.getD i true = false ↔ listed[i]? = some false := by
  rcases Nat.lt_or_ge i listed.size with h | h
  · simp [h]
  · simp [Array.getElem?_eq_none h]
theorem count_set {l : List Bool} : ∀ {i : Nat}, l[i]? = some false → (l.set i true).count true = l.count true + 1 := by
  induction l with
  | nil => intro i h; simp at h
  | cons b l ih =>
    intro i h
    cases i with
    | zero => simp at h; subst h; simp
    | succ i =>
      rw [List.set_cons_succ, List.count_cons, List.count_cons, ih (by simpa using h)]
      omega
theorem mem_deps {i j : Nat} {o : Oper} (ho : ops[i]? = some o) : j ∈ deps ops i ↔ ∃ e ∈ o.after, Region.binds .any e = true ∧ e.on = j := by
  unfold deps
  rw [ho]
  simp only [List.mem_map, List.mem_filter]
  constructor
  · rintro ⟨e, ⟨h1, h2⟩, h3⟩; exact ⟨e, by simpa using h1, h2, h3⟩
  · rintro ⟨e, h1, h2, h3⟩; exact ⟨e, ⟨by simpa using h1, h2⟩, h3⟩
theorem ready_iff {i : Nat} {listed : Array Bool} : i ∈ Region.ready .any ops listed ↔ listed[i]? = some false ∧ i < ops.size ∧ ∀ j ∈ deps ops i, listed[j]? = some true := by
  rw [mem_ready, getD_true]
  constructor
  · rintro ⟨h0, o, ho, h⟩
    refine ⟨h0, (Array.getElem?_eq_some_iff.1 ho).1, fun j hj => ?_⟩
    obtain ⟨e, he, hb, rfl⟩ := (mem_deps ho).1 hj
    exact getD_false.1 (h e he hb)
  · rintro ⟨h0, hi, h⟩
    refine ⟨h0, ops[i], Array.getElem?_eq_getElem hi, fun e he hb => getD_false.2 (h _ ((mem_deps (Array.getElem?_eq_getElem hi)).2 ⟨e, he, hb, rfl⟩))⟩
theorem first_of (p : Nat → Prop) (h : ∃ i, p i) : ∃ i, p i ∧ ∀ j, j < i → ¬ p j := by
  obtain ⟨i, hi⟩ := h
  induction i using Nat.strongRecOn with
  | _ i ih =>
    by_cases h2 : ∃ j, j < i ∧ p j
    · obtain ⟨j, hj, hp⟩ := h2
      exact ih j hj hp
    · exact ⟨i, hi, fun j hj hp => h2 ⟨j, hj, hp⟩⟩
/-- Those of hd are listed. -/
def pat (ops : Array Oper) (hd : List Nat) : Array Bool := ((List.range ops.size).map fun i => hd.contains i).toArray
theorem pat_of {listed : Array Bool} (hs : listed.size = ops.size) (h1 : ∀ i ∈ hd, listed[i]? = some true) (h2 : ∀ i, i ∉ hd → listed[i]? ≠ some true) : listed = pat ops hd := by
  apply Array.ext_getElem?
  intro i
  have e : (pat ops hd)[i]? = ((List.range ops.size).map fun i => hd.contains i)[i]? := by unfold pat; exact List.getElem?_toArray ..
  rw [e, List.getElem?_map]
  rcases Nat.lt_or_ge i ops.size with h3 | h3
  · rw [List.getElem?_range h3, Option.map_some]
    by_cases h : i ∈ hd
    · rw [h1 i h, List.contains_iff_mem.2 h]
    · have hlt : i < listed.size := by omega
      have := h2 i h
      rw [Array.getElem?_eq_getElem hlt] at this ⊢
      have hc : hd.contains i = false := by
        cases hb : hd.contains i with
        | true => exact absurd (List.contains_iff_mem.1 hb) h
        | false => rfl
      rw [hc]
      cases hb : listed[i] with
      | true => rw [hb] at this; exact absurd rfl this
      | false => rfl
  · rw [Array.getElem?_eq_none (by omega), List.getElem?_eq_none (by simpa using h3)]; rfl
/-- The state of the walk. -/
structure St (ops : Array Oper) (hd pre : List Nat) (a0 : Act) (PP : Nat → Value → World → Prop) (XP : List Tie) (w0 : World) (listed : Array Bool) (a : Act) (w : World) (vs : Nat → Value) : Prop where
  size : listed.size = ops.size
  ag : Ag ops hd a0 (fun i => listed[i]? = some true) vs a
  closed : ∀ j, j ∈ hd → listed[j]? = some true → ∀ k ∈ deps ops j, k ∈ hd → listed[k]? = some true
  late : ∀ i, i ∉ hd → i ∉ pre → listed[i]? ≠ some true
  taken : ∀ i ∈ pre, listed[i]? = some true
  vals : ∀ i ∈ hd, listed[i]? = some true → PP i (vs i) w
  below : Below w0.heap.size w0 w
  tied : ∀ x ∈ XP, listed[x.a]? = some true → listed[x.b]? = some true → x.r (vs x.a) (vs x.b) w
theorem main (ok : Ok ops hd pre t0 tl) {PP : Nat → Value → World → Prop} {XP : List Tie} (hX : ∀ x ∈ XP, x.a ≠ x.b ∧ x.a ∈ hd ∧ x.b ∈ hd) (mono : ∀ i v w w', PP i v w → Below w.heap.size w w' → PP i v w') {w0 : World}
    (step : ∀ i o, i ∈ hd → ops[i]? = some o → ∀ vs w, Below w0.heap.size w0 w → (∀ j ∈ depsH ops hd i, PP j (vs j) w) → Step P ops hd a0 PP XP i o vs w)
    (n : Nat) (hn : n + (pat ops (hd ++ pre)).toList.count true = ops.size) (h0 : 0 < n)
    (fin : ∀ vs w, Below w0.heap.size w0 w → (∀ i ∈ hd, PP i (vs i) w) → (∀ x ∈ XP, x.r (vs x.a) (vs x.b) w) → wpAny P .any ops Q n (pat ops (hd ++ pre)) (putL ops vs a0 hd) w) :
    ∀ (fuel : Nat) (listed : Array Bool) (a : Act) (w : World) (vs : Nat → Value), St ops hd pre a0 PP XP w0 listed a w vs → fuel + listed.toList.count true = ops.size → wpAny P .any ops Q fuel listed a w := by
  intro fuel
  have hall : ∀ (fuel : Nat) (listed : Array Bool) (a : Act) (w : World) (vs : Nat → Value), St ops hd pre a0 PP XP w0 listed a w vs → fuel + listed.toList.count true = ops.size → (∀ i ∈ hd, listed[i]? = some true) → wpAny P .any ops Q fuel listed a w := by
    intro fuel listed a w vs st hc hl
    have e : a = putL ops vs a0 hd := by
      have hA : Ag ops hd a0 (fun i => i ∈ hd) vs a := ⟨st.ag.defers, st.ag.size, fun i d hi _ => st.ag.set i d hi (hl i hi), fun t ht => st.ag.old t fun i hi _ => ht i hi hi⟩
      exact Ag.unique hA (Ag.putL ok vs a0 hd fun j hj => hj)
    have e2 : listed = pat ops (hd ++ pre) := pat_of st.size (fun i hi => by
      rcases List.mem_append.1 hi with h | h
      · exact hl i h
      · exact st.taken i h) (fun i hi => st.late i (fun h => hi (List.mem_append_left _ h)) (fun h => hi (List.mem_append_right _ h)))
    have e3 : fuel = n := by rw [e2] at hc; omega
    rw [e, e2, e3]
    exact fin vs w st.below (fun i hi => st.vals i hi (hl i hi)) (fun x hx => st.tied x hx (hl _ (hX x hx).2.1) (hl _ (hX x hx).2.2))
  induction fuel with
  | zero =>
    intro listed a w vs st hc
    have hfull : ∀ i, i < ops.size → listed[i]? = some true := by
      intro i hi
      have h1 : listed.toList.count true = listed.toList.length := by rw [Array.length_toList, st.size]; omega
      have h2 := List.count_eq_length.1 h1 (listed[i]'(by rw [st.size]; exact hi)) (by simp)
      rw [Array.getElem?_eq_getElem (by rw [st.size]; exact hi), ← h2]
    exact hall 0 listed a w vs st hc fun i hi => hfull i (ok.lt i hi)
  | succ fuel ih =>
    intro listed a w vs st hc
    by_cases hl : ∀ i ∈ hd, listed[i]? = some true
    · exact hall (fuel + 1) listed a w vs st hc hl
    -- the first that is not listed may come up
    have hex : ∃ i, i ∈ hd ∧ listed[i]? = some false ∧ ∀ j, j < i → j ∈ hd → listed[j]? = some true := by
      have : ∃ i, i ∈ hd ∧ listed[i]? ≠ some true := by
        by_cases h : ∃ i, i ∈ hd ∧ listed[i]? ≠ some true
        · exact h
        · exact absurd (fun i hi => Classical.byContradiction fun hn => h ⟨i, hi, hn⟩) hl
      obtain ⟨n, ⟨h1, h2⟩, hmin⟩ := first_of (fun i => i ∈ hd ∧ listed[i]? ≠ some true) this
      refine ⟨n, h1, ?_, fun j hj hjh => Classical.byContradiction fun hn => hmin j hj ⟨hjh, hn⟩⟩
      have hlt : n < listed.size := by rw [st.size]; exact ok.lt n h1
      rw [Array.getElem?_eq_getElem hlt] at h2 ⊢
      cases hb : listed[n] with
      | true => exact absurd (by rw [hb]) h2
      | false => rfl
    refine ⟨fun h0 => ?_, fun i hi => ?_⟩
    · obtain ⟨i, him, hif, hlt⟩ := hex
      have : i ∈ Region.ready .any ops listed := ready_iff.2 ⟨hif, ok.lt i him, fun j hj => by
        rcases ok.dep i him j hj with h | h
        · exact hlt j h.2 h.1
        · exact st.taken j h⟩
      rw [h0] at this; cases this
    · obtain ⟨hif, hin, hdeps⟩ := ready_iff.1 hi
      have him : i ∈ hd := by
        rcases ok.all i hin with h | h | h | h
        · exact h
        · rw [st.taken i h] at hif; cases hif
        · subst h
          -- all that t0 waits for is listed: so all of hd are
          refine absurd (fun j hj => ?_) hl
          have key : ∀ (k j : Nat), i - j = k → j ∈ hd → listed[j]? = some true := by
            intro k
            induction k using Nat.strongRecOn with
            | _ k ih2 =>
              intro j hk hj
              obtain ⟨x, hx, hjx, hd2⟩ := ok.sink j hj
              rcases hx with hx | rfl
              · have := (ok.bef x hx).1
                exact st.closed x hx (ih2 (i - x) (by omega) x rfl hx) j hd2 hj
              · exact hdeps j hd2
          exact key _ j rfl hj
        · obtain ⟨x, hx, h2⟩ := ok.tail i h
          have h3 := hdeps x hx
          have h4 := ok.apart x h2
          exact absurd h3 (st.late x h4.1 h4.2)
      have ho : ops[i]? = some ops[i] := Array.getElem?_eq_getElem hin
      have hn : ¬ listed[i]? = some true := by rw [hif]; simp
      have hlk := st.ag.look ok him hn (fun j hj _ => hdeps j hj) st.closed
      have hlk2 : ∀ t ∈ (ops[i]).looksAt ops, a.tmps[t]? = (putL ops vs a0 (depsH ops hd i)).tmps[t]? := by
        intro t ht
        exact hlk t (by unfold looks; rw [ho]; exact ht)
      have hsz : a.tmps.size = (putL ops vs a0 (depsH ops hd i)).tmps.size := by
        rw [st.ag.size, (Ag.putL ok vs a0 (depsH ops hd i) fun j hj => (mem_depsH.1 hj).2).size]
      refine wpOp_of_step ho (fun cs b => Region.noSelect_spec ok.sel i _ cs b ho) hsz hlk2 (step i _ him ho vs w st.below fun j hj => st.vals j (mem_depsH.1 hj).2 (hdeps j (mem_depsH.1 hj).1)) fun v w' hv hb ht => ?_
      have hd' : dstOf ops i = (ops[i]).dst := by unfold dstOf; rw [ho]; rfl
      have hset : ∀ k, (listed.setIfInBounds i true)[k]? = some true ↔ (k = i ∨ listed[k]? = some true) := by
        intro k
        rw [Array.getElem?_setIfInBounds]
        by_cases hk : i = k
        · subst hk
          have : i < listed.size := by rw [st.size]; exact hin
          simp [this]
        · rw [if_neg hk]
          constructor
          · exact .inr
          · rintro (h | h)
            · exact absurd h.symm hk
            · exact h
      refine ih (listed.setIfInBounds i true) _ w' (fun k => if k = i then v else vs k) ⟨by rw [Array.size_setIfInBounds, st.size], ?_, fun j hj hl2 k hk hkh => ?_, fun k hk hk1 hk2 => ?_, fun k hk => (hset k).2 (.inr (st.taken k hk)), fun k hkh hk => ?_, st.below.trans (hb.mono st.below.size), fun x hx hl1 hl2 => ?_⟩ ?_
      · rw [← hd']
        exact (st.ag.put ok i him hn v).congr fun k => (hset k).symm
      · rcases (hset j).1 hl2 with rfl | h
        · exact (hset k).2 (.inr (hdeps k hk))
        · exact (hset k).2 (.inr (st.closed j hj h k hk hkh))
      · rcases (hset k).1 hk2 with rfl | h
        · exact hk him
        · exact st.late k hk hk1 h
      · rcases (hset k).1 hk with rfl | h
        · simp only [if_pos]; exact hv
        · by_cases hki : k = i
          · subst hki; exact absurd h hn
          · simp only [if_neg hki]
            exact mono k _ w w' (st.vals k hkh h) hb
      · obtain ⟨t1, t2⟩ := ht x hx
        obtain ⟨hne, hxa, hxb⟩ := hX x hx
        rcases (hset _).1 hl1 with e1 | e1
        · rcases (hset _).1 hl2 with e2 | e2
          · exact absurd (e1.trans e2.symm) hne
          · have hk : ¬ x.b = i := fun e => hne (e1.trans e.symm)
            simp only [if_pos e1, if_neg hk]
            exact t1 e1 _ (st.vals _ hxb e2)
        · rcases (hset _).1 hl2 with e2 | e2
          · have hk : ¬ x.a = i := fun e => hne (e.trans e2.symm)
            simp only [if_pos e2, if_neg hk]
            exact t2 e2 _ (st.vals _ hxa e1)
          · by_cases hk : x.a = i
            · rw [hk] at e1; exact absurd e1 hn
            · by_cases hk2 : x.b = i
              · rw [hk2] at e2; exact absurd e2 hn
              · simp only [if_neg hk, if_neg hk2]
                exact x.mono _ _ w w' (st.tied x hx e1 e2) hb
      · have h1 : (listed.setIfInBounds i true).toList = listed.toList.set i true := by simp
        rw [h1, count_set (by simpa using hif)]
        omega
theorem start_st (ok : Ok ops hd pre t0 tl) (hp : ∀ i ∈ pre, i < ops.size) {PP : Nat → Value → World → Prop} {XP : List Tie} (hX : ∀ x ∈ XP, x.a ≠ x.b ∧ x.a ∈ hd ∧ x.b ∈ hd) {w0 : World} (vs : Nat → Value) : St ops hd pre a0 PP XP w0 (pat ops pre) a0 w0 vs := by
  have hget : ∀ i : Nat, (pat ops pre)[i]? = some true ↔ (i < ops.size ∧ i ∈ pre) := by
    intro i
    have e : (pat ops pre)[i]? = ((List.range ops.size).map fun i => pre.contains i)[i]? := by unfold pat; exact List.getElem?_toArray ..
    rw [e, List.getElem?_map]
    rcases Nat.lt_or_ge i ops.size with h3 | h3
    · rw [List.getElem?_range h3, Option.map_some]
      simp [h3]
    · rw [List.getElem?_eq_none (by simpa using h3)]
      simp; omega
  have hh : ∀ i ∈ hd, ¬ (pat ops pre)[i]? = some true := fun i hi h => (ok.bef i hi).2 ((hget i).1 h).2
  refine ⟨by simp [pat], ⟨rfl, rfl, fun i d hi h => absurd h (hh i hi), fun _ _ => rfl⟩, fun j hj h => absurd h (hh j hj), fun i h1 h2 h => h2 ((hget i).1 h).2, fun i hi => (hget i).2 ⟨hp i hi, hi⟩, fun i hi h => absurd h (hh i hi), Below.refl _ _, fun x hx h => absurd h (hh _ (hX x hx).2.1)⟩
theorem count_start (n : Nat) : ((Array.replicate n false).toList).count true = 0 := by
  rw [List.count_eq_zero]
  simp
/-- Those of a list come up one behind the other. -/
def seqB (ops : Array Oper) : List Nat → Array Bool → Bool
  | [], listed => (Region.ready .any ops listed).isEmpty
  | k :: l, listed => decide (Region.ready .any ops listed = [k]) && (ops[k]?).isSome && seqB ops l (listed.setIfInBounds k true)
theorem wpAny_seq : ∀ (l : List Nat) (listed : Array Bool) (a : Act) (w : World), seqB ops l listed = true → wpList P ops Q (l.filterMap fun k => ops[k]?) a w → wpAny P .any ops Q l.length listed a w
  | [], _, _, _, hB, h => ⟨by simpa [seqB] using hB, h⟩
  | k :: l, listed, a, w, hB, h => by
    simp only [seqB, Bool.and_eq_true, decide_eq_true_eq] at hB
    obtain ⟨⟨h1, h2⟩, h3⟩ := hB
    obtain ⟨o, ho⟩ := Option.isSome_iff_exists.1 h2
    rw [List.filterMap_cons, ho] at h
    refine ⟨fun h0 => (by rw [h1] at h0; cases h0), fun i hi => ?_⟩
    rw [h1] at hi
    have hik : i = k := by simpa using hi
    subst hik
    have hw : wpOp P ops Q i (wpList P ops Q (l.filterMap fun k => ops[k]?)) a w := by unfold wpOp; simp only [ho]; exact h
    exact wpOp_mono (fun a' w' h' => wpAny_seq l _ a' w' h3 h') hw
/-- THE REGION, some of its operations taken: those of hd in whatever order, each by the fact on its value; the others, which wait for them, one behind the other. -/
theorem region_tail {l : List Oper} {w : World} (hd pre : List Nat) (t0 : Nat) (tl : List Nat) (hok : okB l.toArray hd pre t0 tl = true) (hseq : seqB l.toArray (t0 :: tl) (pat l.toArray (hd ++ pre)) = true)
    (hcnt : ((t0 :: tl).length + (pat l.toArray (hd ++ pre)).toList.count true == l.length && pre.all (fun i => decide (i < l.length))) = true)
    (PP : Nat → Value → World → Prop) (XP : List Tie) (hX : ∀ x ∈ XP, x.a ≠ x.b ∧ x.a ∈ hd ∧ x.b ∈ hd) (mono : ∀ i v w w', PP i v w → Below w.heap.size w w' → PP i v w')
    (step : ∀ i o, i ∈ hd → l.toArray[i]? = some o → ∀ vs w', Below w.heap.size w w' → (∀ j ∈ depsH l.toArray hd i, PP j (vs j) w') → Step P l.toArray hd a0 PP XP i o vs w')
    (fin : ∀ vs w', Below w.heap.size w w' → (∀ i ∈ hd, PP i (vs i) w') → (∀ x ∈ XP, x.r (vs x.a) (vs x.b) w') → wpList P l.toArray Q ((t0 :: tl).filterMap fun k => l.toArray[k]?) (putL l.toArray vs a0 hd) w')
    (fuel : Nat) (hfuel : (fuel + (pat l.toArray pre).toList.count true == l.length) = true) : wpAny P .any l.toArray Q fuel (pat l.toArray pre) a0 w := by
  have ok := ok_of hok
  simp only [Bool.and_eq_true, beq_iff_eq, List.all_eq_true, decide_eq_true_eq] at hcnt hfuel
  have hc : (t0 :: tl).length + (pat l.toArray (hd ++ pre)).toList.count true = l.toArray.size := by simpa using hcnt.1
  exact main ok hX mono step _ hc (by simp) (fun vs w' hb hv ht => wpAny_seq (t0 :: tl) _ _ _ hseq (fin vs w' hb hv ht)) fuel _ a0 _ (fun _ => undef) (start_st ok (fun i hi => by simpa using hcnt.2 i hi) hX _) (by simpa using hfuel)
/-- A fact on a value, kept by whatever leaves what was there. -/
structure MP where
  p : Value → World → Prop
  mono : ∀ v w w', p v w → Below w.heap.size w w' → p v w'
def MP.any : MP := ⟨fun _ _ => True, fun _ _ _ _ _ => trivial⟩
def MP.is (u : Value) : MP := ⟨fun v _ => v = u, fun _ _ _ h _ => h⟩
def PL (L : List MP) (i : Nat) (v : Value) (w : World) : Prop := (L.getD i MP.any).p v w
theorem PL.mono (L : List MP) (i : Nat) (v : Value) (w w' : World) (h : PL L i v w) (hb : Below w.heap.size w w') : PL L i v w' := (L.getD i MP.any).mono v w w' h hb
def dst (ds : List (Option Tmp)) (j : Nat) : Option Tmp := ds.getD j none
def putD (ds : List (Option Tmp)) (vs : Nat → Value) (a0 : Act) (l : List Nat) : Act := l.foldl (fun a j => a.put (dst ds j) (vs j)) a0
def yieldedD (ds : List (Option Tmp)) (tmps : Array Value) (j : Nat) : Option Bool :=
  match (dst ds j).bind (tmps[·]?) with
  | some (.bool b) => some b
  | _ => none
/-- What is to be shown of one operation, the deps and places spelled out. -/
def StepD (P : Program) (ds : List (Option Tmp)) (a0 : Act) (L : List MP) (XP : List Tie) (w : World) (i : Nat) (o : Oper) (dl : List Nat) : Prop :=
  ∀ vs w', Below w.heap.size w w' → (∀ j ∈ dl, PL L j (vs j) w') →
    ∀ K : Act → World → Prop, Shut (∀ v w'', PL L i v w'' → Below w'.heap.size w' w'' → Ties (PL L) XP i v w' w'' → K ((putD ds vs a0 dl).put o.dst v) w'') →
      if Region.wanted o (yieldedD ds (putD ds vs a0 dl).tmps) = true then Oper.wp P o (putD ds vs a0 dl) w' K NoQ else K ((putD ds vs a0 dl).put o.dst undef) w'
def StepsD (P : Program) (ds : List (Option Tmp)) (a0 : Act) (L : List MP) (XP : List Tie) (w : World) : List Nat → List Oper → List (List Nat) → Prop
  | [], [], [] => True
  | i :: hd, o :: l, d :: dl => StepD P ds a0 L XP w i o d ∧ StepsD P ds a0 L XP w hd l dl
  | _, _, _ => False
theorem StepsD.at {ds : List (Option Tmp)} {L : List MP} {XP : List Tie} {w : World} {ops : Array Oper} {HD : List Nat} : ∀ {hd : List Nat} {l : List Oper} {dl : List (List Nat)}, StepsD P ds a0 L XP w hd l dl → hd.filterMap (fun k => ops[k]?) = l → (∀ i ∈ hd, i < ops.size) → hd.map (depsH ops HD) = dl → ∀ i o, i ∈ hd → ops[i]? = some o → StepD P ds a0 L XP w i o (depsH ops HD i) := by
  intro hd
  induction hd with
  | nil => intro l dl _ _ _ _ i o hi; cases hi
  | cons k hd ih =>
    intro l dl h hl hlt hdl i o hi ho
    obtain ⟨ok, hok⟩ : ∃ ok, ops[k]? = some ok := ⟨_, Array.getElem?_eq_getElem (hlt k (by simp))⟩
    rw [List.filterMap_cons, hok] at hl
    subst hl hdl
    rcases List.mem_cons.1 hi with rfl | hi
    · rw [hok] at ho
      cases ho
      exact h.1
    · exact ih h.2 rfl (fun j hj => hlt j (by simp [hj])) rfl i o hi ho
theorem dst_eq {l : List Oper} {ds : List (Option Tmp)} (h : l.map (·.dst) = ds) (j : Nat) : dstOf l.toArray j = dst ds j := by
  subst h
  unfold dstOf dst
  rw [List.getElem?_toArray, List.getD_eq_getElem?_getD, List.getElem?_map]
  cases l[j]? <;> rfl
theorem putD_eq {l : List Oper} {ds : List (Option Tmp)} (h : l.map (·.dst) = ds) (vs : Nat → Value) (a0 : Act) (k : List Nat) : putL l.toArray vs a0 k = putD ds vs a0 k := by
  unfold putL putD
  congr 1
  funext a j
  rw [dst_eq h]
theorem yieldedD_eq {l : List Oper} {ds : List (Option Tmp)} (h : l.map (·.dst) = ds) (t : Array Value) : yielded l.toArray t = yieldedD ds t := by
  funext j
  unfold yielded yieldedD
  rw [← dst_eq h]
  rfl
theorem undrew {B : Nat} {w w' : World} (h : Below B w.drew w') : Below B w w' := ⟨h.os, h.tape, h.output, h.size, h.block⟩
end
end Inv
end Go.Proofs.YtncebhddcokkoaaDoor
