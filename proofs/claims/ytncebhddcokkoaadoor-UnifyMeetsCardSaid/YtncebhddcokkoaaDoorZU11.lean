/- Texts in a row: Ri Vb Ya. -/
import Derived.Deep.RegionHeld3
import Derived.Below
import Derived.StillTail
import Derived.Test.YtncebhddcokkoaaDoorZU10
import Derived.Outline
import Derived.Test.YtncebhddcokkoaaDoorZU8
import Derived.Deep.QuietTactic
import Derived.BigQuiet
import Derived.Deep.DeepCutAuto
/- A region that draws its order, walked by one fact for each operation's value: no orders are gone through. -/
namespace Go.Proofs.YtncebhddcokkoaaDoor
open Go.RowKit
namespace Inr
def deps (ops : Array Oper) (i : Nat) : List Nat := match ops[i]? with
  | none => []
  | some o => (o.after.toList.filter (Region.binds .any ·)).map (·.on)
def dstOf (ops : Array Oper) (i : Nat) : Option Tmp := (ops[i]?).bind (·.dst)
/-- A frame into which the values of some operations are put. -/
def putL (ops : Array Oper) (vs : Nat → Value) (a0 : Act) (l : List Nat) : Act := l.foldl (fun a j => a.put (dstOf ops j) (vs j)) a0
def looks (ops : Array Oper) (i : Nat) : List Tmp := match ops[i]? with
  | none => []
  | some o => o.looksAt ops
/-- What is asked of the region's text: m operations are gone through in whatever order; those behind wait for all of them. -/
def okB (ops : Array Oper) (m : Nat) : Bool :=
  Region.noSelect ops && decide (m ≤ ops.size) &&
  (List.range ops.size).all (fun i => (deps ops i).all (fun j => decide (j < i))) &&
  (decide (m = ops.size) || (Region.sinkB .any ops m && Region.chainB .any ops m)) &&
  (List.range m).all (fun i => (List.range m).all fun j => (i == j) || (dstOf ops i).isNone || (dstOf ops i != dstOf ops j)) &&
  (List.range m).all (fun i => (List.range m).all fun j => match dstOf ops j with
    | none => true
    | some d => !(looks ops i).contains d || (deps ops i).contains j || (deps ops j).contains i)
structure Ok (ops : Array Oper) (m : Nat) : Prop where
  sel : Region.noSelect ops = true
  le : m ≤ ops.size
  lt : ∀ i, i < ops.size → ∀ j ∈ deps ops i, j < i
  tail : m = ops.size ∨ (Region.sinkB .any ops m = true ∧ Region.chainB .any ops m = true)
  dist : ∀ i j, i < m → j < m → i ≠ j → ∀ d, dstOf ops i = some d → dstOf ops j ≠ some d
  look : ∀ i j, i < m → j < m → ∀ d, dstOf ops j = some d → d ∈ looks ops i → j ∈ deps ops i ∨ i ∈ deps ops j
theorem ok_of {ops : Array Oper} {m : Nat} (h : okB ops m = true) : Ok ops m := by
  unfold okB at h
  simp only [Bool.and_eq_true, decide_eq_true_eq, List.all_eq_true, List.mem_range, Bool.or_eq_true, List.contains_iff_mem] at h
  obtain ⟨⟨⟨⟨⟨h1, h2⟩, h4⟩, h5⟩, h6⟩, h7⟩ := h
  refine ⟨h1, h2, fun i hi j hj => h4 i hi j hj, h5, fun i j hi hj hne d hd hd2 => ?_, fun i j hi hj d hd hl => ?_⟩
  · have := h6 i hi j hj
    rw [hd, hd2] at this
    simp [hne] at this
  · have := h7 i hi j hj
    rw [hd] at this
    simp only [Bool.or_eq_true, Bool.not_eq_true', List.contains_iff_mem] at this
    rcases this with (h | h) | h
    · rw [← Bool.not_eq_true, List.contains_iff_mem] at h; exact absurd hl h
    · exact .inl h
    · exact .inr h
/-- A frame that bears the values of what is listed. -/
structure Ag (ops : Array Oper) (m : Nat) (a0 : Act) (L : Nat → Prop) (vs : Nat → Value) (a : Act) : Prop where
  defers : a.defers = a0.defers
  size : a.tmps.size = a0.tmps.size
  set : ∀ i d, i < m → L i → dstOf ops i = some d → d < a0.tmps.size → a.tmps[d]? = some (vs i)
  old : ∀ t, (∀ i, i < m → L i → dstOf ops i ≠ some t) → a.tmps[t]? = a0.tmps[t]?
section
variable {ops : Array Oper} {m : Nat} {a0 a a' : Act} {L : Nat → Prop} {vs : Nat → Value}
theorem put_size (a : Act) (d : Option Tmp) (v : Value) : (a.put d v).tmps.size = a.tmps.size := by cases d <;> simp [Act.put]
theorem put_defers (a : Act) (d : Option Tmp) (v : Value) : (a.put d v).defers = a.defers := by cases d <;> rfl
theorem put_at (a : Act) (d : Tmp) (v : Value) (h : d < a.tmps.size) : (a.put (some d) v).tmps[d]? = some v := by simp [Act.put, h]
theorem put_ne (a : Act) (d : Option Tmp) (v : Value) (t : Tmp) (h : d ≠ some t) : (a.put d v).tmps[t]? = a.tmps[t]? := by
  cases d with
  | none => rfl
  | some d =>
    have hne : d ≠ t := fun e => h (by rw [e])
    simp [Act.put, Array.getElem?_setIfInBounds_ne hne]
theorem Ag.congr {L2 : Nat → Prop} (h : Ag ops m a0 L vs a) (hL : ∀ i, L i ↔ L2 i) : Ag ops m a0 L2 vs a :=
  ⟨h.defers, h.size, fun i d hi hl => h.set i d hi ((hL i).2 hl), fun t ht => h.old t fun i hi hl => ht i hi ((hL i).1 hl)⟩
theorem Ag.nil : Ag ops m a0 (fun _ => False) vs a0 := ⟨rfl, rfl, fun _ _ _ h => h.elim, fun _ _ => rfl⟩
theorem Ag.put (ok : Ok ops m) (h : Ag ops m a0 L vs a) (i : Nat) (hi : i < m) (hn : ¬ L i) (v : Value) : Ag ops m a0 (fun k => k = i ∨ L k) (fun k => if k = i then v else vs k) (a.put (dstOf ops i) v) := by
  refine ⟨by rw [put_defers, h.defers], by rw [put_size, h.size], fun k d hk hl hd hlt => ?_, fun t ht => ?_⟩
  · by_cases hki : k = i
    · subst hki
      rw [hd, put_at _ _ _ (by rw [h.size]; exact hlt), if_pos rfl]
    · rw [put_ne _ _ _ _ (fun e => ok.dist i k hi hk (Ne.symm hki) d e hd), if_neg hki]
      rcases hl with hl | hl
      · exact absurd hl hki
      · exact h.set k d hk hl hd hlt
  · rw [put_ne _ _ _ _ (ht i hi (.inl rfl))]
    exact h.old t fun k hk hl => ht k hk (.inr hl)
theorem Ag.vals {vs2 : Nat → Value} (h : Ag ops m a0 L vs a) (hv : ∀ i, L i → vs i = vs2 i) : Ag ops m a0 L vs2 a :=
  ⟨h.defers, h.size, fun i d hi hl hd hlt => by rw [← hv i hl]; exact h.set i d hi hl hd hlt, h.old⟩
theorem Ag.putL (ok : Ok ops m) (vs : Nat → Value) (a0 : Act) : ∀ l : List Nat, (∀ j ∈ l, j < m) → Ag ops m a0 (fun k => k ∈ l) vs (putL ops vs a0 l) := by
  intro l
  have key : ∀ (l : List Nat) (L : Nat → Prop) (a : Act), (∀ j ∈ l, j < m) → Ag ops m a0 L vs a → Ag ops m a0 (fun k => k ∈ l ∨ L k) vs (l.foldl (fun a j => a.put (dstOf ops j) (vs j)) a) := by
    intro l
    induction l with
    | nil => intro L a _ h; exact h.congr fun i => by simp
    | cons x l ih =>
      intro L a hl h
      have hx := hl x (by simp)
      have h2 : Ag ops m a0 (fun k => k = x ∨ L k) vs (a.put (dstOf ops x) (vs x)) := by
        by_cases hLx : L x
        · refine ⟨by rw [put_defers, h.defers], by rw [put_size, h.size], fun k d hk hl hd hlt => ?_, fun t ht => ?_⟩
          · by_cases hkx : k = x
            · subst hkx
              rw [hd, put_at _ _ _ (by rw [h.size]; exact hlt)]
            · rw [put_ne _ _ _ _ (fun e => ok.dist x k hx hk (Ne.symm hkx) d e hd)]
              rcases hl with hl | hl
              · exact absurd hl hkx
              · exact h.set k d hk hl hd hlt
          · rw [put_ne _ _ _ _ (ht x hx (.inl rfl))]
            exact h.old t fun k hk hl => ht k hk (.inr hl)
        · exact (h.put ok x hx hLx (vs x)).vals fun i _ => by split <;> simp_all
      exact (ih _ _ (fun j hj => hl j (by simp [hj])) h2).congr fun i => by
        simp only [List.mem_cons]
        constructor
        · rintro (h | h | h)
          · exact .inl (.inr h)
          · exact .inl (.inl h)
          · exact .inr h
        · rintro ((h | h) | h)
          · exact .inr (.inl h)
          · exact .inl h
          · exact .inr (.inr h)
  intro hl
  exact (key l _ _ hl Ag.nil).congr fun i => by simp
theorem Ag.unique (h : Ag ops m a0 L vs a) (h' : Ag ops m a0 L vs a') : a = a' := by
  obtain ⟨t, ds⟩ := a
  obtain ⟨t', ds'⟩ := a'
  have e1 : ds = ds' := h.defers.trans h'.defers.symm
  have e2 : t = t' := by
    apply Array.ext_getElem?
    intro k
    by_cases hk : ∃ i, i < m ∧ L i ∧ dstOf ops i = some k
    · obtain ⟨i, hi, hl, hd⟩ := hk
      rcases Nat.lt_or_ge k a0.tmps.size with hlt | hge
      · exact (h.set i k hi hl hd hlt).trans (h'.set i k hi hl hd hlt).symm
      · have s1 : t.size = a0.tmps.size := h.size
        have s2 : t'.size = a0.tmps.size := h'.size
        rw [Array.getElem?_eq_none (by omega), Array.getElem?_eq_none (by omega)]
    · have hn : ∀ i, i < m → L i → dstOf ops i ≠ some k := fun i hi hl hd => hk ⟨i, hi, hl, hd⟩
      exact (h.old k hn).trans (h'.old k hn).symm
  rw [e1, e2]
/-- An operation sees what it waits for, and what was there. -/
theorem Ag.look (ok : Ok ops m) (h : Ag ops m a0 L vs a) {i : Nat} (hi : i < m) (hn : ¬ L i) (hd : ∀ j ∈ deps ops i, L j) (hc : ∀ j, j < m → L j → ∀ k ∈ deps ops j, L k) :
    ∀ t ∈ looks ops i, a.tmps[t]? = (Inr.putL ops vs a0 (deps ops i)).tmps[t]? := by
  intro t ht
  have hlt := ok.lt i (by have := ok.le; omega)
  have h2 := Ag.putL ok vs a0 (deps ops i) fun j hj => by have := hlt j hj; omega
  by_cases hk : ∃ j, j < m ∧ L j ∧ dstOf ops j = some t
  · obtain ⟨j, hj, hl, hdj⟩ := hk
    have hmem : j ∈ deps ops i := by
      rcases ok.look i j hi hj t hdj ht with h | h
      · exact h
      · exact absurd (hc j hj hl i h) hn
    rcases Nat.lt_or_ge t a0.tmps.size with hs | hs
    · exact (h.set j t hj hl hdj hs).trans (h2.set j t hj hmem hdj hs).symm
    · have s1 := h.size
      have s2 := h2.size
      rw [Array.getElem?_eq_none (by omega), Array.getElem?_eq_none (by omega)]
  · have hn1 : ∀ i, i < m → L i → dstOf ops i ≠ some t := fun i hi hl hd => hk ⟨i, hi, hl, hd⟩
    exact (h.old t hn1).trans (h2.old t fun j hj hl => hn1 j hj (hd j hl)).symm
end
section
variable {P : Program} {ops : Array Oper} {m : Nat} {a0 : Act} {Q : Exit → Act → World → Prop}
theorem eval_same {a a' : Act} {o : Oper} (h : ∀ t ∈ o.looksAt ops, a.tmps[t]? = a'.tmps[t]?) : ∀ x ∈ o.op.operands, a.eval x = a'.eval x := by
  intro x hx
  cases x with
  | tmp t =>
    have := h t (List.mem_append_left _ (List.mem_filterMap.2 ⟨.tmp t, by simpa using hx, rfl⟩))
    simp only [Act.eval, Array.getD_eq_getD_getElem?, this]
  | _ => rfl
theorem wanted_same {a a' : Act} {o : Oper} (h : ∀ t ∈ o.looksAt ops, a.tmps[t]? = a'.tmps[t]?) : Region.wanted o (yielded ops a.tmps) = Region.wanted o (yielded ops a'.tmps) := by
  unfold Region.wanted
  cases hg : o.guard with
  | none => rfl
  | some gw =>
    obtain ⟨g, want⟩ := gw
    have hy : yielded ops a.tmps g = yielded ops a'.tmps g := by
      unfold yielded
      cases ht : (ops[g]?).bind (·.dst) with
      | none => rfl
      | some t =>
        have := h t (List.mem_append_right _ (by simp [hg, ht]))
        simp only [Option.bind_some, this]
    simp only [hy]
def NoQ : Exit → Act → World → Prop := fun _ _ _ => False
/-- What the value of an operation is to those that it is tied to. -/
structure Tie where
  a : Nat
  b : Nat
  r : Value → Value → World → Prop
  mono : ∀ v u w w', r v u w → Below w.heap.size w w' → r v u w'
def Ties (PP : Nat → Value → World → Prop) (XP : List Tie) (i : Nat) (v : Value) (w w' : World) : Prop :=
  ∀ x ∈ XP, (x.a = i → ∀ u, PP x.b u w → x.r v u w') ∧ (x.b = i → ∀ u, PP x.a u w → x.r u v w')
theorem noTies (PP : Nat → Value → World → Prop) (i : Nat) (v : Value) (w w' : World) : Ties PP [] i v w w' := fun _ h => by cases h
/-- What is to be shown of one operation. -/
def Step (P : Program) (ops : Array Oper) (a0 : Act) (PP : Nat → Value → World → Prop) (XP : List Tie) (i : Nat) (o : Oper) (vs : Nat → Value) (w : World) : Prop :=
  ∀ K : Act → World → Prop, Shut (∀ v w', PP i v w' → Below w.heap.size w w' → Ties PP XP i v w w' → K ((putL ops vs a0 (deps ops i)).put o.dst v) w') →
    if Region.wanted o (yielded ops (putL ops vs a0 (deps ops i)).tmps) = true then Oper.wp P o (putL ops vs a0 (deps ops i)) w K NoQ else K ((putL ops vs a0 (deps ops i)).put o.dst undef) w
theorem put_inj_defers {a b : Act} {d : Option Tmp} {v u : Value} (h : a.put d v = b.put d u) : a.defers = b.defers := by
  have := congrArg Act.defers h
  rwa [put_defers, put_defers] at this
theorem put_same {a a1 : Act} {d : Option Tmp} {u v : Value} (h : a1.put d u = a1.put d v) (hz : a.tmps.size = a1.tmps.size) : a.put d u = a.put d v := by
  cases d with
  | none => rfl
  | some d =>
    rcases Nat.lt_or_ge d a.tmps.size with hl | hl
    · have h1 := put_at a1 d u (by rw [← hz]; exact hl)
      rw [h, put_at a1 d v (by rw [← hz]; exact hl)] at h1
      cases h1
      rfl
    · have hn : ¬ d < a.tmps.size := Nat.not_lt.2 hl
      simp [Act.put, Array.setIfInBounds, hn]
/-- From the frame that bears only what the operation waits for to the frame at hand. -/
theorem wpOp_of_step {PP : Nat → Value → World → Prop} {XP : List Tie} {i : Nat} {o : Oper} (ho : ops[i]? = some o) (hsel : ∀ cs b, o.op ≠ .select cs b) {vs : Nat → Value} {w : World} {a : Act} {K : Act → World → Prop}
    (hz : a.tmps.size = (putL ops vs a0 (deps ops i)).tmps.size)
    (hlook : ∀ t ∈ o.looksAt ops, a.tmps[t]? = (putL ops vs a0 (deps ops i)).tmps[t]?) (hs : Step P ops a0 PP XP i o vs w) (hK : ∀ v w', PP i v w' → Below w.heap.size w w' → Ties PP XP i v w w' → K (a.put o.dst v) w') : wpOp P ops Q i K a w := by
  have h1 := hs (fun a' w' => ∃ v, a' = (putL ops vs a0 (deps ops i)).put o.dst v ∧ K (a.put o.dst v) w') (fun v w' h1 h2 h3 => ⟨v, rfl, hK v w' h1 h2 h3⟩)
  generalize putL ops vs a0 (deps ops i) = a1 at *
  have next : ∀ u w', (∃ v, a1.put o.dst u = a1.put o.dst v ∧ K (a.put o.dst v) w') → K (a.put o.dst u) w' := by
    rintro u w' ⟨v, he, hk⟩
    rw [put_same he hz]; exact hk
  unfold wpOp
  simp only [ho]
  rw [wanted_same hlook]
  split
  · rename_i hw
    rw [if_pos hw] at h1
    refine .inl ?_
    unfold Oper.wp at *
    rw [execOp_congr o hsel (eval_same hlook)]
    generalize (execOp a1.eval o).run P w = r at *
    cases r with
    | ok n w' =>
      cases n <;> simp only [Oper.upon] at h1 ⊢
      case value u => exact next u w' h1
      case skip => exact next _ w' h1
      case defer d =>
        obtain ⟨v, he, _⟩ := h1
        have h2 := put_inj_defers he
        have h3 := congrArg List.length h2
        simp at h3
      case enter f args =>
        refine Calls.mono h1 fun e w'' he => ?_
        cases e with
        | returned u => exact next u w'' he
        | panicked c => exact he.elim
        | outgrown => obtain ⟨_, _, h⟩ := he; exact h.elim
      case row row args => exact Rows.mono h1 fun u w'' he => next u w'' he
    | halt x w' =>
      cases x <;> simp only [Oper.upon] at h1 ⊢
      all_goals exact h1.elim
  · rename_i hw
    rw [if_neg hw] at h1
    exact next _ w h1
theorem getD_false {listed : Array Bool} {i : Nat} : listed.getD i false = true ↔ listed[i]? = some true := by
  rcases Nat.lt_or_ge i listed.size with h | h
  · simp [h]
  · simp [Array.getElem?_eq_none h]
theorem getD_true {listed : Array Bool} {i : Nat} : listed.getD i true = false ↔ listed[i]? = some false := by
  rcases Nat.lt_or_ge i listed.size with h | h
  · simp [h]
  · simp [Array.getElem?_eq_none h]
theorem count_set {l : List Bool} : ∀ {i : Nat}, l[i]? = some false → (l.set i true).count true = l.count true + 1 := by
  induction l with
  | nil => intro i h; simp at h
  | cons b l ih =>
    intro i h
    cases i with
    | zero => simp at h; subst h; simp
    | succ i =>
      rw [List.set_cons_succ, List.count_cons, List.count_cons, ih (by simpa using h)]
      omega
theorem mem_deps {i j : Nat} {o : Oper} (ho : ops[i]? = some o) : j ∈ deps ops i ↔ ∃ e ∈ o.after, Region.binds .any e = true ∧ e.on = j := by
  unfold deps
  rw [ho]
  simp only [List.mem_map, List.mem_filter]
  constructor
  · rintro ⟨e, ⟨h1, h2⟩, h3⟩; exact ⟨e, by simpa using h1, h2, h3⟩
  · rintro ⟨e, h1, h2, h3⟩; exact ⟨e, ⟨by simpa using h1, h2⟩, h3⟩
theorem ready_iff {i : Nat} {listed : Array Bool} : i ∈ Region.ready .any ops listed ↔ listed[i]? = some false ∧ i < ops.size ∧ ∀ j ∈ deps ops i, listed[j]? = some true := by
  rw [mem_ready, getD_true]
  constructor
  · rintro ⟨h0, o, ho, h⟩
    refine ⟨h0, (Array.getElem?_eq_some_iff.1 ho).1, fun j hj => ?_⟩
    obtain ⟨e, he, hb, rfl⟩ := (mem_deps ho).1 hj
    exact getD_false.1 (h e he hb)
  · rintro ⟨h0, hi, h⟩
    refine ⟨h0, ops[i], Array.getElem?_eq_getElem hi, fun e he hb => getD_false.2 (h _ ((mem_deps (Array.getElem?_eq_getElem hi)).2 ⟨e, he, hb, rfl⟩))⟩
theorem first_of (p : Nat → Prop) (h : ∃ i, p i) : ∃ i, p i ∧ ∀ j, j < i → ¬ p j := by
  obtain ⟨i, hi⟩ := h
  induction i using Nat.strongRecOn with
  | _ i ih =>
    by_cases h2 : ∃ j, j < i ∧ p j
    · obtain ⟨j, hj, hp⟩ := h2
      exact ih j hj hp
    · exact ⟨i, hi, fun j hj hp => h2 ⟨j, hj, hp⟩⟩
/-- The first m are listed. -/
def pat (ops : Array Oper) (m : Nat) : Array Bool := (List.replicate m true ++ List.replicate (ops.size - m) false).toArray
theorem pat_count : (pat ops m).toList.count true = m := by simp [pat, List.count_replicate]
theorem pat_of {listed : Array Bool} (hs : listed.size = ops.size) (hm : m ≤ ops.size) (h1 : ∀ i, i < m → listed[i]? = some true) (h2 : ∀ i, m ≤ i → listed[i]? ≠ some true) : listed = pat ops m := by
  apply Array.ext_getElem?
  intro i
  have e : (pat ops m)[i]? = (List.replicate m true ++ List.replicate (ops.size - m) false)[i]? := by unfold pat; exact List.getElem?_toArray ..
  rw [e]
  rcases Nat.lt_or_ge i m with h | h
  · rw [h1 i h, List.getElem?_append_left (by simpa using h), List.getElem?_replicate, if_pos h]
  · rw [List.getElem?_append_right (by simpa using h), List.getElem?_replicate, List.length_replicate]
    rcases Nat.lt_or_ge i ops.size with h3 | h3
    · rw [if_pos (by omega)]
      have hlt : i < listed.size := by omega
      have := h2 i h
      rw [Array.getElem?_eq_getElem hlt] at this ⊢
      cases hb : listed[i] with
      | true => rw [hb] at this; exact absurd rfl this
      | false => rfl
    · rw [if_neg (by omega), Array.getElem?_eq_none (by omega)]
/-- The state of the walk. -/
structure St (ops : Array Oper) (m : Nat) (a0 : Act) (PP : Nat → Value → World → Prop) (XP : List Tie) (w0 : World) (listed : Array Bool) (a : Act) (w : World) (vs : Nat → Value) : Prop where
  size : listed.size = ops.size
  ag : Ag ops m a0 (fun i => listed[i]? = some true) vs a
  closed : ∀ j, j < m → listed[j]? = some true → ∀ k ∈ deps ops j, listed[k]? = some true
  late : ∀ i, m ≤ i → listed[i]? ≠ some true
  vals : ∀ i, listed[i]? = some true → PP i (vs i) w
  below : Below w0.heap.size w0 w
  tied : ∀ x ∈ XP, listed[x.a]? = some true → listed[x.b]? = some true → x.r (vs x.a) (vs x.b) w
theorem main (ok : Ok ops m) {PP : Nat → Value → World → Prop} {XP : List Tie} (hX : ∀ x ∈ XP, x.a ≠ x.b ∧ x.a < m ∧ x.b < m) (mono : ∀ i v w w', PP i v w → Below w.heap.size w w' → PP i v w') {w0 : World}
    (step : ∀ i o, i < m → ops[i]? = some o → ∀ vs w, Below w0.heap.size w0 w → (∀ j ∈ deps ops i, PP j (vs j) w) → Step P ops a0 PP XP i o vs w)
    (fin : ∀ vs w, Below w0.heap.size w0 w → (∀ i, i < m → PP i (vs i) w) → (∀ x ∈ XP, x.r (vs x.a) (vs x.b) w) → wpAny P .any ops Q (ops.size - m) (pat ops m) (putL ops vs a0 (List.range m)) w) :
    ∀ (fuel : Nat) (listed : Array Bool) (a : Act) (w : World) (vs : Nat → Value), St ops m a0 PP XP w0 listed a w vs → fuel + listed.toList.count true = ops.size → wpAny P .any ops Q fuel listed a w := by
  intro fuel
  have hall : ∀ (fuel : Nat) (listed : Array Bool) (a : Act) (w : World) (vs : Nat → Value), St ops m a0 PP XP w0 listed a w vs → fuel + listed.toList.count true = ops.size → (∀ i, i < m → listed[i]? = some true) → wpAny P .any ops Q fuel listed a w := by
    intro fuel listed a w vs st hc hl
    have e : a = putL ops vs a0 (List.range m) := by
      refine Ag.unique (st.ag) ((Ag.putL ok vs a0 (List.range m) fun j hj => List.mem_range.1 hj).congr fun i => ?_)
      constructor
      · intro h; exact hl i (List.mem_range.1 h)
      · intro h
        rcases Nat.lt_or_ge i m with h2 | h2
        · exact List.mem_range.2 h2
        · exact absurd h (st.late i h2)
    have e2 : listed = pat ops m := pat_of st.size ok.le hl st.late
    have e3 : fuel = ops.size - m := by rw [e2, pat_count] at hc; omega
    rw [e, e2, e3]
    exact fin vs w st.below (fun i hi => st.vals i (hl i hi)) (fun x hx => st.tied x hx (hl _ (hX x hx).2.1) (hl _ (hX x hx).2.2))
  induction fuel with
  | zero =>
    intro listed a w vs st hc
    have hfull : ∀ i, i < ops.size → listed[i]? = some true := by
      intro i hi
      have h1 : listed.toList.count true = listed.toList.length := by rw [Array.length_toList, st.size]; omega
      have h2 := List.count_eq_length.1 h1 (listed[i]'(by rw [st.size]; exact hi)) (by simp)
      rw [Array.getElem?_eq_getElem (by rw [st.size]; exact hi), ← h2]
    exact hall 0 listed a w vs st hc fun i hi => hfull i (by have := ok.le; omega)
  | succ fuel ih =>
    intro listed a w vs st hc
    by_cases hl : ∀ i, i < m → listed[i]? = some true
    · exact hall (fuel + 1) listed a w vs st hc hl
    -- the first that is not listed may come up
    have hex : ∃ i, i < m ∧ listed[i]? = some false ∧ ∀ j, j < i → listed[j]? = some true := by
      have : ∃ i, i < m ∧ listed[i]? ≠ some true := by
        by_cases h : ∃ i, i < m ∧ listed[i]? ≠ some true
        · exact h
        · exact absurd (fun i hi => Classical.byContradiction fun hn => h ⟨i, hi, hn⟩) hl
      obtain ⟨n, ⟨h1, h2⟩, hmin⟩ := first_of (fun i => i < m ∧ listed[i]? ≠ some true) this
      refine ⟨n, h1, ?_, fun j hj => Classical.byContradiction fun hn => hmin j hj ⟨by omega, hn⟩⟩
      have hlt : n < listed.size := by rw [st.size]; have := ok.le; omega
      rw [Array.getElem?_eq_getElem hlt] at h2 ⊢
      cases hb : listed[n] with
      | true => exact absurd (by rw [hb]) h2
      | false => rfl
    refine ⟨fun h0 => ?_, fun i hi => ?_⟩
    · obtain ⟨i, him, hif, hlt⟩ := hex
      have : i ∈ Region.ready .any ops listed := ready_iff.2 ⟨hif, by have := ok.le; omega, fun j hj => hlt j (ok.lt i (by have := ok.le; omega) j hj)⟩
      rw [h0] at this; cases this
    · obtain ⟨hif, hin, hdeps⟩ := ready_iff.1 hi
      have him : i < m := by
        rcases Nat.lt_or_ge i m with h | h
        · exact h
        · rcases ok.tail with h5 | ⟨h5, h6⟩
          · omega
          · obtain ⟨n, hn1, hn2, _⟩ := hex
            have inv : HeadInv .any ops m listed := ⟨st.size, fun j oj hoj hlj e he hb => by
              have hjm : j < m := by
                rcases Nat.lt_or_ge j m with h7 | h7
                · exact h7
                · exact absurd (getD_false.1 hlj) (st.late j h7)
              exact getD_false.2 (st.closed j hjm (getD_false.1 hlj) _ ((mem_deps hoj).2 ⟨e, he, hb, rfl⟩)), fun t ht ht2 => by
              have hlt : t < listed.size := by rw [st.size]; exact ht2
              have := st.late t ht
              rw [getD_true, Array.getElem?_eq_getElem hlt] at *
              cases hb : listed[t] with
              | true => rw [hb] at this; exact absurd rfl this
              | false => rfl⟩
            exact absurd hi (tail_waits h5 h6 (by omega) inv _ n rfl hn1 (getD_true.2 hn2) i h)
      have ho : ops[i]? = some ops[i] := Array.getElem?_eq_getElem hin
      have hn : ¬ listed[i]? = some true := by rw [hif]; simp
      have hlk := st.ag.look ok him hn hdeps st.closed
      have hlk2 : ∀ t ∈ (ops[i]).looksAt ops, a.tmps[t]? = (putL ops vs a0 (deps ops i)).tmps[t]? := by
        intro t ht
        exact hlk t (by unfold looks; rw [ho]; exact ht)
      have hsz : a.tmps.size = (putL ops vs a0 (deps ops i)).tmps.size := by
        rw [st.ag.size, (Ag.putL ok vs a0 (deps ops i) fun j hj => by have := ok.lt i hin j hj; omega).size]
      refine wpOp_of_step ho (fun cs b => Region.noSelect_spec ok.sel i _ cs b ho) hsz hlk2 (step i _ him ho vs w st.below fun j hj => st.vals j (hdeps j hj)) fun v w' hv hb ht => ?_
      have hd : dstOf ops i = (ops[i]).dst := by unfold dstOf; rw [ho]; rfl
      have hset : ∀ k, (listed.setIfInBounds i true)[k]? = some true ↔ (k = i ∨ listed[k]? = some true) := by
        intro k
        rw [Array.getElem?_setIfInBounds]
        by_cases hk : i = k
        · subst hk
          have : i < listed.size := by rw [st.size]; exact hin
          simp [this]
        · rw [if_neg hk]
          constructor
          · exact .inr
          · rintro (h | h)
            · exact absurd h.symm hk
            · exact h
      refine ih (listed.setIfInBounds i true) _ w' (fun k => if k = i then v else vs k) ⟨by rw [Array.size_setIfInBounds, st.size], ?_, fun j hj hl2 k hk => ?_, fun k hk hk2 => ?_, fun k hk => ?_, st.below.trans (hb.mono st.below.size), fun x hx hl1 hl2 => ?_⟩ ?_
      · rw [← hd]
        exact (st.ag.put ok i him hn v).congr fun k => (hset k).symm
      · rcases (hset j).1 hl2 with rfl | h
        · exact (hset k).2 (.inr (hdeps k hk))
        · exact (hset k).2 (.inr (st.closed j hj h k hk))
      · rcases (hset k).1 hk2 with rfl | h
        · omega
        · exact st.late k hk h
      · rcases (hset k).1 hk with rfl | h
        · simp only [if_pos]; exact hv
        · by_cases hki : k = i
          · subst hki; exact absurd h hn
          · simp only [if_neg hki]
            exact mono k _ w w' (st.vals k h) hb
      · obtain ⟨t1, t2⟩ := ht x hx
        obtain ⟨hne, _, _⟩ := hX x hx
        rcases (hset _).1 hl1 with e1 | e1
        · rcases (hset _).1 hl2 with e2 | e2
          · exact absurd (e1.trans e2.symm) hne
          · have hk : ¬ x.b = i := fun e => hne (e1.trans e.symm)
            simp only [if_pos e1, if_neg hk]
            exact t1 e1 _ (st.vals _ e2)
        · rcases (hset _).1 hl2 with e2 | e2
          · have hk : ¬ x.a = i := fun e => hne (e.trans e2.symm)
            simp only [if_pos e2, if_neg hk]
            exact t2 e2 _ (st.vals _ e1)
          · by_cases hk : x.a = i
            · rw [hk] at e1; exact absurd e1 hn
            · by_cases hk2 : x.b = i
              · rw [hk2] at e2; exact absurd e2 hn
              · simp only [if_neg hk, if_neg hk2]
                exact x.mono _ _ w w' (st.tied x hx e1 e2) hb
      · have h1 : (listed.setIfInBounds i true).toList = listed.toList.set i true := by simp
        rw [h1, count_set (by simpa using hif)]
        omega
theorem start_st {PP : Nat → Value → World → Prop} {XP : List Tie} {w0 : World} (vs : Nat → Value) : St ops m a0 PP XP w0 (Array.replicate ops.size false) a0 w0 vs := by
  have hf : ∀ i : Nat, (Array.replicate ops.size false)[i]? ≠ some true := by
    intro i h
    rw [Array.getElem?_replicate] at h
    split at h <;> cases h
  exact ⟨by simp, Ag.nil.congr fun i => ⟨fun h => h.elim, fun h => hf i h⟩, fun j _ h => absurd h (hf j), fun i _ => hf i, fun i h => absurd h (hf i), Below.refl _ _, fun x _ h => absurd h (hf _)⟩
theorem count_start (n : Nat) : ((Array.replicate n false).toList).count true = 0 := by
  rw [List.count_eq_zero]
  simp
/-- THE REGION: m operations in whatever order, each by the fact on its value; the others, which wait for them, one behind the other. -/
theorem region_tail {l : List Oper} {id : Nat} {w : World} (hm : P.follows .mixedOrders = true) (m : Nat) (hok : okB l.toArray m = true) (hseq : Region.seqB .any l.toArray (l.drop m).length m (pat l.toArray m) = true)
    (PP : Nat → Value → World → Prop) (XP : List Tie) (hX : ∀ x ∈ XP, x.a ≠ x.b ∧ x.a < m ∧ x.b < m) (mono : ∀ i v w w', PP i v w → Below w.heap.size w w' → PP i v w')
    (step : ∀ i o, i < m → l.toArray[i]? = some o → ∀ vs w', Below w.heap.size w.drew w' → (∀ j ∈ deps l.toArray i, PP j (vs j) w') → Step P l.toArray a0 PP XP i o vs w')
    (fin : ∀ vs w', Below w.heap.size w.drew w' → (∀ i, i < m → PP i (vs i) w') → (∀ x ∈ XP, x.r (vs x.a) (vs x.b) w') → wpList P l.toArray Q (l.drop m) (putL l.toArray vs a0 (List.range m)) w') : (Code.region id l.toArray true).wp P Q a0 w := by
  have ok := ok_of hok
  refine wp_region_any hm (main ok hX mono (w0 := w.drew) step (fun vs w' hb hv ht => ?_) l.toArray.size _ a0 _ (fun _ => undef) (start_st _) (by rw [count_start]; omega))
  have e : l.toArray.size - m = (l.drop m).length := by simp
  rw [e]
  exact wpAny_of_seq (l.drop m) m _ _ _ (fun j => by simp) hseq (fin vs w' hb hv ht)
/-- A fact on a value, kept by whatever leaves what was there. -/
structure MP where
  p : Value → World → Prop
  mono : ∀ v w w', p v w → Below w.heap.size w w' → p v w'
def MP.any : MP := ⟨fun _ _ => True, fun _ _ _ _ _ => trivial⟩
def MP.is (u : Value) : MP := ⟨fun v _ => v = u, fun _ _ _ h _ => h⟩
def PL (L : List MP) (i : Nat) (v : Value) (w : World) : Prop := (L.getD i MP.any).p v w
theorem PL.mono (L : List MP) (i : Nat) (v : Value) (w w' : World) (h : PL L i v w) (hb : Below w.heap.size w w') : PL L i v w' := (L.getD i MP.any).mono v w w' h hb
def dst (ds : List (Option Tmp)) (j : Nat) : Option Tmp := ds.getD j none
def putD (ds : List (Option Tmp)) (vs : Nat → Value) (a0 : Act) (l : List Nat) : Act := l.foldl (fun a j => a.put (dst ds j) (vs j)) a0
def yieldedD (ds : List (Option Tmp)) (tmps : Array Value) (j : Nat) : Option Bool :=
  match (dst ds j).bind (tmps[·]?) with
  | some (.bool b) => some b
  | _ => none
/-- What is to be shown of one operation, the deps and places spelled out. -/
def StepD (P : Program) (ds : List (Option Tmp)) (a0 : Act) (L : List MP) (XP : List Tie) (w : World) (i : Nat) (o : Oper) (dl : List Nat) : Prop :=
  ∀ vs w', Below w.heap.size w w' → (∀ j ∈ dl, PL L j (vs j) w') →
    ∀ K : Act → World → Prop, Shut (∀ v w'', PL L i v w'' → Below w'.heap.size w' w'' → Ties (PL L) XP i v w' w'' → K ((putD ds vs a0 dl).put o.dst v) w'') →
      if Region.wanted o (yieldedD ds (putD ds vs a0 dl).tmps) = true then Oper.wp P o (putD ds vs a0 dl) w' K NoQ else K ((putD ds vs a0 dl).put o.dst undef) w'
def StepsD (P : Program) (ds : List (Option Tmp)) (a0 : Act) (L : List MP) (XP : List Tie) (w : World) : Nat → List Oper → List (List Nat) → Prop
  | _, [], _ => True
  | _, _ :: _, [] => False
  | i, o :: l, d :: dl => StepD P ds a0 L XP w i o d ∧ StepsD P ds a0 L XP w (i + 1) l dl
theorem StepsD.at {ds : List (Option Tmp)} {L : List MP} {XP : List Tie} {w : World} : ∀ {l : List Oper} {dl : List (List Nat)} {i : Nat}, StepsD P ds a0 L XP w i l dl → ∀ k o, l[k]? = some o → ∃ d, dl[k]? = some d ∧ StepD P ds a0 L XP w (i + k) o d := by
  intro l
  induction l with
  | nil => intro dl i _ k o h; simp at h
  | cons o l ih =>
    intro dl i h k o' ho
    cases dl with
    | nil => exact h.elim
    | cons d dl =>
      cases k with
      | zero => simp at ho; subst ho; exact ⟨d, rfl, h.1⟩
      | succ k =>
        obtain ⟨d', h1, h2⟩ := ih h.2 k o' (by simpa using ho)
        exact ⟨d', by simpa using h1, by rw [show i + (k + 1) = i + 1 + k by omega]; exact h2⟩
theorem dst_eq {l : List Oper} {ds : List (Option Tmp)} (h : l.map (·.dst) = ds) (j : Nat) : dstOf l.toArray j = dst ds j := by
  subst h
  unfold dstOf dst
  rw [List.getElem?_toArray, List.getD_eq_getElem?_getD, List.getElem?_map]
  cases l[j]? <;> rfl
theorem putD_eq {l : List Oper} {ds : List (Option Tmp)} (h : l.map (·.dst) = ds) (vs : Nat → Value) (a0 : Act) (k : List Nat) : putL l.toArray vs a0 k = putD ds vs a0 k := by
  unfold putL putD
  congr 1
  funext a j
  rw [dst_eq h]
theorem yieldedD_eq {l : List Oper} {ds : List (Option Tmp)} (h : l.map (·.dst) = ds) (t : Array Value) : yielded l.toArray t = yieldedD ds t := by
  funext j
  unfold yielded yieldedD
  rw [← dst_eq h]
  rfl
theorem undrew {B : Nat} {w w' : World} (h : Below B w.drew w') : Below B w w' := ⟨h.os, h.tape, h.output, h.size, h.block⟩
/-- THE REGION, everything spelled out: ds the places, dl what each operation waits for, L the facts. -/
theorem region {l : List Oper} {id : Nat} {w : World} (hm : P.follows .mixedOrders = true) (m : Nat) (ds : List (Option Tmp)) (dl : List (List Nat)) (hok : okB l.toArray m = true)
    (hseq : Region.seqB .any l.toArray (l.drop m).length m (pat l.toArray m) = true) (hds : l.map (·.dst) = ds) (hdl : (List.range m).map (deps l.toArray) = dl) (L : List MP) (XP : List Tie) (hX : ∀ x ∈ XP, x.a ≠ x.b ∧ x.a < m ∧ x.b < m)
    (steps : StepsD P ds a0 L XP w 0 (l.take m) dl)
    (fin : ∀ vs w', Below w.heap.size w w' → (∀ i, i < m → PL L i (vs i) w') → (∀ x ∈ XP, x.r (vs x.a) (vs x.b) w') → wpList P l.toArray Q (l.drop m) (putD ds vs a0 (List.range m)) w') : (Code.region id l.toArray true).wp P Q a0 w := by
  refine region_tail hm m hok hseq (PL L) XP hX (PL.mono L) (fun i o hi ho vs w' hb hv => ?_) (fun vs w' hb hv ht => by rw [putD_eq hds]; exact fin vs w' (undrew hb) hv ht)
  obtain ⟨d, h1, h2⟩ := steps.at i o (by rw [List.getElem?_take, if_pos hi]; simpa using ho)
  have e : d = deps l.toArray i := by
    rw [← hdl, List.getElem?_map, List.getElem?_range hi] at h1
    exact (Option.some.inj h1).symm
  subst e
  intro K hK
  rw [Nat.zero_add] at h2
  have h3 := h2 vs w' (undrew hb) hv K (fun v w'' a b c => by rw [← putD_eq hds]; exact hK.out v w'' a b c)
  rw [putD_eq hds, yieldedD_eq hds]
  exact h3
end
end Inr
end Go.Proofs.YtncebhddcokkoaaDoor
/- The document's Subst: types put in the place of variables, whole. -/
namespace Go.Proofs.YtncebhddcokkoaaDoor
open Go.RowKit
set_option linter.unusedSimpArgs false
set_option linter.unusedVariables false
def Inr.MP.inX (X : Nat → Prop) (d : Nat) (t : Tm) : Inr.MP := ⟨fun v w => IsX X w d v t, fun v w w' h hb => h.below hb⟩
/-- A slice of one term that was made. -/
def Inr.MP.oneX (X : Nat → Prop) (d : Nat) (t : Tm) : Inr.MP := ⟨fun v w => ∃ g k p n N q l c, v = .slice (some ⟨g, 0, none⟩) 1 1 ∧ w.heap[g]? = some (.cells #[.int .i64 k, .string p, .string n, .int .i64 N, .slice q l c] 36 (0, 0)) ∧ IsX X w d (tv k p n N (.slice q l c)) t,
  fun v w w' ⟨g, k, p, n, N, q, l, c, h1, h2, h3⟩ hb => ⟨g, k, p, n, N, q, l, c, h1, hb_below h2 hb (hb_lt h2), h3.below hb⟩⟩
/-- A slice of terms whose own lists lie in given blocks. -/
def KidsE (X : Nat → Prop) (w : World) (d : Nat) (s : Value) (kids : List Tm) : Prop := ∃ q c, s = .slice q kids.length c ∧ kids.length ≤ maxLen ∧
  ∀ i x, kids[i]? = some x → ∃ b o k' p' n' N' s', q = some ⟨b, o, none⟩ ∧ True ∧ TAt w b (o + i * 5) k' p' n' N' s' ∧ IsX X w d (tv k' p' n' N' s') x
theorem KidsE.below {X : Nat → Prop} {w w' : World} {d : Nat} {s : Value} {kids : List Tm} (h : KidsE X w d s kids) (hb : Below w.heap.size w w') : KidsE X w' d s kids := by
  obtain ⟨q, c, h1, h4, h5⟩ := h
  refine ⟨q, c, h1, h4, fun i y hy => ?_⟩
  obtain ⟨b, o, k', p', n', N', s', e, hX, ha, ht⟩ := h5 i y hy
  exact ⟨b, o, k', p', n', N', s', e, hX, ha.below hb ha.lt, ht.below hb⟩
def RSubA (B0 d2 : Nat) (x : Tm) (w : World) (en : Ending) (w' : World) : Prop := ∃ v', en = .returned v' ∧ IsX (fun b => b < B0 ∨ w.heap.size ≤ b) w' d2 v' x ∧ Below w.heap.size w w'
/-- The first of the names that is so, if any of the first is. -/
theorem fg_none_iff {names : List ByteArray} {k : Nat} {s : ByteArray} (h : ∀ x ∈ names.take k, x ≠ s) : fg names k s = none := by
  induction k with
  | zero => rfl
  | succ k ih =>
    show (match fg names k s with | some i => some i | none => if names[k]? = some s then some (k : Int) else none) = none
    have h1 : fg names k s = none := ih fun x hx => h x (by
      rw [List.mem_take_iff_getElem] at hx ⊢
      obtain ⟨i, hi, e⟩ := hx
      exact ⟨i, by omega, e⟩)
    rw [h1]
    simp only
    rw [if_neg]
    intro e
    obtain ⟨hk, e2⟩ := List.getElem?_eq_some_iff.1 e
    exact h s (by rw [List.mem_take_iff_getElem]; exact ⟨k, by omega, e2⟩) rfl
theorem fg_more {names : List ByteArray} {k : Nat} {s : ByteArray} {i : Int} (h : fg names k s = some i) : ∀ m, k ≤ m → fg names m s = some i := by
  intro m
  induction m with
  | zero =>
    intro hk
    have e : k = 0 := by omega
    rw [← e]; exact h
  | succ m ih =>
    intro hk
    by_cases e : k = m + 1
    · rw [← e]; exact h
    · show (match fg names m s with | some i => some i | none => if names[m]? = some s then some (m : Int) else none) = _
      rw [ih (by omega)]
theorem fg_at {names : List ByteArray} {k : Nat} {s : ByteArray} (h : ∀ x ∈ names.take k, x ≠ s) (hk : names[k]? = some s) : ∀ m, k < m → fg names m s = some (k : Int) := by
  intro m hm
  refine fg_more (k := k + 1) ?_ m hm
  show (match fg names k s with | some i => some i | none => if names[k]? = some s then some (k : Int) else none) = _
  rw [fg_none_iff h]
  simp only
  rw [if_pos hk]
set_option maxRecDepth 100000 in
set_option maxHeartbeats 4000000 in
theorem rsubst_any (names : List ByteArray) (vn : Value) (bys : List Tm) (vb : Value) (e : Nat) (hnl : names.length ≤ 1000) : ∀ (d : Nat) (t : Tm) (v : Value) (w : World) (B0 : Nat), B0 ≤ w.heap.size → IsT w d v t → SRowO w vn names → KidsE (fun b => b < B0) w e vb bys → Sm d t →
    Calls Tryd.prog 18 #[v, vn, vb] w (RSubA B0 (e + d) (sub (byOf (fg names names.length) bys) d t) w) := by
  intro d
  induction d with
  | zero => intro t v w B0 _ h; cases h
  | succ d ih =>
    intro t v w B0 hB0 ha hn hb hs
    obtain ⟨d1, k1, p1, n1, N1, s1, l1, e1, rfl, rfl, hp1, hn1, hk1⟩ := ha.open
    obtain rfl : d = d1 := by omega
    obtain ⟨q1, c1, hs1, hm1, hr1⟩ := hk1
    subst hs1
    have HN := Lib.hid hn
    have HKB := Lib.hid hb
    obtain ⟨qn, cn, rfl, hnc⟩ := hn
    obtain ⟨qb, cb, rfl, hbm, hbr⟩ := hb
    have HR1 := Lib.hid hr1
    have HNC := Lib.hid hnc
    have HBR := Lib.hid hbr
    have HSM := Lib.hid hs
    have HIH := Lib.hid ih
    have HP1 := Lib.hid hp1
    have HN1 := Lib.hid hn1
    have HM1 := Lib.hid hm1
    clear ha e1 hr1 hnc hbr hs ih hp1 hn1
    unfold maxLen at hm1 hbm
    have hB : Below w.heap.size w ((w.alloc (.cells #[.int .i64 k1, .string p1, .string n1, .int .i64 N1, .slice q1 l1.length c1] 36)).alloc (.cells #[.int .i64 0, .string ⟨#[]⟩, .string ⟨#[]⟩, .int .i64 0, .slice none 0 0] 36)) := below2 w _ _
    have b1 := hb_alloc (hb_new w (.cells #[.int .i64 k1, .string p1, .string n1, .int .i64 N1, .slice q1 l1.length c1] 36)) (.cells #[.int .i64 0, .string ⟨#[]⟩, .string ⟨#[]⟩, .int .i64 0, .slice none 0 0] 36)
    have b2 := hb_new (w.alloc (.cells #[.int .i64 k1, .string p1, .string n1, .int .i64 N1, .slice q1 l1.length c1] 36)) (.cells #[.int .i64 0, .string ⟨#[]⟩, .string ⟨#[]⟩, .int .i64 0, .slice none 0 0] 36)
    simp only [World.size_alloc] at b2
    have HB := Lib.hid hB
    have K1 := Lib.hid b1
    have K2 := Lib.hid b2
    clear hB b1 b2
    go_enter Tryd.func18, Tryd.ntmps18
    go_upto_region 1 with fail
    have hzw : ((w.alloc (.cells #[.int .i64 k1, .string p1, .string n1, .int .i64 N1, .slice q1 l1.length c1] 36)).alloc (.cells #[.int .i64 0, .string ⟨#[]⟩, .string ⟨#[]⟩, .int .i64 0, .slice none 0 0] 36)).heap.size = w.heap.size + 2 := by simp
    generalize ((w.alloc (.cells #[.int .i64 k1, .string p1, .string n1, .int .i64 N1, .slice q1 l1.length c1] 36)).alloc (.cells #[.int .i64 0, .string ⟨#[]⟩, .string ⟨#[]⟩, .int .i64 0, .slice none 0 0] 36)) = W0 at *
    go_wp2
    go_loopw [7] (fun i wr => ∃ j : Nat, j ≤ names.length ∧ i = .int .i64 j ∧ Below W0.heap.size W0 wr ∧ (k1 = 1 → ∀ x ∈ names.take j, x ≠ n1)) (fun i _ => names.length - (intOf i).toNat)
    case atStart => exact ⟨0, Nat.zero_le _, rfl, Below.refl _ _, fun _ x hx => by simp at hx⟩
    case round =>
      obtain ⟨j, hj, rfl, hbl, hno⟩ := hrel
      have HBL := Lib.hid hbl
      have HNO := Lib.hid hno
      clear hno
      have J1 := Lib.hid (hb_below K1.out hbl (hb_lt K1.out))
      have J2 := Lib.hid (hb_below K2.out hbl (hb_lt K2.out))
      have x0 := hb_at J1.out 0 rfl
      clear hbl
      by_cases hlt : j < names.length
      · have hlt2 : (j : Int) < (names.length : Int) := by omega
        by_cases hk : k1 = 1
        · have HK := Lib.hid hk
          clear hk
          have ek : (k1 == 1) = true := by rw [HK.out]; rfl
          have hse := List.getElem?_eq_getElem hlt
          have HSE := Lib.hid hse
          have HT : RowKit.Hid (names.take (j + 1) = names.take j ++ [names[j]]) := Lib.hid (List.take_succ_eq_append_getElem hlt)
          obtain ⟨g1, og, rfl, hc1⟩ := HNC.out j names[j] hse
          have HC1 := Lib.hid hc1
          clear hse hc1
          generalize names[j] = x at *
          go_upto_region 4 with fail
          refine Inr.region (by kernel_rfl) 6 [some 21, some 22, some 23, some 24, some 25, some 26, some 27] [[], [], [0, 1], [2], [], [4]] (by kernel_rfl) (by kernel_rfl) (by kernel_rfl) (by kernel_rfl) [Inr.MP.is (.slice (some ⟨g1, og, none⟩) names.length cn), Inr.MP.is (.int .i64 j), Inr.MP.is (.pointer (some ⟨g1, og + j, none⟩)), Inr.MP.is (.string x), Inr.MP.is (.pointer (some ⟨w.heap.size, 2, none⟩)), Inr.MP.is (.string n1)] [] (by intro x hx; cases hx) ⟨?_, ?_, ?_, ?_, ?_, ?_, trivial⟩ (fun vs wq hbq hv htie => ?_)
          · intro vs w' hb hv K hK
            clear hv
            have hK2 := hK.out
            clear hK
            simp only [Inr.putD, Inr.dst, List.foldl_cons, List.foldl_nil, List.getD_cons_zero, List.getD_cons_succ, Act.put, List.setIfInBounds_toArray, List.set_cons_zero, List.set_cons_succ] at hK2 ⊢
            have hK := Lib.hid hK2
            clear hK2
            simp only [Region.wanted, Inr.yieldedD, Inr.dst, List.getD_cons_zero, List.getD_cons_succ]
            go_simp
            refine hK.out _ _ (Eq.refl _) (Below.refl _ _) (Inr.noTies _ _ _ _ _)
          · intro vs w' hb hv K hK
            clear hv
            have hK2 := hK.out
            clear hK
            simp only [Inr.putD, Inr.dst, List.foldl_cons, List.foldl_nil, List.getD_cons_zero, List.getD_cons_succ, Act.put, List.setIfInBounds_toArray, List.set_cons_zero, List.set_cons_succ] at hK2 ⊢
            have hK := Lib.hid hK2
            clear hK2
            simp only [Region.wanted, Inr.yieldedD, Inr.dst, List.getD_cons_zero, List.getD_cons_succ]
            go_simp
            refine hK.out _ _ (Eq.refl _) (Below.refl _ _) (Inr.noTies _ _ _ _ _)
          · intro vs w' hb hv K hK
            have h0 : (Inr.MP.is (.slice (some ⟨g1, og, none⟩) names.length cn)).p (vs 0) w' := hv 0 (by simp)
            have h1 : (Inr.MP.is (.int .i64 j)).p (vs 1) w' := hv 1 (by simp)
            clear hv
            have hK2 := hK.out
            clear hK
            simp only [Inr.putD, Inr.dst, List.foldl_cons, List.foldl_nil, List.getD_cons_zero, List.getD_cons_succ, Act.put, List.setIfInBounds_toArray, List.set_cons_zero, List.set_cons_succ] at hK2 ⊢
            have hK := Lib.hid hK2
            clear hK2
            generalize vs 0 = y0 at *
            generalize vs 1 = y1 at *
            have h0 : y0 = _ := h0
            subst h0
            have h1 : y1 = _ := h1
            subst h1
            simp only [Region.wanted, Inr.yieldedD, Inr.dst, List.getD_cons_zero, List.getD_cons_succ]
            go_simp
            refine hK.out _ _ (Eq.refl _) (Below.refl _ _) (Inr.noTies _ _ _ _ _)
          · intro vs w' hb hv K hK
            have h2 : (Inr.MP.is (.pointer (some ⟨g1, og + j, none⟩))).p (vs 2) w' := hv 2 (by simp)
            clear hv
            have hK2 := hK.out
            clear hK
            simp only [Inr.putD, Inr.dst, List.foldl_cons, List.foldl_nil, List.getD_cons_zero, List.getD_cons_succ, Act.put, List.setIfInBounds_toArray, List.set_cons_zero, List.set_cons_succ] at hK2 ⊢
            have hK := Lib.hid hK2
            clear hK2
            generalize vs 2 = y2 at *
            have h2 : y2 = _ := h2
            subst h2
            have hcx := keep_cell hb (keep_cell HBL.out (keep_cell HB.out HC1.out))
            simp only [Region.wanted, Inr.yieldedD, Inr.dst, List.getD_cons_zero, List.getD_cons_succ]
            go_simp
            refine hK.out _ _ (Eq.refl _) (Below.refl _ _) (Inr.noTies _ _ _ _ _)
          · intro vs w' hb hv K hK
            clear hv
            have hK2 := hK.out
            clear hK
            simp only [Inr.putD, Inr.dst, List.foldl_cons, List.foldl_nil, List.getD_cons_zero, List.getD_cons_succ, Act.put, List.setIfInBounds_toArray, List.set_cons_zero, List.set_cons_succ] at hK2 ⊢
            have hK := Lib.hid hK2
            clear hK2
            simp only [Region.wanted, Inr.yieldedD, Inr.dst, List.getD_cons_zero, List.getD_cons_succ]
            go_simp
            refine hK.out _ _ (Eq.refl _) (Below.refl _ _) (Inr.noTies _ _ _ _ _)
          · intro vs w' hb hv K hK
            have h4 : (Inr.MP.is (.pointer (some ⟨w.heap.size, 2, none⟩))).p (vs 4) w' := hv 4 (by simp)
            clear hv
            have hK2 := hK.out
            clear hK
            simp only [Inr.putD, Inr.dst, List.foldl_cons, List.foldl_nil, List.getD_cons_zero, List.getD_cons_succ, Act.put, List.setIfInBounds_toArray, List.set_cons_zero, List.set_cons_succ] at hK2 ⊢
            have hK := Lib.hid hK2
            clear hK2
            generalize vs 4 = y4 at *
            have h4 : y4 = _ := h4
            subst h4
            have x2 := hb_at (hb_below J1.out hb (hb_lt J1.out)) 2 rfl
            simp only [Region.wanted, Inr.yieldedD, Inr.dst, List.getD_cons_zero, List.getD_cons_succ]
            go_simp
            refine hK.out _ _ (Eq.refl _) (Below.refl _ _) (Inr.noTies _ _ _ _ _)
          · have h3 : vs 3 = .string x := hv 3 (by omega)
            have h5 : vs 5 = .string n1 := hv 5 (by omega)
            clear hv htie
            simp only [List.range, List.range.loop, Inr.putD, Inr.dst, List.foldl_cons, List.foldl_nil, List.getD_cons_zero, List.getD_cons_succ, Act.put, List.setIfInBounds_toArray, List.set_cons_zero, List.set_cons_succ]
            simp only [List.drop_succ_cons, List.drop_zero]
            generalize vs 0 = yy0 at *
            generalize vs 1 = yy1 at *
            generalize vs 2 = yy2 at *
            generalize vs 3 = yy3 at *
            generalize vs 4 = yy4 at *
            generalize vs 5 = yy5 at *
            subst h3 h5
            have HQ := Lib.hid (HBL.out.trans (hbq.mono HBL.out.size))
            have J2 := Lib.hid (hb_below J2.out hbq (hb_lt J2.out))
            have HQB := Lib.hid hbq
            clear hbq
            by_cases hxn : x = n1
            · have he : (x.toList == n1.toList) = true := by rw [hxn]; simp
              have HXN := Lib.hid hxn
              clear hxn
              by_cases hjb : j < bys.length
              · have hjb2 : (j : Int) < (bys.length : Int) := by omega
                have hby := List.getElem?_eq_getElem hjb
                obtain ⟨bb, ob, k9, p9, n9, N9, s9, rfl, hX9, ta9, it9⟩ := HBR.out j bys[j] hby
                have HBY := Lib.hid hby
                clear hby
                generalize bys[j] = y at *
                obtain ⟨_, _, _, _, q9, l9, c9, hv9⟩ := it9.shape
                cases hv9
                have hBw : Below w.heap.size w wq := HB.out.trans (HQ.out.mono HB.out.size)
                obtain ⟨y0, y1, y2, y3, y4⟩ := ta9.below hBw ta9.lt
                have HIT := Lib.hid it9
                have HBW := Lib.hid hBw
                have f0 := hb_free J2.out 0
                have f1 := hb_free J2.out 1
                have f2 := hb_free J2.out 2
                have f3 := hb_free J2.out 3
                have f4 := hb_free J2.out 4
                have e0 := hb_at J2.out 0 rfl
                have e1 := hb_at J2.out 1 rfl
                have e2 := hb_at J2.out 2 rfl
                have e3 := hb_at J2.out 3 rfl
                have e4 := hb_at J2.out 4 rfl
                clear ta9 it9 hBw
                go_wp2
                obtain ⟨u1, u2, u3⟩ := box_set (base := w.heap.size + 1) (by omega) J2.out (.int .i64 k9) (.string p9) (.string n9) (.int .i64 N9) (.slice q9 l9 c9)
                refine bodyPost_ret (v := tv k9 p9 n9 N9 (.slice q9 l9 c9)) (by simp [results, Tryd.results18, go_sem, hb_at u1 0 rfl, hb_at u1 1 rfl, hb_at u1 2 rfl, hb_at u1 3 rfl, hb_at u1 4 rfl]) rfl ⟨_, rfl, ?_, HBW.out.trans (u3.mono (by omega))⟩
                have hF := HBW.out.trans (u3.mono (by omega))
                have hsub : sub (byOf (fg names names.length) bys) (d + 1) (.mk k1 p1 n1 N1 l1) = y := by
                  rw [show k1 = 1 from HK.out]
                  exact sub_yes (by
                    unfold byOf
                    rw [fg_at (HNO.out HK.out) (by rw [HSE.out, HXN.out]) _ hlt]
                    exact HBY.out)
                rw [hsub]
                exact (HIT.out.move fun b hb _ => ⟨.inl hb, hF.block b (by omega)⟩).more (by omega)
              · have hjb2 : ¬ (j : Int) < (bys.length : Int) := by omega
                have HBN : RowKit.Hid (bys[j]? = none) := Lib.hid (List.getElem?_eq_none (by omega))
                have HSUB : RowKit.Hid ((if k1 = 1 then byOf (fg names names.length) bys n1 else none) = none) := Lib.hid (by
                  rw [if_pos HK.out]
                  unfold byOf
                  rw [fg_at (HNO.out HK.out) (by rw [HSE.out, HXN.out]) _ hlt]
                  exact HBN.out)
                have J1 := Lib.hid (hb_below J1.out HQB.out (hb_lt J1.out))
                have HBX := Lib.hid (HB.out.trans (HQ.out.mono HB.out.size))
                have hwx := HQ.out.size
                have x0 := hb_at J1.out 0 rfl
                have x1 := hb_at J1.out 1 rfl
                have x2 := hb_at J1.out 2 rfl
                have x3 := hb_at J1.out 3 rfl
                have hbn := hb_new wq (.cells #[.int .i64 0, .string ⟨#[]⟩, .string ⟨#[]⟩, .int .i64 0, .slice none 0 0] 36)
                have f0 := hb_free hbn 0
                have f1 := hb_free hbn 1
                have f2 := hb_free hbn 2
                have f3 := hb_free hbn 3
                have f4 := hb_free hbn 4
                have e0 := hb_at hbn 0 rfl
                have e1 := hb_at hbn 1 rfl
                have e2 := hb_at hbn 2 rfl
                have e3 := hb_at hbn 3 rfl
                have e4 := hb_at hbn 4 rfl
                have HBN2 := Lib.hid hbn
                clear hbn
                go_upto_region 8 with fail
                have u1 := hb_new wq (.cells #[.int .i64 k1, .string p1, .string n1, .int .i64 N1, .slice none 0 0] 36)
                have hBg : Below wq.heap.size wq (wq.alloc (.cells #[.int .i64 k1, .string p1, .string n1, .int .i64 N1, .slice none 0 0] 36)) := below_alloc _ _
                generalize (wq.alloc (.cells #[.int .i64 k1, .string p1, .string n1, .int .i64 N1, .slice none 0 0] 36)) = W5 at *
                have K5a := hb_below J1.out hBg (hb_lt J1.out)
                have K5b := hb_below J2.out hBg (hb_lt J2.out)
                have hg5 := hb_lt u1
                have HB5 := Lib.hid (HBX.out.trans (hBg.mono HBX.out.size))
                have hl2 := hb_lt J2.out
                clear x0 x1 x2 x3 f0 f1 f2 f3 f4 e0 e1 e2 e3 e4 HBN2 hBg J1 J2
                generalize wq.heap.size = g at *
                go_wp2
                go_loopw [9] (fun i wr => ∃ j : Nat, j ≤ l1.length ∧ i = .int .i64 j ∧ ∃ sv, wr.heap[g]? = some (.cells #[.int .i64 k1, .string p1, .string n1, .int .i64 N1, sv] 36 (0, 0)) ∧ MadeB B0 (g + 1) wr (e + d) sv ((l1.take j).map (sub (byOf (fg names names.length) bys) d)) ∧ g + 1 ≤ wr.heap.size ∧ Below g W5 wr ∧ wr.heap[w.heap.size]? = some (.cells #[.int .i64 k1, .string p1, .string n1, .int .i64 N1, .slice q1 l1.length c1] 36 (0, 0)) ∧ wr.heap[w.heap.size + 1]? = some (.cells #[.int .i64 0, .string ⟨#[]⟩, .string ⟨#[]⟩, .int .i64 0, .slice none 0 0] 36 (0, 0))) (fun i _ => l1.length - (intOf i).toNat)
                case atStart => exact ⟨0, Nat.zero_le _, rfl, _, u1, MadeB.nil _ _ _ _, hg5, Below.refl _ _, K5a, K5b⟩
                case round =>
                  obtain ⟨j, hj, rfl, sv, hG0, hM, hzg, hBG, hG1, hG2⟩ := hrel
                  have HMD := Lib.hid hM
                  have hlen : ((l1.take j).map (sub (byOf (fg names names.length) bys) d)).length = j := by rw [List.length_map, List.length_take]; omega
                  have HLN := Lib.hid hlen
                  obtain ⟨qs, cs, hsv⟩ := hM.shape
                  rw [hlen] at hsv
                  subst hsv
                  clear hlen
                  have G0 := Lib.hid hG0
                  have G1 := Lib.hid hG1
                  have G2 := Lib.hid hG2
                  have HBG := Lib.hid hBG
                  have HBR2 := Lib.hid (HB5.out.trans (hBG.mono (by omega)))
                  clear u1 K5a K5b hM
                  have y4 := hb_at hG1 4 rfl
                  clear hG0 hG1 hG2 hBG
                  by_cases hlt : j < l1.length
                  · have hlt2 : (j : Int) < (l1.length : Int) := by omega
                    have hx1 := List.getElem?_eq_getElem hlt
                    have HSX := Lib.hid (HSM.out.2 l1[j] (List.getElem_mem hlt))
                    have HL1 := Lib.hid HSM.out.1
                    have HTK : RowKit.Hid (l1.take (j + 1) = l1.take j ++ [l1[j]]) := Lib.hid (List.take_succ_eq_append_getElem hlt)
                    generalize l1[j] = x at *
                    obtain ⟨b1, o1, k3, p3, n3, N3, s3, hq1, ha1, ht1⟩ := HR1.out j x hx1
                    subst hq1
                    obtain ⟨q3, l3, c3, hs3⟩ := ht1.spell
                    subst hs3
                    have TA3 := Lib.hid (ha1.below HBR2.out ha1.lt)
                    have IT3 := Lib.hid (ht1.below HBR2.out)
                    clear hx1 ht1 ha1
                    go_upto_region 11 with fail
                    refine Inr.region (by kernel_rfl) 11 [some 52, some 53, some 54, some 55, some 56, some 57, some 58, some 59, some 60, some 61, some 62, some 63, some 64, none] [[], [0], [], [2], [], [3, 4], [5], [], [], [6, 7, 8], [9]] (by kernel_rfl) (by kernel_rfl) (by kernel_rfl) (by kernel_rfl) [Inr.MP.is (.pointer (some ⟨g, 4, none⟩)), Inr.MP.is (.slice qs j cs), Inr.MP.is (.pointer (some ⟨w.heap.size, 4, none⟩)), Inr.MP.is (.slice (some ⟨b1, o1, none⟩) l1.length c1), Inr.MP.is (.int .i64 j), Inr.MP.is (.pointer (some ⟨b1, o1 + j * 5, none⟩)), Inr.MP.is (tv k3 p3 n3 N3 (.slice q3 l3 c3)), Inr.MP.is (.slice (some ⟨g1, og, none⟩) names.length cn), Inr.MP.is (.slice qb bys.length cb), Inr.MP.inX (fun b => b < B0 ∨ wr.heap.size ≤ b) (e + d) ((sub (byOf (fg names names.length) bys) d) x), Inr.MP.oneX (fun b => b < B0 ∨ wr.heap.size ≤ b) (e + d) ((sub (byOf (fg names names.length) bys) d) x)] [] (by intro x hx; cases hx) ⟨?_, ?_, ?_, ?_, ?_, ?_, ?_, ?_, ?_, ?_, ?_, trivial⟩ (fun vs wq hbq hv htie => ?_)
                    · intro vs w' hb hv K hK
                      clear hv
                      have hK2 := hK.out
                      clear hK
                      simp only [Inr.putD, Inr.dst, List.foldl_cons, List.foldl_nil, List.getD_cons_zero, List.getD_cons_succ, Act.put, List.setIfInBounds_toArray, List.set_cons_zero, List.set_cons_succ] at hK2 ⊢
                      have hK := Lib.hid hK2
                      clear hK2
                      simp only [Region.wanted, Inr.yieldedD, Inr.dst, List.getD_cons_zero, List.getD_cons_succ]
                      go_simp
                      refine hK.out _ _ (Eq.refl _) (Below.refl _ _) (Inr.noTies _ _ _ _ _)
                    · intro vs w' hb hv K hK
                      have h0 : (Inr.MP.is (.pointer (some ⟨g, 4, none⟩))).p (vs 0) w' := hv 0 (by simp)
                      clear hv
                      have hK2 := hK.out
                      clear hK
                      simp only [Inr.putD, Inr.dst, List.foldl_cons, List.foldl_nil, List.getD_cons_zero, List.getD_cons_succ, Act.put, List.setIfInBounds_toArray, List.set_cons_zero, List.set_cons_succ] at hK2 ⊢
                      have hK := Lib.hid hK2
                      clear hK2
                      generalize vs 0 = y0 at *
                      have h0 : y0 = _ := h0
                      subst h0
                      have z4 := hb_at (hb_below G0.out hb (hb_lt G0.out)) 4 rfl
                      simp only [Region.wanted, Inr.yieldedD, Inr.dst, List.getD_cons_zero, List.getD_cons_succ]
                      go_simp
                      refine hK.out _ _ (Eq.refl _) (Below.refl _ _) (Inr.noTies _ _ _ _ _)
                    · intro vs w' hb hv K hK
                      clear hv
                      have hK2 := hK.out
                      clear hK
                      simp only [Inr.putD, Inr.dst, List.foldl_cons, List.foldl_nil, List.getD_cons_zero, List.getD_cons_succ, Act.put, List.setIfInBounds_toArray, List.set_cons_zero, List.set_cons_succ] at hK2 ⊢
                      have hK := Lib.hid hK2
                      clear hK2
                      simp only [Region.wanted, Inr.yieldedD, Inr.dst, List.getD_cons_zero, List.getD_cons_succ]
                      go_simp
                      refine hK.out _ _ (Eq.refl _) (Below.refl _ _) (Inr.noTies _ _ _ _ _)
                    · intro vs w' hb hv K hK
                      have h2 : (Inr.MP.is (.pointer (some ⟨w.heap.size, 4, none⟩))).p (vs 2) w' := hv 2 (by simp)
                      clear hv
                      have hK2 := hK.out
                      clear hK
                      simp only [Inr.putD, Inr.dst, List.foldl_cons, List.foldl_nil, List.getD_cons_zero, List.getD_cons_succ, Act.put, List.setIfInBounds_toArray, List.set_cons_zero, List.set_cons_succ] at hK2 ⊢
                      have hK := Lib.hid hK2
                      clear hK2
                      generalize vs 2 = y2 at *
                      have h2 : y2 = _ := h2
                      subst h2
                      have z4 := hb_at (hb_below G1.out hb (hb_lt G1.out)) 4 rfl
                      simp only [Region.wanted, Inr.yieldedD, Inr.dst, List.getD_cons_zero, List.getD_cons_succ]
                      go_simp
                      refine hK.out _ _ (Eq.refl _) (Below.refl _ _) (Inr.noTies _ _ _ _ _)
                    · intro vs w' hb hv K hK
                      clear hv
                      have hK2 := hK.out
                      clear hK
                      simp only [Inr.putD, Inr.dst, List.foldl_cons, List.foldl_nil, List.getD_cons_zero, List.getD_cons_succ, Act.put, List.setIfInBounds_toArray, List.set_cons_zero, List.set_cons_succ] at hK2 ⊢
                      have hK := Lib.hid hK2
                      clear hK2
                      simp only [Region.wanted, Inr.yieldedD, Inr.dst, List.getD_cons_zero, List.getD_cons_succ]
                      go_simp
                      refine hK.out _ _ (Eq.refl _) (Below.refl _ _) (Inr.noTies _ _ _ _ _)
                    · intro vs w' hb hv K hK
                      have h3 : (Inr.MP.is (.slice (some ⟨b1, o1, none⟩) l1.length c1)).p (vs 3) w' := hv 3 (by simp)
                      have h4 : (Inr.MP.is (.int .i64 j)).p (vs 4) w' := hv 4 (by simp)
                      clear hv
                      have hK2 := hK.out
                      clear hK
                      simp only [Inr.putD, Inr.dst, List.foldl_cons, List.foldl_nil, List.getD_cons_zero, List.getD_cons_succ, Act.put, List.setIfInBounds_toArray, List.set_cons_zero, List.set_cons_succ] at hK2 ⊢
                      have hK := Lib.hid hK2
                      clear hK2
                      generalize vs 3 = y3 at *
                      generalize vs 4 = y4 at *
                      have h3 : y3 = _ := h3
                      subst h3
                      have h4 : y4 = _ := h4
                      subst h4
                      simp only [Region.wanted, Inr.yieldedD, Inr.dst, List.getD_cons_zero, List.getD_cons_succ]
                      go_simp
                      refine hK.out _ _ (Eq.refl _) (Below.refl _ _) (Inr.noTies _ _ _ _ _)
                    · intro vs w' hb hv K hK
                      have h5 : (Inr.MP.is (.pointer (some ⟨b1, o1 + j * 5, none⟩))).p (vs 5) w' := hv 5 (by simp)
                      clear hv
                      have hK2 := hK.out
                      clear hK
                      simp only [Inr.putD, Inr.dst, List.foldl_cons, List.foldl_nil, List.getD_cons_zero, List.getD_cons_succ, Act.put, List.setIfInBounds_toArray, List.set_cons_zero, List.set_cons_succ] at hK2 ⊢
                      have hK := Lib.hid hK2
                      clear hK2
                      generalize vs 5 = y5 at *
                      have h5 : y5 = _ := h5
                      subst h5
                      obtain ⟨z0, z1, z2, z3, z4⟩ := TA3.out.below hb TA3.out.lt
                      simp only [Region.wanted, Inr.yieldedD, Inr.dst, List.getD_cons_zero, List.getD_cons_succ]
                      go_simp
                      refine hK.out _ _ (Eq.refl _) (Below.refl _ _) (Inr.noTies _ _ _ _ _)
                    · intro vs w' hb hv K hK
                      clear hv
                      have hK2 := hK.out
                      clear hK
                      simp only [Inr.putD, Inr.dst, List.foldl_cons, List.foldl_nil, List.getD_cons_zero, List.getD_cons_succ, Act.put, List.setIfInBounds_toArray, List.set_cons_zero, List.set_cons_succ] at hK2 ⊢
                      have hK := Lib.hid hK2
                      clear hK2
                      simp only [Region.wanted, Inr.yieldedD, Inr.dst, List.getD_cons_zero, List.getD_cons_succ]
                      go_simp
                      refine hK.out _ _ (Eq.refl _) (Below.refl _ _) (Inr.noTies _ _ _ _ _)
                    · intro vs w' hb hv K hK
                      clear hv
                      have hK2 := hK.out
                      clear hK
                      simp only [Inr.putD, Inr.dst, List.foldl_cons, List.foldl_nil, List.getD_cons_zero, List.getD_cons_succ, Act.put, List.setIfInBounds_toArray, List.set_cons_zero, List.set_cons_succ] at hK2 ⊢
                      have hK := Lib.hid hK2
                      clear hK2
                      simp only [Region.wanted, Inr.yieldedD, Inr.dst, List.getD_cons_zero, List.getD_cons_succ]
                      go_simp
                      refine hK.out _ _ (Eq.refl _) (Below.refl _ _) (Inr.noTies _ _ _ _ _)
                    · intro vs w' hb hv K hK
                      have h6 : (Inr.MP.is (tv k3 p3 n3 N3 (.slice q3 l3 c3))).p (vs 6) w' := hv 6 (by simp)
                      have h7 : (Inr.MP.is (.slice (some ⟨g1, og, none⟩) names.length cn)).p (vs 7) w' := hv 7 (by simp)
                      have h8 : (Inr.MP.is (.slice qb bys.length cb)).p (vs 8) w' := hv 8 (by simp)
                      clear hv
                      have hK2 := hK.out
                      clear hK
                      simp only [Inr.putD, Inr.dst, List.foldl_cons, List.foldl_nil, List.getD_cons_zero, List.getD_cons_succ, Act.put, List.setIfInBounds_toArray, List.set_cons_zero, List.set_cons_succ] at hK2 ⊢
                      have hK := Lib.hid hK2
                      clear hK2
                      generalize vs 6 = y6 at *
                      generalize vs 7 = y7 at *
                      generalize vs 8 = y8 at *
                      have h6 : y6 = _ := h6
                      subst h6
                      have h7 : y7 = _ := h7
                      subst h7
                      have h8 : y8 = _ := h8
                      subst h8
                      have hBw' : Below w.heap.size w w' := HBR2.out.trans (hb.mono HBR2.out.size)
                      have hC := HIH.out x (tv k3 p3 n3 N3 (.slice q3 l3 c3)) w' B0 (Nat.le_trans hB0 hBw'.size) (IT3.out.below hb) (HN.out.below hBw') (HKB.out.below hBw') HSX.out
                      have HC := Lib.hid hC
                      have HSW := Lib.hid hb.size
                      clear hBw' hC
                      simp only [Region.wanted, Inr.yieldedD, Inr.dst, List.getD_cons_zero, List.getD_cons_succ]
                      go_simp
                      ((with_reducible refine HC.out.mono ?_); rintro e5 w5 ⟨v5, rfl, hx5, hb5⟩)
                      go_wp2_with fail
                      refine hK.out _ _ (hx5.move fun b hb1 _ => ⟨by have := HSW.out; omega, rfl⟩) hb5 (Inr.noTies _ _ _ _ _)
                    · intro vs w' hb hv K hK
                      have h9 : IsX (fun b => b < B0 ∨ wr.heap.size ≤ b) w' (e + d) (vs 9) ((sub (byOf (fg names names.length) bys) d) x) := hv 9 (by simp)
                      clear hv
                      have hK2 := hK.out
                      clear hK
                      simp only [Inr.putD, Inr.dst, List.foldl_cons, List.foldl_nil, List.getD_cons_zero, List.getD_cons_succ, Act.put, List.setIfInBounds_toArray, List.set_cons_zero, List.set_cons_succ] at hK2 ⊢
                      have hK := Lib.hid hK2
                      clear hK2
                      generalize vs 9 = y9 at *
                      obtain ⟨k5, p5, n5, N5, q5, l5, c5, rfl⟩ := h9.shape
                      simp only [Region.wanted, Inr.yieldedD, Inr.dst, List.getD_cons_zero, List.getD_cons_succ]
                      go_simp
                      refine hK.out _ _ ⟨_, _, _, _, _, _, _, _, rfl, hb_new _ _, h9.below (below_alloc _ _)⟩ (below_alloc _ _) (Inr.noTies _ _ _ _ _)
                    · have h1 : vs 1 = .slice qs j cs := hv 1 (by omega)
                      have h10 : (Inr.MP.oneX (fun b => b < B0 ∨ wr.heap.size ≤ b) (e + d) ((sub (byOf (fg names names.length) bys) d) x)).p (vs 10) wq := hv 10 (by omega)
                      clear hv htie
                      simp only [List.range, List.range.loop, Inr.putD, Inr.dst, List.foldl_cons, List.foldl_nil, List.getD_cons_zero, List.getD_cons_succ, Act.put, List.setIfInBounds_toArray, List.set_cons_zero, List.set_cons_succ]
                      simp only [List.drop_succ_cons, List.drop_zero]
                      generalize vs 0 = yy0 at *
                      generalize vs 1 = yy1 at *
                      generalize vs 2 = yy2 at *
                      generalize vs 3 = yy3 at *
                      generalize vs 4 = yy4 at *
                      generalize vs 5 = yy5 at *
                      generalize vs 6 = yy6 at *
                      generalize vs 7 = yy7 at *
                      generalize vs 8 = yy8 at *
                      generalize vs 9 = yy9 at *
                      generalize vs 10 = yy10 at *
                      obtain ⟨g5, k5, p5, n5, N5, q5, l5, c5, rfl, hg5, hx5⟩ := h10
                      subst h1
                      obtain ⟨v', w', hr, hM2, hBw⟩ := HMD.out.append (x := (sub (byOf (fg names names.length) bys) d) x) (by omega) (by omega) hbq hx5 hg5 1 (by rw [HLN.out]; have := HL1.out; omega)
                      refine wpList_append_at rfl (.tmp 53) (.tmp 62) rfl rfl rfl rfl hr ?_
                      have G0' := hb_below (hb_below G0.out hbq (hb_lt G0.out)) hBw (by omega)
                      have G1' := hb_below (hb_below G1.out hbq (hb_lt G1.out)) hBw (by omega)
                      have G2' := hb_below (hb_below G2.out hbq (hb_lt G2.out)) hBw (by omega)
                      have HM2 := Lib.hid hM2
                      obtain ⟨qv, cv, hsv⟩ := hM2.shape
                      rw [List.length_append, HLN.out] at hsv
                      subst hsv
                      have f4 := hb_free G0' 4
                      have e4 := hb_at G0' 4 rfl
                      clear hr hM2 hg5 hx5
                      go_wp2
                      go_roundw
                      case rel =>
                        have G3 := hb_set_same G0' 4 (.slice qv (j + [(sub (byOf (fg names names.length) bys) d) x].length) cv)
                        have hzr' := hbq.size
                        have hzb' := hBw.size
                        refine ⟨j + 1, by omega, by go_num, _, by simpa using G3, ?_, by simpa using (by omega : g + 1 ≤ w'.heap.size), ?_, by rw [hb_set_other G1' _ (by show w.heap.size ≠ g; omega)], by rw [hb_set_other G2' _ (by show w.heap.size + 1 ≠ g; omega)]⟩
                        · have e : (l1.take (j + 1)).map (sub (byOf (fg names names.length) bys) d) = (l1.take j).map (sub (byOf (fg names names.length) bys) d) ++ [(sub (byOf (fg names names.length) bys) d) x] := by rw [HTK.out, List.map_append]; rfl
                          rw [e]
                          exact HM2.out.move fun b hb1 hb2 => Below.heap_setCell _ _ _ b (by show b ≠ g; omega)
                        · have h1 := hbq.mono (B' := g) (by omega)
                          exact ((HBG.out.trans h1).trans (hBw.mono (by omega))).setCell (by show g ≤ g; omega) _
                      case measure => simp [intOf]; omega
                  · obtain rfl : j = l1.length := by omega
                    have x0 := hb_at G0.out 0 rfl
                    have x1 := hb_at G0.out 1 rfl
                    have x2 := hb_at G0.out 2 rfl
                    have x3 := hb_at G0.out 3 rfl
                    have x4 := hb_at G0.out 4 rfl
                    have f0 := hb_free G2.out 0
                    have f1 := hb_free G2.out 1
                    have f2 := hb_free G2.out 2
                    have f3 := hb_free G2.out 3
                    have f4 := hb_free G2.out 4
                    have e0 := hb_at G2.out 0 rfl
                    have e1 := hb_at G2.out 1 rfl
                    have e2 := hb_at G2.out 2 rfl
                    have e3 := hb_at G2.out 3 rfl
                    have e4 := hb_at G2.out 4 rfl
                    go_wp2
                    obtain ⟨u1, u2, u3⟩ := box_set (base := w.heap.size + 1) (Nat.le_refl _) G2.out (.int .i64 k1) (.string p1) (.string n1) (.int .i64 N1) (.slice qs l1.length cs)
                    generalize (((((wr.setCell ⟨w.heap.size + 1, 0, none⟩ (.int .i64 k1)).setCell ⟨w.heap.size + 1, 1, none⟩ (.string p1)).setCell ⟨w.heap.size + 1, 2, none⟩ (.string n1)).setCell ⟨w.heap.size + 1, 3, none⟩ (.int .i64 N1)).setCell ⟨w.heap.size + 1, 4, none⟩ (.slice qs l1.length cs)) = W9 at *
                    refine bodyPost_ret (v := tv k1 p1 n1 N1 (.slice qs l1.length cs)) (by simp [results, Tryd.results18, go_sem, hb_at u1 0 rfl, hb_at u1 1 rfl, hb_at u1 2 rfl, hb_at u1 3 rfl, hb_at u1 4 rfl]) rfl ⟨_, rfl, ?_, HBR2.out.trans (u3.mono (by omega))⟩
                    rw [sub_no HSUB.out]
                    have hM := HMD.out
                    rw [List.take_length] at hM
                    have hKX := (hM.all (by rw [List.length_map]; exact HM1.out) (fun b hb => u2 b (by omega))).mono (Y := fun b => b < B0 ∨ w.heap.size ≤ b) (fun b hb => by omega)
                    have hle : (l1.map (sub (byOf (fg names names.length) bys) d)).length = l1.length := List.length_map ..
                    rw [← hle] at hKX ⊢
                    exact IsX.mk HP1.out HN1.out hKX
            · have he : (x.toList == n1.toList) = false := by
                rw [beq_eq_false_iff_ne]
                intro h
                exact hxn (toList_inj h)
              have HXN := Lib.hid hxn
              clear hxn
              go_wp2
              go_roundw
              case rel => exact ⟨j + 1, by omega, by go_num, HQ.out, fun hk y hy => by
                rw [HT.out] at hy
                rcases List.mem_append.1 hy with h | h
                · exact HNO.out hk y h
                · rw [List.mem_singleton.1 h]; exact HXN.out⟩
              case measure => simp [intOf]; omega
        · have ek : (k1 == 1) = false := by simpa using hk
          have HK := Lib.hid hk
          clear hk
          have HSUB : RowKit.Hid ((if k1 = 1 then byOf (fg names names.length) bys n1 else none) = none) := Lib.hid (if_neg HK.out)
          have HQ := HBL
          have HBX := Lib.hid (HB.out.trans (HQ.out.mono HB.out.size))
          have hwx := HQ.out.size
          have x0 := hb_at J1.out 0 rfl
          have x1 := hb_at J1.out 1 rfl
          have x2 := hb_at J1.out 2 rfl
          have x3 := hb_at J1.out 3 rfl
          have hbn := hb_new wr (.cells #[.int .i64 0, .string ⟨#[]⟩, .string ⟨#[]⟩, .int .i64 0, .slice none 0 0] 36)
          have f0 := hb_free hbn 0
          have f1 := hb_free hbn 1
          have f2 := hb_free hbn 2
          have f3 := hb_free hbn 3
          have f4 := hb_free hbn 4
          have e0 := hb_at hbn 0 rfl
          have e1 := hb_at hbn 1 rfl
          have e2 := hb_at hbn 2 rfl
          have e3 := hb_at hbn 3 rfl
          have e4 := hb_at hbn 4 rfl
          have HBN2 := Lib.hid hbn
          clear hbn
          go_upto_region 8 with fail
          have u1 := hb_new wr (.cells #[.int .i64 k1, .string p1, .string n1, .int .i64 N1, .slice none 0 0] 36)
          have hBg : Below wr.heap.size wr (wr.alloc (.cells #[.int .i64 k1, .string p1, .string n1, .int .i64 N1, .slice none 0 0] 36)) := below_alloc _ _
          generalize (wr.alloc (.cells #[.int .i64 k1, .string p1, .string n1, .int .i64 N1, .slice none 0 0] 36)) = W5 at *
          have K5a := hb_below J1.out hBg (hb_lt J1.out)
          have K5b := hb_below J2.out hBg (hb_lt J2.out)
          have hg5 := hb_lt u1
          have HB5 := Lib.hid (HBX.out.trans (hBg.mono HBX.out.size))
          have hl2 := hb_lt J2.out
          clear x0 x1 x2 x3 f0 f1 f2 f3 f4 e0 e1 e2 e3 e4 HBN2 hBg J1 J2
          generalize wr.heap.size = g at *
          go_wp2
          go_loopw [9] (fun i wr => ∃ j : Nat, j ≤ l1.length ∧ i = .int .i64 j ∧ ∃ sv, wr.heap[g]? = some (.cells #[.int .i64 k1, .string p1, .string n1, .int .i64 N1, sv] 36 (0, 0)) ∧ MadeB B0 (g + 1) wr (e + d) sv ((l1.take j).map (sub (byOf (fg names names.length) bys) d)) ∧ g + 1 ≤ wr.heap.size ∧ Below g W5 wr ∧ wr.heap[w.heap.size]? = some (.cells #[.int .i64 k1, .string p1, .string n1, .int .i64 N1, .slice q1 l1.length c1] 36 (0, 0)) ∧ wr.heap[w.heap.size + 1]? = some (.cells #[.int .i64 0, .string ⟨#[]⟩, .string ⟨#[]⟩, .int .i64 0, .slice none 0 0] 36 (0, 0))) (fun i _ => l1.length - (intOf i).toNat)
          case atStart => exact ⟨0, Nat.zero_le _, rfl, _, u1, MadeB.nil _ _ _ _, hg5, Below.refl _ _, K5a, K5b⟩
          case round =>
            obtain ⟨j, hj, rfl, sv, hG0, hM, hzg, hBG, hG1, hG2⟩ := hrel
            have HMD := Lib.hid hM
            have hlen : ((l1.take j).map (sub (byOf (fg names names.length) bys) d)).length = j := by rw [List.length_map, List.length_take]; omega
            have HLN := Lib.hid hlen
            obtain ⟨qs, cs, hsv⟩ := hM.shape
            rw [hlen] at hsv
            subst hsv
            clear hlen
            have G0 := Lib.hid hG0
            have G1 := Lib.hid hG1
            have G2 := Lib.hid hG2
            have HBG := Lib.hid hBG
            have HBR2 := Lib.hid (HB5.out.trans (hBG.mono (by omega)))
            clear u1 K5a K5b hM
            have y4 := hb_at hG1 4 rfl
            clear hG0 hG1 hG2 hBG
            by_cases hlt : j < l1.length
            · have hlt2 : (j : Int) < (l1.length : Int) := by omega
              have hx1 := List.getElem?_eq_getElem hlt
              have HSX := Lib.hid (HSM.out.2 l1[j] (List.getElem_mem hlt))
              have HL1 := Lib.hid HSM.out.1
              have HTK : RowKit.Hid (l1.take (j + 1) = l1.take j ++ [l1[j]]) := Lib.hid (List.take_succ_eq_append_getElem hlt)
              generalize l1[j] = x at *
              obtain ⟨b1, o1, k3, p3, n3, N3, s3, hq1, ha1, ht1⟩ := HR1.out j x hx1
              subst hq1
              obtain ⟨q3, l3, c3, hs3⟩ := ht1.spell
              subst hs3
              have TA3 := Lib.hid (ha1.below HBR2.out ha1.lt)
              have IT3 := Lib.hid (ht1.below HBR2.out)
              clear hx1 ht1 ha1
              go_upto_region 11 with fail
              refine Inr.region (by kernel_rfl) 11 [some 52, some 53, some 54, some 55, some 56, some 57, some 58, some 59, some 60, some 61, some 62, some 63, some 64, none] [[], [0], [], [2], [], [3, 4], [5], [], [], [6, 7, 8], [9]] (by kernel_rfl) (by kernel_rfl) (by kernel_rfl) (by kernel_rfl) [Inr.MP.is (.pointer (some ⟨g, 4, none⟩)), Inr.MP.is (.slice qs j cs), Inr.MP.is (.pointer (some ⟨w.heap.size, 4, none⟩)), Inr.MP.is (.slice (some ⟨b1, o1, none⟩) l1.length c1), Inr.MP.is (.int .i64 j), Inr.MP.is (.pointer (some ⟨b1, o1 + j * 5, none⟩)), Inr.MP.is (tv k3 p3 n3 N3 (.slice q3 l3 c3)), Inr.MP.is (.slice qn names.length cn), Inr.MP.is (.slice qb bys.length cb), Inr.MP.inX (fun b => b < B0 ∨ wr.heap.size ≤ b) (e + d) ((sub (byOf (fg names names.length) bys) d) x), Inr.MP.oneX (fun b => b < B0 ∨ wr.heap.size ≤ b) (e + d) ((sub (byOf (fg names names.length) bys) d) x)] [] (by intro x hx; cases hx) ⟨?_, ?_, ?_, ?_, ?_, ?_, ?_, ?_, ?_, ?_, ?_, trivial⟩ (fun vs wq hbq hv htie => ?_)
              · intro vs w' hb hv K hK
                clear hv
                have hK2 := hK.out
                clear hK
                simp only [Inr.putD, Inr.dst, List.foldl_cons, List.foldl_nil, List.getD_cons_zero, List.getD_cons_succ, Act.put, List.setIfInBounds_toArray, List.set_cons_zero, List.set_cons_succ] at hK2 ⊢
                have hK := Lib.hid hK2
                clear hK2
                simp only [Region.wanted, Inr.yieldedD, Inr.dst, List.getD_cons_zero, List.getD_cons_succ]
                go_simp
                refine hK.out _ _ (Eq.refl _) (Below.refl _ _) (Inr.noTies _ _ _ _ _)
              · intro vs w' hb hv K hK
                have h0 : (Inr.MP.is (.pointer (some ⟨g, 4, none⟩))).p (vs 0) w' := hv 0 (by simp)
                clear hv
                have hK2 := hK.out
                clear hK
                simp only [Inr.putD, Inr.dst, List.foldl_cons, List.foldl_nil, List.getD_cons_zero, List.getD_cons_succ, Act.put, List.setIfInBounds_toArray, List.set_cons_zero, List.set_cons_succ] at hK2 ⊢
                have hK := Lib.hid hK2
                clear hK2
                generalize vs 0 = y0 at *
                have h0 : y0 = _ := h0
                subst h0
                have z4 := hb_at (hb_below G0.out hb (hb_lt G0.out)) 4 rfl
                simp only [Region.wanted, Inr.yieldedD, Inr.dst, List.getD_cons_zero, List.getD_cons_succ]
                go_simp
                refine hK.out _ _ (Eq.refl _) (Below.refl _ _) (Inr.noTies _ _ _ _ _)
              · intro vs w' hb hv K hK
                clear hv
                have hK2 := hK.out
                clear hK
                simp only [Inr.putD, Inr.dst, List.foldl_cons, List.foldl_nil, List.getD_cons_zero, List.getD_cons_succ, Act.put, List.setIfInBounds_toArray, List.set_cons_zero, List.set_cons_succ] at hK2 ⊢
                have hK := Lib.hid hK2
                clear hK2
                simp only [Region.wanted, Inr.yieldedD, Inr.dst, List.getD_cons_zero, List.getD_cons_succ]
                go_simp
                refine hK.out _ _ (Eq.refl _) (Below.refl _ _) (Inr.noTies _ _ _ _ _)
              · intro vs w' hb hv K hK
                have h2 : (Inr.MP.is (.pointer (some ⟨w.heap.size, 4, none⟩))).p (vs 2) w' := hv 2 (by simp)
                clear hv
                have hK2 := hK.out
                clear hK
                simp only [Inr.putD, Inr.dst, List.foldl_cons, List.foldl_nil, List.getD_cons_zero, List.getD_cons_succ, Act.put, List.setIfInBounds_toArray, List.set_cons_zero, List.set_cons_succ] at hK2 ⊢
                have hK := Lib.hid hK2
                clear hK2
                generalize vs 2 = y2 at *
                have h2 : y2 = _ := h2
                subst h2
                have z4 := hb_at (hb_below G1.out hb (hb_lt G1.out)) 4 rfl
                simp only [Region.wanted, Inr.yieldedD, Inr.dst, List.getD_cons_zero, List.getD_cons_succ]
                go_simp
                refine hK.out _ _ (Eq.refl _) (Below.refl _ _) (Inr.noTies _ _ _ _ _)
              · intro vs w' hb hv K hK
                clear hv
                have hK2 := hK.out
                clear hK
                simp only [Inr.putD, Inr.dst, List.foldl_cons, List.foldl_nil, List.getD_cons_zero, List.getD_cons_succ, Act.put, List.setIfInBounds_toArray, List.set_cons_zero, List.set_cons_succ] at hK2 ⊢
                have hK := Lib.hid hK2
                clear hK2
                simp only [Region.wanted, Inr.yieldedD, Inr.dst, List.getD_cons_zero, List.getD_cons_succ]
                go_simp
                refine hK.out _ _ (Eq.refl _) (Below.refl _ _) (Inr.noTies _ _ _ _ _)
              · intro vs w' hb hv K hK
                have h3 : (Inr.MP.is (.slice (some ⟨b1, o1, none⟩) l1.length c1)).p (vs 3) w' := hv 3 (by simp)
                have h4 : (Inr.MP.is (.int .i64 j)).p (vs 4) w' := hv 4 (by simp)
                clear hv
                have hK2 := hK.out
                clear hK
                simp only [Inr.putD, Inr.dst, List.foldl_cons, List.foldl_nil, List.getD_cons_zero, List.getD_cons_succ, Act.put, List.setIfInBounds_toArray, List.set_cons_zero, List.set_cons_succ] at hK2 ⊢
                have hK := Lib.hid hK2
                clear hK2
                generalize vs 3 = y3 at *
                generalize vs 4 = y4 at *
                have h3 : y3 = _ := h3
                subst h3
                have h4 : y4 = _ := h4
                subst h4
                simp only [Region.wanted, Inr.yieldedD, Inr.dst, List.getD_cons_zero, List.getD_cons_succ]
                go_simp
                refine hK.out _ _ (Eq.refl _) (Below.refl _ _) (Inr.noTies _ _ _ _ _)
              · intro vs w' hb hv K hK
                have h5 : (Inr.MP.is (.pointer (some ⟨b1, o1 + j * 5, none⟩))).p (vs 5) w' := hv 5 (by simp)
                clear hv
                have hK2 := hK.out
                clear hK
                simp only [Inr.putD, Inr.dst, List.foldl_cons, List.foldl_nil, List.getD_cons_zero, List.getD_cons_succ, Act.put, List.setIfInBounds_toArray, List.set_cons_zero, List.set_cons_succ] at hK2 ⊢
                have hK := Lib.hid hK2
                clear hK2
                generalize vs 5 = y5 at *
                have h5 : y5 = _ := h5
                subst h5
                obtain ⟨z0, z1, z2, z3, z4⟩ := TA3.out.below hb TA3.out.lt
                simp only [Region.wanted, Inr.yieldedD, Inr.dst, List.getD_cons_zero, List.getD_cons_succ]
                go_simp
                refine hK.out _ _ (Eq.refl _) (Below.refl _ _) (Inr.noTies _ _ _ _ _)
              · intro vs w' hb hv K hK
                clear hv
                have hK2 := hK.out
                clear hK
                simp only [Inr.putD, Inr.dst, List.foldl_cons, List.foldl_nil, List.getD_cons_zero, List.getD_cons_succ, Act.put, List.setIfInBounds_toArray, List.set_cons_zero, List.set_cons_succ] at hK2 ⊢
                have hK := Lib.hid hK2
                clear hK2
                simp only [Region.wanted, Inr.yieldedD, Inr.dst, List.getD_cons_zero, List.getD_cons_succ]
                go_simp
                refine hK.out _ _ (Eq.refl _) (Below.refl _ _) (Inr.noTies _ _ _ _ _)
              · intro vs w' hb hv K hK
                clear hv
                have hK2 := hK.out
                clear hK
                simp only [Inr.putD, Inr.dst, List.foldl_cons, List.foldl_nil, List.getD_cons_zero, List.getD_cons_succ, Act.put, List.setIfInBounds_toArray, List.set_cons_zero, List.set_cons_succ] at hK2 ⊢
                have hK := Lib.hid hK2
                clear hK2
                simp only [Region.wanted, Inr.yieldedD, Inr.dst, List.getD_cons_zero, List.getD_cons_succ]
                go_simp
                refine hK.out _ _ (Eq.refl _) (Below.refl _ _) (Inr.noTies _ _ _ _ _)
              · intro vs w' hb hv K hK
                have h6 : (Inr.MP.is (tv k3 p3 n3 N3 (.slice q3 l3 c3))).p (vs 6) w' := hv 6 (by simp)
                have h7 : (Inr.MP.is (.slice qn names.length cn)).p (vs 7) w' := hv 7 (by simp)
                have h8 : (Inr.MP.is (.slice qb bys.length cb)).p (vs 8) w' := hv 8 (by simp)
                clear hv
                have hK2 := hK.out
                clear hK
                simp only [Inr.putD, Inr.dst, List.foldl_cons, List.foldl_nil, List.getD_cons_zero, List.getD_cons_succ, Act.put, List.setIfInBounds_toArray, List.set_cons_zero, List.set_cons_succ] at hK2 ⊢
                have hK := Lib.hid hK2
                clear hK2
                generalize vs 6 = y6 at *
                generalize vs 7 = y7 at *
                generalize vs 8 = y8 at *
                have h6 : y6 = _ := h6
                subst h6
                have h7 : y7 = _ := h7
                subst h7
                have h8 : y8 = _ := h8
                subst h8
                have hBw' : Below w.heap.size w w' := HBR2.out.trans (hb.mono HBR2.out.size)
                have hC := HIH.out x (tv k3 p3 n3 N3 (.slice q3 l3 c3)) w' B0 (Nat.le_trans hB0 hBw'.size) (IT3.out.below hb) (HN.out.below hBw') (HKB.out.below hBw') HSX.out
                have HC := Lib.hid hC
                have HSW := Lib.hid hb.size
                clear hBw' hC
                simp only [Region.wanted, Inr.yieldedD, Inr.dst, List.getD_cons_zero, List.getD_cons_succ]
                go_simp
                ((with_reducible refine HC.out.mono ?_); rintro e5 w5 ⟨v5, rfl, hx5, hb5⟩)
                go_wp2_with fail
                refine hK.out _ _ (hx5.move fun b hb1 _ => ⟨by have := HSW.out; omega, rfl⟩) hb5 (Inr.noTies _ _ _ _ _)
              · intro vs w' hb hv K hK
                have h9 : IsX (fun b => b < B0 ∨ wr.heap.size ≤ b) w' (e + d) (vs 9) ((sub (byOf (fg names names.length) bys) d) x) := hv 9 (by simp)
                clear hv
                have hK2 := hK.out
                clear hK
                simp only [Inr.putD, Inr.dst, List.foldl_cons, List.foldl_nil, List.getD_cons_zero, List.getD_cons_succ, Act.put, List.setIfInBounds_toArray, List.set_cons_zero, List.set_cons_succ] at hK2 ⊢
                have hK := Lib.hid hK2
                clear hK2
                generalize vs 9 = y9 at *
                obtain ⟨k5, p5, n5, N5, q5, l5, c5, rfl⟩ := h9.shape
                simp only [Region.wanted, Inr.yieldedD, Inr.dst, List.getD_cons_zero, List.getD_cons_succ]
                go_simp
                refine hK.out _ _ ⟨_, _, _, _, _, _, _, _, rfl, hb_new _ _, h9.below (below_alloc _ _)⟩ (below_alloc _ _) (Inr.noTies _ _ _ _ _)
              · have h1 : vs 1 = .slice qs j cs := hv 1 (by omega)
                have h10 : (Inr.MP.oneX (fun b => b < B0 ∨ wr.heap.size ≤ b) (e + d) ((sub (byOf (fg names names.length) bys) d) x)).p (vs 10) wq := hv 10 (by omega)
                clear hv htie
                simp only [List.range, List.range.loop, Inr.putD, Inr.dst, List.foldl_cons, List.foldl_nil, List.getD_cons_zero, List.getD_cons_succ, Act.put, List.setIfInBounds_toArray, List.set_cons_zero, List.set_cons_succ]
                simp only [List.drop_succ_cons, List.drop_zero]
                generalize vs 0 = yy0 at *
                generalize vs 1 = yy1 at *
                generalize vs 2 = yy2 at *
                generalize vs 3 = yy3 at *
                generalize vs 4 = yy4 at *
                generalize vs 5 = yy5 at *
                generalize vs 6 = yy6 at *
                generalize vs 7 = yy7 at *
                generalize vs 8 = yy8 at *
                generalize vs 9 = yy9 at *
                generalize vs 10 = yy10 at *
                obtain ⟨g5, k5, p5, n5, N5, q5, l5, c5, rfl, hg5, hx5⟩ := h10
                subst h1
                obtain ⟨v', w', hr, hM2, hBw⟩ := HMD.out.append (x := (sub (byOf (fg names names.length) bys) d) x) (by omega) (by omega) hbq hx5 hg5 1 (by rw [HLN.out]; have := HL1.out; omega)
                refine wpList_append_at rfl (.tmp 53) (.tmp 62) rfl rfl rfl rfl hr ?_
                have G0' := hb_below (hb_below G0.out hbq (hb_lt G0.out)) hBw (by omega)
                have G1' := hb_below (hb_below G1.out hbq (hb_lt G1.out)) hBw (by omega)
                have G2' := hb_below (hb_below G2.out hbq (hb_lt G2.out)) hBw (by omega)
                have HM2 := Lib.hid hM2
                obtain ⟨qv, cv, hsv⟩ := hM2.shape
                rw [List.length_append, HLN.out] at hsv
                subst hsv
                have f4 := hb_free G0' 4
                have e4 := hb_at G0' 4 rfl
                clear hr hM2 hg5 hx5
                go_wp2
                go_roundw
                case rel =>
                  have G3 := hb_set_same G0' 4 (.slice qv (j + [(sub (byOf (fg names names.length) bys) d) x].length) cv)
                  have hzr' := hbq.size
                  have hzb' := hBw.size
                  refine ⟨j + 1, by omega, by go_num, _, by simpa using G3, ?_, by simpa using (by omega : g + 1 ≤ w'.heap.size), ?_, by rw [hb_set_other G1' _ (by show w.heap.size ≠ g; omega)], by rw [hb_set_other G2' _ (by show w.heap.size + 1 ≠ g; omega)]⟩
                  · have e : (l1.take (j + 1)).map (sub (byOf (fg names names.length) bys) d) = (l1.take j).map (sub (byOf (fg names names.length) bys) d) ++ [(sub (byOf (fg names names.length) bys) d) x] := by rw [HTK.out, List.map_append]; rfl
                    rw [e]
                    exact HM2.out.move fun b hb1 hb2 => Below.heap_setCell _ _ _ b (by show b ≠ g; omega)
                  · have h1 := hbq.mono (B' := g) (by omega)
                    exact ((HBG.out.trans h1).trans (hBw.mono (by omega))).setCell (by show g ≤ g; omega) _
                case measure => simp [intOf]; omega
            · obtain rfl : j = l1.length := by omega
              have x0 := hb_at G0.out 0 rfl
              have x1 := hb_at G0.out 1 rfl
              have x2 := hb_at G0.out 2 rfl
              have x3 := hb_at G0.out 3 rfl
              have x4 := hb_at G0.out 4 rfl
              have f0 := hb_free G2.out 0
              have f1 := hb_free G2.out 1
              have f2 := hb_free G2.out 2
              have f3 := hb_free G2.out 3
              have f4 := hb_free G2.out 4
              have e0 := hb_at G2.out 0 rfl
              have e1 := hb_at G2.out 1 rfl
              have e2 := hb_at G2.out 2 rfl
              have e3 := hb_at G2.out 3 rfl
              have e4 := hb_at G2.out 4 rfl
              go_wp2
              obtain ⟨u1, u2, u3⟩ := box_set (base := w.heap.size + 1) (Nat.le_refl _) G2.out (.int .i64 k1) (.string p1) (.string n1) (.int .i64 N1) (.slice qs l1.length cs)
              generalize (((((wr.setCell ⟨w.heap.size + 1, 0, none⟩ (.int .i64 k1)).setCell ⟨w.heap.size + 1, 1, none⟩ (.string p1)).setCell ⟨w.heap.size + 1, 2, none⟩ (.string n1)).setCell ⟨w.heap.size + 1, 3, none⟩ (.int .i64 N1)).setCell ⟨w.heap.size + 1, 4, none⟩ (.slice qs l1.length cs)) = W9 at *
              refine bodyPost_ret (v := tv k1 p1 n1 N1 (.slice qs l1.length cs)) (by simp [results, Tryd.results18, go_sem, hb_at u1 0 rfl, hb_at u1 1 rfl, hb_at u1 2 rfl, hb_at u1 3 rfl, hb_at u1 4 rfl]) rfl ⟨_, rfl, ?_, HBR2.out.trans (u3.mono (by omega))⟩
              rw [sub_no HSUB.out]
              have hM := HMD.out
              rw [List.take_length] at hM
              have hKX := (hM.all (by rw [List.length_map]; exact HM1.out) (fun b hb => u2 b (by omega))).mono (Y := fun b => b < B0 ∨ w.heap.size ≤ b) (fun b hb => by omega)
              have hle : (l1.map (sub (byOf (fg names names.length) bys) d)).length = l1.length := List.length_map ..
              rw [← hle] at hKX ⊢
              exact IsX.mk HP1.out HN1.out hKX
      · obtain rfl : j = names.length := by omega
        have HSUB : RowKit.Hid ((if k1 = 1 then byOf (fg names names.length) bys n1 else none) = none) := Lib.hid (by
          by_cases hk : k1 = 1
          · rw [if_pos hk]
            unfold byOf
            have h := HNO.out hk
            rw [List.take_length] at h
            rw [fg_none_iff (k := names.length) (by rw [List.take_length]; exact h)]
            rfl
          · exact if_neg hk)
        have HQ := HBL
        have HBX := Lib.hid (HB.out.trans (HQ.out.mono HB.out.size))
        have hwx := HQ.out.size
        have x0 := hb_at J1.out 0 rfl
        have x1 := hb_at J1.out 1 rfl
        have x2 := hb_at J1.out 2 rfl
        have x3 := hb_at J1.out 3 rfl
        have hbn := hb_new wr (.cells #[.int .i64 0, .string ⟨#[]⟩, .string ⟨#[]⟩, .int .i64 0, .slice none 0 0] 36)
        have f0 := hb_free hbn 0
        have f1 := hb_free hbn 1
        have f2 := hb_free hbn 2
        have f3 := hb_free hbn 3
        have f4 := hb_free hbn 4
        have e0 := hb_at hbn 0 rfl
        have e1 := hb_at hbn 1 rfl
        have e2 := hb_at hbn 2 rfl
        have e3 := hb_at hbn 3 rfl
        have e4 := hb_at hbn 4 rfl
        have HBN2 := Lib.hid hbn
        clear hbn
        go_upto_region 8 with fail
        have u1 := hb_new wr (.cells #[.int .i64 k1, .string p1, .string n1, .int .i64 N1, .slice none 0 0] 36)
        have hBg : Below wr.heap.size wr (wr.alloc (.cells #[.int .i64 k1, .string p1, .string n1, .int .i64 N1, .slice none 0 0] 36)) := below_alloc _ _
        generalize (wr.alloc (.cells #[.int .i64 k1, .string p1, .string n1, .int .i64 N1, .slice none 0 0] 36)) = W5 at *
        have K5a := hb_below J1.out hBg (hb_lt J1.out)
        have K5b := hb_below J2.out hBg (hb_lt J2.out)
        have hg5 := hb_lt u1
        have HB5 := Lib.hid (HBX.out.trans (hBg.mono HBX.out.size))
        have hl2 := hb_lt J2.out
        clear x0 x1 x2 x3 f0 f1 f2 f3 f4 e0 e1 e2 e3 e4 HBN2 hBg J1 J2
        generalize wr.heap.size = g at *
        go_wp2
        go_loopw [9] (fun i wr => ∃ j : Nat, j ≤ l1.length ∧ i = .int .i64 j ∧ ∃ sv, wr.heap[g]? = some (.cells #[.int .i64 k1, .string p1, .string n1, .int .i64 N1, sv] 36 (0, 0)) ∧ MadeB B0 (g + 1) wr (e + d) sv ((l1.take j).map (sub (byOf (fg names names.length) bys) d)) ∧ g + 1 ≤ wr.heap.size ∧ Below g W5 wr ∧ wr.heap[w.heap.size]? = some (.cells #[.int .i64 k1, .string p1, .string n1, .int .i64 N1, .slice q1 l1.length c1] 36 (0, 0)) ∧ wr.heap[w.heap.size + 1]? = some (.cells #[.int .i64 0, .string ⟨#[]⟩, .string ⟨#[]⟩, .int .i64 0, .slice none 0 0] 36 (0, 0))) (fun i _ => l1.length - (intOf i).toNat)
        case atStart => exact ⟨0, Nat.zero_le _, rfl, _, u1, MadeB.nil _ _ _ _, hg5, Below.refl _ _, K5a, K5b⟩
        case round =>
          obtain ⟨j, hj, rfl, sv, hG0, hM, hzg, hBG, hG1, hG2⟩ := hrel
          have HMD := Lib.hid hM
          have hlen : ((l1.take j).map (sub (byOf (fg names names.length) bys) d)).length = j := by rw [List.length_map, List.length_take]; omega
          have HLN := Lib.hid hlen
          obtain ⟨qs, cs, hsv⟩ := hM.shape
          rw [hlen] at hsv
          subst hsv
          clear hlen
          have G0 := Lib.hid hG0
          have G1 := Lib.hid hG1
          have G2 := Lib.hid hG2
          have HBG := Lib.hid hBG
          have HBR2 := Lib.hid (HB5.out.trans (hBG.mono (by omega)))
          clear u1 K5a K5b hM
          have y4 := hb_at hG1 4 rfl
          clear hG0 hG1 hG2 hBG
          by_cases hlt : j < l1.length
          · have hlt2 : (j : Int) < (l1.length : Int) := by omega
            have hx1 := List.getElem?_eq_getElem hlt
            have HSX := Lib.hid (HSM.out.2 l1[j] (List.getElem_mem hlt))
            have HL1 := Lib.hid HSM.out.1
            have HTK : RowKit.Hid (l1.take (j + 1) = l1.take j ++ [l1[j]]) := Lib.hid (List.take_succ_eq_append_getElem hlt)
            generalize l1[j] = x at *
            obtain ⟨b1, o1, k3, p3, n3, N3, s3, hq1, ha1, ht1⟩ := HR1.out j x hx1
            subst hq1
            obtain ⟨q3, l3, c3, hs3⟩ := ht1.spell
            subst hs3
            have TA3 := Lib.hid (ha1.below HBR2.out ha1.lt)
            have IT3 := Lib.hid (ht1.below HBR2.out)
            clear hx1 ht1 ha1
            go_upto_region 11 with fail
            refine Inr.region (by kernel_rfl) 11 [some 52, some 53, some 54, some 55, some 56, some 57, some 58, some 59, some 60, some 61, some 62, some 63, some 64, none] [[], [0], [], [2], [], [3, 4], [5], [], [], [6, 7, 8], [9]] (by kernel_rfl) (by kernel_rfl) (by kernel_rfl) (by kernel_rfl) [Inr.MP.is (.pointer (some ⟨g, 4, none⟩)), Inr.MP.is (.slice qs j cs), Inr.MP.is (.pointer (some ⟨w.heap.size, 4, none⟩)), Inr.MP.is (.slice (some ⟨b1, o1, none⟩) l1.length c1), Inr.MP.is (.int .i64 j), Inr.MP.is (.pointer (some ⟨b1, o1 + j * 5, none⟩)), Inr.MP.is (tv k3 p3 n3 N3 (.slice q3 l3 c3)), Inr.MP.is (.slice qn names.length cn), Inr.MP.is (.slice qb bys.length cb), Inr.MP.inX (fun b => b < B0 ∨ wr.heap.size ≤ b) (e + d) ((sub (byOf (fg names names.length) bys) d) x), Inr.MP.oneX (fun b => b < B0 ∨ wr.heap.size ≤ b) (e + d) ((sub (byOf (fg names names.length) bys) d) x)] [] (by intro x hx; cases hx) ⟨?_, ?_, ?_, ?_, ?_, ?_, ?_, ?_, ?_, ?_, ?_, trivial⟩ (fun vs wq hbq hv htie => ?_)
            · intro vs w' hb hv K hK
              clear hv
              have hK2 := hK.out
              clear hK
              simp only [Inr.putD, Inr.dst, List.foldl_cons, List.foldl_nil, List.getD_cons_zero, List.getD_cons_succ, Act.put, List.setIfInBounds_toArray, List.set_cons_zero, List.set_cons_succ] at hK2 ⊢
              have hK := Lib.hid hK2
              clear hK2
              simp only [Region.wanted, Inr.yieldedD, Inr.dst, List.getD_cons_zero, List.getD_cons_succ]
              go_simp
              refine hK.out _ _ (Eq.refl _) (Below.refl _ _) (Inr.noTies _ _ _ _ _)
            · intro vs w' hb hv K hK
              have h0 : (Inr.MP.is (.pointer (some ⟨g, 4, none⟩))).p (vs 0) w' := hv 0 (by simp)
              clear hv
              have hK2 := hK.out
              clear hK
              simp only [Inr.putD, Inr.dst, List.foldl_cons, List.foldl_nil, List.getD_cons_zero, List.getD_cons_succ, Act.put, List.setIfInBounds_toArray, List.set_cons_zero, List.set_cons_succ] at hK2 ⊢
              have hK := Lib.hid hK2
              clear hK2
              generalize vs 0 = y0 at *
              have h0 : y0 = _ := h0
              subst h0
              have z4 := hb_at (hb_below G0.out hb (hb_lt G0.out)) 4 rfl
              simp only [Region.wanted, Inr.yieldedD, Inr.dst, List.getD_cons_zero, List.getD_cons_succ]
              go_simp
              refine hK.out _ _ (Eq.refl _) (Below.refl _ _) (Inr.noTies _ _ _ _ _)
            · intro vs w' hb hv K hK
              clear hv
              have hK2 := hK.out
              clear hK
              simp only [Inr.putD, Inr.dst, List.foldl_cons, List.foldl_nil, List.getD_cons_zero, List.getD_cons_succ, Act.put, List.setIfInBounds_toArray, List.set_cons_zero, List.set_cons_succ] at hK2 ⊢
              have hK := Lib.hid hK2
              clear hK2
              simp only [Region.wanted, Inr.yieldedD, Inr.dst, List.getD_cons_zero, List.getD_cons_succ]
              go_simp
              refine hK.out _ _ (Eq.refl _) (Below.refl _ _) (Inr.noTies _ _ _ _ _)
            · intro vs w' hb hv K hK
              have h2 : (Inr.MP.is (.pointer (some ⟨w.heap.size, 4, none⟩))).p (vs 2) w' := hv 2 (by simp)
              clear hv
              have hK2 := hK.out
              clear hK
              simp only [Inr.putD, Inr.dst, List.foldl_cons, List.foldl_nil, List.getD_cons_zero, List.getD_cons_succ, Act.put, List.setIfInBounds_toArray, List.set_cons_zero, List.set_cons_succ] at hK2 ⊢
              have hK := Lib.hid hK2
              clear hK2
              generalize vs 2 = y2 at *
              have h2 : y2 = _ := h2
              subst h2
              have z4 := hb_at (hb_below G1.out hb (hb_lt G1.out)) 4 rfl
              simp only [Region.wanted, Inr.yieldedD, Inr.dst, List.getD_cons_zero, List.getD_cons_succ]
              go_simp
              refine hK.out _ _ (Eq.refl _) (Below.refl _ _) (Inr.noTies _ _ _ _ _)
            · intro vs w' hb hv K hK
              clear hv
              have hK2 := hK.out
              clear hK
              simp only [Inr.putD, Inr.dst, List.foldl_cons, List.foldl_nil, List.getD_cons_zero, List.getD_cons_succ, Act.put, List.setIfInBounds_toArray, List.set_cons_zero, List.set_cons_succ] at hK2 ⊢
              have hK := Lib.hid hK2
              clear hK2
              simp only [Region.wanted, Inr.yieldedD, Inr.dst, List.getD_cons_zero, List.getD_cons_succ]
              go_simp
              refine hK.out _ _ (Eq.refl _) (Below.refl _ _) (Inr.noTies _ _ _ _ _)
            · intro vs w' hb hv K hK
              have h3 : (Inr.MP.is (.slice (some ⟨b1, o1, none⟩) l1.length c1)).p (vs 3) w' := hv 3 (by simp)
              have h4 : (Inr.MP.is (.int .i64 j)).p (vs 4) w' := hv 4 (by simp)
              clear hv
              have hK2 := hK.out
              clear hK
              simp only [Inr.putD, Inr.dst, List.foldl_cons, List.foldl_nil, List.getD_cons_zero, List.getD_cons_succ, Act.put, List.setIfInBounds_toArray, List.set_cons_zero, List.set_cons_succ] at hK2 ⊢
              have hK := Lib.hid hK2
              clear hK2
              generalize vs 3 = y3 at *
              generalize vs 4 = y4 at *
              have h3 : y3 = _ := h3
              subst h3
              have h4 : y4 = _ := h4
              subst h4
              simp only [Region.wanted, Inr.yieldedD, Inr.dst, List.getD_cons_zero, List.getD_cons_succ]
              go_simp
              refine hK.out _ _ (Eq.refl _) (Below.refl _ _) (Inr.noTies _ _ _ _ _)
            · intro vs w' hb hv K hK
              have h5 : (Inr.MP.is (.pointer (some ⟨b1, o1 + j * 5, none⟩))).p (vs 5) w' := hv 5 (by simp)
              clear hv
              have hK2 := hK.out
              clear hK
              simp only [Inr.putD, Inr.dst, List.foldl_cons, List.foldl_nil, List.getD_cons_zero, List.getD_cons_succ, Act.put, List.setIfInBounds_toArray, List.set_cons_zero, List.set_cons_succ] at hK2 ⊢
              have hK := Lib.hid hK2
              clear hK2
              generalize vs 5 = y5 at *
              have h5 : y5 = _ := h5
              subst h5
              obtain ⟨z0, z1, z2, z3, z4⟩ := TA3.out.below hb TA3.out.lt
              simp only [Region.wanted, Inr.yieldedD, Inr.dst, List.getD_cons_zero, List.getD_cons_succ]
              go_simp
              refine hK.out _ _ (Eq.refl _) (Below.refl _ _) (Inr.noTies _ _ _ _ _)
            · intro vs w' hb hv K hK
              clear hv
              have hK2 := hK.out
              clear hK
              simp only [Inr.putD, Inr.dst, List.foldl_cons, List.foldl_nil, List.getD_cons_zero, List.getD_cons_succ, Act.put, List.setIfInBounds_toArray, List.set_cons_zero, List.set_cons_succ] at hK2 ⊢
              have hK := Lib.hid hK2
              clear hK2
              simp only [Region.wanted, Inr.yieldedD, Inr.dst, List.getD_cons_zero, List.getD_cons_succ]
              go_simp
              refine hK.out _ _ (Eq.refl _) (Below.refl _ _) (Inr.noTies _ _ _ _ _)
            · intro vs w' hb hv K hK
              clear hv
              have hK2 := hK.out
              clear hK
              simp only [Inr.putD, Inr.dst, List.foldl_cons, List.foldl_nil, List.getD_cons_zero, List.getD_cons_succ, Act.put, List.setIfInBounds_toArray, List.set_cons_zero, List.set_cons_succ] at hK2 ⊢
              have hK := Lib.hid hK2
              clear hK2
              simp only [Region.wanted, Inr.yieldedD, Inr.dst, List.getD_cons_zero, List.getD_cons_succ]
              go_simp
              refine hK.out _ _ (Eq.refl _) (Below.refl _ _) (Inr.noTies _ _ _ _ _)
            · intro vs w' hb hv K hK
              have h6 : (Inr.MP.is (tv k3 p3 n3 N3 (.slice q3 l3 c3))).p (vs 6) w' := hv 6 (by simp)
              have h7 : (Inr.MP.is (.slice qn names.length cn)).p (vs 7) w' := hv 7 (by simp)
              have h8 : (Inr.MP.is (.slice qb bys.length cb)).p (vs 8) w' := hv 8 (by simp)
              clear hv
              have hK2 := hK.out
              clear hK
              simp only [Inr.putD, Inr.dst, List.foldl_cons, List.foldl_nil, List.getD_cons_zero, List.getD_cons_succ, Act.put, List.setIfInBounds_toArray, List.set_cons_zero, List.set_cons_succ] at hK2 ⊢
              have hK := Lib.hid hK2
              clear hK2
              generalize vs 6 = y6 at *
              generalize vs 7 = y7 at *
              generalize vs 8 = y8 at *
              have h6 : y6 = _ := h6
              subst h6
              have h7 : y7 = _ := h7
              subst h7
              have h8 : y8 = _ := h8
              subst h8
              have hBw' : Below w.heap.size w w' := HBR2.out.trans (hb.mono HBR2.out.size)
              have hC := HIH.out x (tv k3 p3 n3 N3 (.slice q3 l3 c3)) w' B0 (Nat.le_trans hB0 hBw'.size) (IT3.out.below hb) (HN.out.below hBw') (HKB.out.below hBw') HSX.out
              have HC := Lib.hid hC
              have HSW := Lib.hid hb.size
              clear hBw' hC
              simp only [Region.wanted, Inr.yieldedD, Inr.dst, List.getD_cons_zero, List.getD_cons_succ]
              go_simp
              ((with_reducible refine HC.out.mono ?_); rintro e5 w5 ⟨v5, rfl, hx5, hb5⟩)
              go_wp2_with fail
              refine hK.out _ _ (hx5.move fun b hb1 _ => ⟨by have := HSW.out; omega, rfl⟩) hb5 (Inr.noTies _ _ _ _ _)
            · intro vs w' hb hv K hK
              have h9 : IsX (fun b => b < B0 ∨ wr.heap.size ≤ b) w' (e + d) (vs 9) ((sub (byOf (fg names names.length) bys) d) x) := hv 9 (by simp)
              clear hv
              have hK2 := hK.out
              clear hK
              simp only [Inr.putD, Inr.dst, List.foldl_cons, List.foldl_nil, List.getD_cons_zero, List.getD_cons_succ, Act.put, List.setIfInBounds_toArray, List.set_cons_zero, List.set_cons_succ] at hK2 ⊢
              have hK := Lib.hid hK2
              clear hK2
              generalize vs 9 = y9 at *
              obtain ⟨k5, p5, n5, N5, q5, l5, c5, rfl⟩ := h9.shape
              simp only [Region.wanted, Inr.yieldedD, Inr.dst, List.getD_cons_zero, List.getD_cons_succ]
              go_simp
              refine hK.out _ _ ⟨_, _, _, _, _, _, _, _, rfl, hb_new _ _, h9.below (below_alloc _ _)⟩ (below_alloc _ _) (Inr.noTies _ _ _ _ _)
            · have h1 : vs 1 = .slice qs j cs := hv 1 (by omega)
              have h10 : (Inr.MP.oneX (fun b => b < B0 ∨ wr.heap.size ≤ b) (e + d) ((sub (byOf (fg names names.length) bys) d) x)).p (vs 10) wq := hv 10 (by omega)
              clear hv htie
              simp only [List.range, List.range.loop, Inr.putD, Inr.dst, List.foldl_cons, List.foldl_nil, List.getD_cons_zero, List.getD_cons_succ, Act.put, List.setIfInBounds_toArray, List.set_cons_zero, List.set_cons_succ]
              simp only [List.drop_succ_cons, List.drop_zero]
              generalize vs 0 = yy0 at *
              generalize vs 1 = yy1 at *
              generalize vs 2 = yy2 at *
              generalize vs 3 = yy3 at *
              generalize vs 4 = yy4 at *
              generalize vs 5 = yy5 at *
              generalize vs 6 = yy6 at *
              generalize vs 7 = yy7 at *
              generalize vs 8 = yy8 at *
              generalize vs 9 = yy9 at *
              generalize vs 10 = yy10 at *
              obtain ⟨g5, k5, p5, n5, N5, q5, l5, c5, rfl, hg5, hx5⟩ := h10
              subst h1
              obtain ⟨v', w', hr, hM2, hBw⟩ := HMD.out.append (x := (sub (byOf (fg names names.length) bys) d) x) (by omega) (by omega) hbq hx5 hg5 1 (by rw [HLN.out]; have := HL1.out; omega)
              refine wpList_append_at rfl (.tmp 53) (.tmp 62) rfl rfl rfl rfl hr ?_
              have G0' := hb_below (hb_below G0.out hbq (hb_lt G0.out)) hBw (by omega)
              have G1' := hb_below (hb_below G1.out hbq (hb_lt G1.out)) hBw (by omega)
              have G2' := hb_below (hb_below G2.out hbq (hb_lt G2.out)) hBw (by omega)
              have HM2 := Lib.hid hM2
              obtain ⟨qv, cv, hsv⟩ := hM2.shape
              rw [List.length_append, HLN.out] at hsv
              subst hsv
              have f4 := hb_free G0' 4
              have e4 := hb_at G0' 4 rfl
              clear hr hM2 hg5 hx5
              go_wp2
              go_roundw
              case rel =>
                have G3 := hb_set_same G0' 4 (.slice qv (j + [(sub (byOf (fg names names.length) bys) d) x].length) cv)
                have hzr' := hbq.size
                have hzb' := hBw.size
                refine ⟨j + 1, by omega, by go_num, _, by simpa using G3, ?_, by simpa using (by omega : g + 1 ≤ w'.heap.size), ?_, by rw [hb_set_other G1' _ (by show w.heap.size ≠ g; omega)], by rw [hb_set_other G2' _ (by show w.heap.size + 1 ≠ g; omega)]⟩
                · have e : (l1.take (j + 1)).map (sub (byOf (fg names names.length) bys) d) = (l1.take j).map (sub (byOf (fg names names.length) bys) d) ++ [(sub (byOf (fg names names.length) bys) d) x] := by rw [HTK.out, List.map_append]; rfl
                  rw [e]
                  exact HM2.out.move fun b hb1 hb2 => Below.heap_setCell _ _ _ b (by show b ≠ g; omega)
                · have h1 := hbq.mono (B' := g) (by omega)
                  exact ((HBG.out.trans h1).trans (hBw.mono (by omega))).setCell (by show g ≤ g; omega) _
              case measure => simp [intOf]; omega
          · obtain rfl : j = l1.length := by omega
            have x0 := hb_at G0.out 0 rfl
            have x1 := hb_at G0.out 1 rfl
            have x2 := hb_at G0.out 2 rfl
            have x3 := hb_at G0.out 3 rfl
            have x4 := hb_at G0.out 4 rfl
            have f0 := hb_free G2.out 0
            have f1 := hb_free G2.out 1
            have f2 := hb_free G2.out 2
            have f3 := hb_free G2.out 3
            have f4 := hb_free G2.out 4
            have e0 := hb_at G2.out 0 rfl
            have e1 := hb_at G2.out 1 rfl
            have e2 := hb_at G2.out 2 rfl
            have e3 := hb_at G2.out 3 rfl
            have e4 := hb_at G2.out 4 rfl
            go_wp2
            obtain ⟨u1, u2, u3⟩ := box_set (base := w.heap.size + 1) (Nat.le_refl _) G2.out (.int .i64 k1) (.string p1) (.string n1) (.int .i64 N1) (.slice qs l1.length cs)
            generalize (((((wr.setCell ⟨w.heap.size + 1, 0, none⟩ (.int .i64 k1)).setCell ⟨w.heap.size + 1, 1, none⟩ (.string p1)).setCell ⟨w.heap.size + 1, 2, none⟩ (.string n1)).setCell ⟨w.heap.size + 1, 3, none⟩ (.int .i64 N1)).setCell ⟨w.heap.size + 1, 4, none⟩ (.slice qs l1.length cs)) = W9 at *
            refine bodyPost_ret (v := tv k1 p1 n1 N1 (.slice qs l1.length cs)) (by simp [results, Tryd.results18, go_sem, hb_at u1 0 rfl, hb_at u1 1 rfl, hb_at u1 2 rfl, hb_at u1 3 rfl, hb_at u1 4 rfl]) rfl ⟨_, rfl, ?_, HBR2.out.trans (u3.mono (by omega))⟩
            rw [sub_no HSUB.out]
            have hM := HMD.out
            rw [List.take_length] at hM
            have hKX := (hM.all (by rw [List.length_map]; exact HM1.out) (fun b hb => u2 b (by omega))).mono (Y := fun b => b < B0 ∨ w.heap.size ≤ b) (fun b hb => by omega)
            have hle : (l1.map (sub (byOf (fg names names.length) bys) d)).length = l1.length := List.length_map ..
            rw [← hle] at hKX ⊢
            exact IsX.mk HP1.out HN1.out hKX
end Go.Proofs.YtncebhddcokkoaaDoor
/- Names of variables: three of them; a function type of two. -/
namespace Go.Proofs.YtncebhddcokkoaaDoor
open Go.RowKit
theorem KidsT.two {w : World} {g d : Nat} {k : Int} {p n : ByteArray} {N : Int} {s : Value} {t : Tm} {k2 : Int} {p2 n2 : ByteArray} {N2 : Int} {s2 : Value} {t2 : Tm}
    (h : w.heap[g]? = some (.cells #[.int .i64 k, .string p, .string n, .int .i64 N, s, .int .i64 k2, .string p2, .string n2, .int .i64 N2, s2] 36 (0, 0))) (ht : IsT w d (tv k p n N s) t) (ht2 : IsT w d (tv k2 p2 n2 N2 s2) t2) : KidsT w d (.slice (some ⟨g, 0, none⟩) 2 2) [t, t2] := by
  refine ⟨_, 2, rfl, by unfold maxLen; simp, fun i x hx => ?_⟩
  match i, hx with
  | 0, hx => cases hx; exact ⟨g, 0, k, p, n, N, s, rfl, TAt.of_block h 0 rfl rfl rfl rfl rfl, ht⟩
  | 1, hx => cases hx; exact ⟨g, 0, k2, p2, n2, N2, s2, rfl, TAt.of_block h 5 rfl rfl rfl rfl rfl, ht2⟩
  | i + 2, hx => simp at hx
end Go.Proofs.YtncebhddcokkoaaDoor
