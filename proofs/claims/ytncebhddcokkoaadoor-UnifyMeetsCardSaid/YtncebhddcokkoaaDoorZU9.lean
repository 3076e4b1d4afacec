/- Texts in a row: U4 U6 U7. -/
import Derived.Test.YtncebhddcokkoaaDoorZU6
import Derived.Deep.DeepCutAuto
import Derived.Outline
import Derived.Test.YtncebhddcokkoaaDoorZU5
/- clone, and withKids of it. -/
namespace Go.Proofs.YtncebhddcokkoaaDoor
open Go.RowKit
theorem KidsX.mono {X Y : Nat → Prop} {w : World} {d : Nat} {s : Value} {kids : List Tm} (h : KidsX X w d s kids) (hXY : ∀ b, X b → Y b) : KidsX Y w d s kids := by
  obtain ⟨q, c, h1, h2, h3⟩ := h
  refine ⟨q, c, h1, h2, fun i x hx => ?_⟩
  obtain ⟨b, o, k', p', n', N', s', e, hX, ha, ht⟩ := h3 i x hx
  exact ⟨b, o, k', p', n', N', s', e, hXY b hX, ha, ht.move fun b hX _ => ⟨hXY b hX, rfl⟩⟩
theorem KidsX.move {X Y : Nat → Prop} {w w' : World} {d : Nat} {s : Value} {kids : List Tm} (h : KidsX X w d s kids) (hXY : ∀ b, X b → Y b ∧ w'.heap[b]? = w.heap[b]?) : KidsX Y w' d s kids := by
  obtain ⟨q, c, h1, h2, h3⟩ := h
  refine ⟨q, c, h1, h2, fun i x hx => ?_⟩
  obtain ⟨b, o, k', p', n', N', s', e, hX, ha, ht⟩ := h3 i x hx
  exact ⟨b, o, k', p', n', N', s', e, (hXY b hX).1, ha.keep fun j => by simp [World.cell?, (hXY b hX).2], ht.move fun b hX _ => hXY b hX⟩
theorem own_below {w w' : World} {base : Nat} {e : TypeId} {size n : Nat} {v : Value} {xs : List Value} (h : w.ownsRow base e size v n xs) (hb : Below w.heap.size w w') : w'.ownsRow base e size v n xs := by
  obtain ⟨hl, h0 | ⟨g, cap, cur, hv, hbg, hh, r⟩⟩ := h
  · exact ⟨hl, .inl h0⟩
  · exact ⟨hl, .inr ⟨g, cap, cur, hv, hbg, hb_below hh hb (hb_lt hh), r⟩⟩
theorem Made.shape {base : Nat} {w : World} {d : Nat} {sv : Value} {done : List Tm} (h : Made base w d sv done) : ∃ q c, sv = .slice q done.length c := by
  obtain ⟨l, hl, ho, _⟩ := h
  obtain ⟨_, ⟨rfl, h0⟩ | ⟨g, cap, cur, rfl, _⟩⟩ := ho
  · exact ⟨none, 0, by rw [← hl, h0]⟩
  · exact ⟨_, cap, by rw [hl]⟩
end Go.Proofs.YtncebhddcokkoaaDoor
/- Maps of places: for each text where it first stands, if it does. -/
namespace Go.Proofs.YtncebhddcokkoaaDoor
open Go.RowKit Go.Maps
def PMap (w : World) (M n : Nat) (g : ByteArray → Option Int) : Prop := ∃ D : DataW Unit, w.ownsMap Tryd.prog 9 (plainElem Tryd.prog 3) M n D ∧ ∀ s : ByteArray, D.atKey (.string s.data.toList) (.lit (.int .i64 0)) = .lit (.int .i64 ((g s).getD 0)) ∧ Maps.has D (.string s.data.toList) = (g s).isSome
section
variable {w w' : World} {M n : Nat} {g : ByteArray → Option Int}
theorem PMap.lt (h : PMap w M n g) : M < w.heap.size := h.elim fun _ h => h.1.lt
theorem PMap.same (h : PMap w M n g) (hb : w'.heap[M]? = w.heap[M]?) : PMap w' M n g := by
  obtain ⟨D, ⟨es, clock, h1, h2⟩, h3⟩ := h
  exact ⟨D, ⟨es, clock, hb.trans h1, h2⟩, h3⟩
theorem PMap.below (h : PMap w M n g) (hb : Below w.heap.size w w') : PMap w' M n g := h.same (hb.block M h.lt)
theorem PMap.heap (h : PMap w M n g) : ∃ es clock, w.heap[M]? = some (.map es clock) := by
  obtain ⟨D, ⟨es, clock, hb, _⟩, _⟩ := h
  exact ⟨es, clock, hb⟩
theorem PMap.made (w : World) : PMap (w.alloc (.map #[] 0)) w.heap.size 0 fun _ => none := ⟨_, World.ownsMap_made w _ _ _, fun _ => ⟨rfl, rfl⟩⟩
theorem PMap.look (h : PMap w M n g) (s : ByteArray) (hs : s.size ≤ maxLen) : (Instr.lookup 83 (.map (some M)) (.string s) true).run Tryd.prog w = .ok (.tuple #[.int .i64 ((g s).getD 0), .bool (g s).isSome]) w := by
  obtain ⟨D, hD, hg⟩ := h
  obtain ⟨v, ps, hrun, hv⟩ := hD.look_ok K9 Tryd.underlying83 (zero3 w) (zd := .lit (.int .i64 0)) (zp := []) (plainElem_int Tryd.underlying3 (by decide)) (key9 s hs)
  obtain ⟨c, rfl, hc, _⟩ := plainElem_int_inv Tryd.underlying3 hv
  simp only [Prod.mk.injEq] at hc
  rw [(hg s).1] at hc
  have e : (g s).getD 0 = c := by simpa using hc.1
  rw [hrun, (hg s).2, e]
theorem PMap.put (h : PMap w M n g) (hn : n < maxLen) (s : ByteArray) (hs : s.size ≤ maxLen) (x : Int) (hx : (Lit.int .i64 x).wf = true) :
    ∃ w', (Instr.mapUpdate 83 (.map (some M)) (.string s) (.int .i64 x)).run Tryd.prog w = .ok () w' ∧ PMap w' M (n + 1) (fun t => if t = s then some x else g t) ∧ w.mapTurned w' M := by
  obtain ⟨D, hD, hg⟩ := h
  obtain ⟨w', hrun, h1, h2⟩ := hD.store K9 Tryd.underlying83 hn (val := .int .i64 x) (d := .lit (.int .i64 x)) (ps := []) (key9 s hs) (plainElem_int Tryd.underlying3 hx)
  refine ⟨w', hrun, ⟨_, h1, fun t => ?_⟩, h2⟩
  have hK : WideAt.IsKeyLit (.string s.data.toList) := trivial
  dsimp only
  by_cases e : t = s
  · rw [if_pos e, e]
    exact ⟨atKey_put_same hD.isMap hK _ _, has_put_same hD.isMap hK _⟩
  · rw [if_neg e]
    exact ⟨(atKey_put_other (lit_ne e) _ _).trans (hg t).1, by rw [has_put_other (lit_ne e)]; exact (hg t).2⟩
variable {ops : Array Oper} {rest : List Oper} {o : Oper} {a : Act} {Q : Exit → Act → World → Prop}
theorem wpList_pm_look (hg : o.guard = none) (m x : Operand) (hop : o.op = Op.lookup 83 m x true) (hm : a.eval m = .map (some M)) (h : PMap w M n g) (s : ByteArray) (hx : a.eval x = .string s) (hs : s.size ≤ maxLen)
    (i : Int) (b : Bool) (hi : (g s).getD 0 = i) (hb : (g s).isSome = b) (hK : wpList Tryd.prog ops Q rest (a.put o.dst (.tuple #[.int .i64 i, .bool b])) w) : wpList Tryd.prog ops Q (o :: rest) a w := by
  refine wpList_plain hg fun K' hK' => ?_
  unfold Oper.wp
  simp [execOp, hop, hm, hx, h.look s hs, Result.andThen]
  rw [hi, hb]
  exact hK' _ _ hK
theorem wpList_pm_put (hg : o.guard = none) (m x v : Operand) (hop : o.op = Op.mapUpdate 83 m x v) (hm : a.eval m = .map (some M)) (h : PMap w M n g) (hn : n < maxLen) (s : ByteArray) (hx : a.eval x = .string s) (hs : s.size ≤ maxLen)
    (y : Int) (hy : (Lit.int .i64 y).wf = true) (hv : a.eval v = .int .i64 y) (hK : ∀ w', PMap w' M (n + 1) (fun t => if t = s then some y else g t) → w.mapTurned w' M → wpList Tryd.prog ops Q rest (a.put o.dst undef) w') : wpList Tryd.prog ops Q (o :: rest) a w := by
  refine wpList_plain hg fun K' hK' => ?_
  obtain ⟨w', hrun, h1, h2⟩ := h.put hn s hs y hy
  unfold Oper.wp
  simp [execOp, hop, hm, hx, hv, hrun, Result.andThen]
  exact hK' _ _ (hK w' h1 h2)
end
end Go.Proofs.YtncebhddcokkoaaDoor
/- The closure that puts types in the place of variables. -/
namespace Go.Proofs.YtncebhddcokkoaaDoor
open Go.RowKit
/-- A type with others in the place of some variables. -/
def sub (σ : ByteArray → Option Tm) : Nat → Tm → Tm
  | 0, t => t
  | d + 1, .mk k p n N kids => match (if k = 1 then σ n else none) with
    | some t => t
    | none => .mk k p n N (kids.map (sub σ d))
theorem sub_no {σ : ByteArray → Option Tm} {d : Nat} {k : Int} {p n : ByteArray} {N : Int} {kids : List Tm} (h : (if k = 1 then σ n else none) = none) : sub σ (d + 1) (.mk k p n N kids) = .mk k p n N (kids.map (sub σ d)) := by unfold sub; rw [h]
theorem sub_yes {σ : ByteArray → Option Tm} {d : Nat} {p n : ByteArray} {N : Int} {kids : List Tm} {t : Tm} (h : σ n = some t) : sub σ (d + 1) (.mk 1 p n N kids) = t := by unfold sub; rw [if_pos rfl, h]
def byOf (g : ByteArray → Option Int) (bys : List Tm) (n : ByteArray) : Option Tm := (g n).bind fun i => bys[i.toNat]?
theorem IsX.more {X : Nat → Prop} {w : World} {d d' : Nat} (hd : d ≤ d') : ∀ {v : Value} {x : Tm}, IsX X w d v x → IsX X w d' v x := by
  induction d generalizing d' with
  | zero => intro v x h; cases h
  | succ d ih =>
    intro v x h
    obtain ⟨d', rfl⟩ : ∃ m, d' = m + 1 := ⟨d' - 1, by omega⟩
    obtain ⟨k, p, n, N, kids⟩ := x
    obtain ⟨q, c, h1, h2, h3, h4, h5⟩ := h
    refine ⟨q, c, h1, h2, h3, h4, fun i y hy => ?_⟩
    obtain ⟨b, o, k', p', n', N', s', e, hX, ha, ht⟩ := h5 i y hy
    exact ⟨b, o, k', p', n', N', s', e, hX, ha, ih (by omega) ht⟩
theorem IsX.mk {X : Nat → Prop} {w : World} {d : Nat} {k N : Int} {p n : ByteArray} {q : Option Addr} {c : Nat} {kids : List Tm} (hp : p.size ≤ maxLen) (hn : n.size ≤ maxLen) (h : KidsX X w d (.slice q kids.length c) kids) : IsX X w (d + 1) (tv k p n N (.slice q kids.length c)) (.mk k p n N kids) := by
  obtain ⟨q4, c4, e4, h4, h5⟩ := h
  exact ⟨q4, c4, by rw [e4], hp, hn, h4, h5⟩
/-- What the closure has. -/
structure PutSt (w : World) (Bm Bb Bp M m : Nat) (g : ByteArray → Option Int) (qb : Option Addr) (cb e : Nat) (bys : List Tm) : Prop where
  met : w.heap[Bm]? = some (.cells #[.map (some M)] 83 (0, 0))
  by_ : w.heap[Bb]? = some (.cells #[.slice qb bys.length cb] 34 (0, 0))
  put : w.heap[Bp]? = some (.cells #[.func (.func 90) #[] #[.pointer (some ⟨Bm, 0, none⟩), .pointer (some ⟨Bb, 0, none⟩), .pointer (some ⟨Bp, 0, none⟩)]] 50 (0, 0))
  kids : KidsT w e (.slice qb bys.length cb) bys
  map : PMap w M m g
  pos : ∀ s i, g s = some i → 0 ≤ i
  small : ∀ x ∈ bys, Sm e x
theorem PutSt.below {w w' : World} {Bm Bb Bp M m : Nat} {g : ByteArray → Option Int} {qb : Option Addr} {cb e : Nat} {bys : List Tm} (h : PutSt w Bm Bb Bp M m g qb cb e bys) (hb : Below w.heap.size w w') : PutSt w' Bm Bb Bp M m g qb cb e bys :=
  ⟨hb_below h.met hb (hb_lt h.met), hb_below h.by_ hb (hb_lt h.by_), hb_below h.put hb (hb_lt h.put), h.kids.below hb, h.map.below hb, h.pos, h.small⟩
end Go.Proofs.YtncebhddcokkoaaDoor
