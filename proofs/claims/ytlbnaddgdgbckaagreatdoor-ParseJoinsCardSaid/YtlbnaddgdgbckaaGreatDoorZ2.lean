/- Texts in a row: T1 Pa. -/
import Derived.Test.YtlbnaddgdgbckaaGreatDoorZ1
import Derived.Deep.Slices
import Derived.Deep.Fields
import Derived.ChangeSame
/- Terms in memory; an argument that is one. -/
namespace Go.Proofs.YtlbnaddgdgbckaaGreatDoor
open Go.ChangeShapes Go.WideShapes Go.RowKit Go.Deep
/-- A term, as a tree. -/
inductive Tm where
  | mk (k : Int) (p n : ByteArray) (N : Int) (kids : List Tm)
/-- A struct of five cells. -/
abbrev tv (k : Int) (p n : ByteArray) (N : Int) (s : Value) : Value := .agg #[.int .i64 k, .string p, .string n, .int .i64 N, s]
def TAt (w : World) (b o : Nat) (k : Int) (p n : ByteArray) (N : Int) (s : Value) : Prop :=
  w.cell? ⟨b, o, none⟩ = some (.int .i64 k) ∧ w.cell? ⟨b, o + 1, none⟩ = some (.string p) ∧ w.cell? ⟨b, o + 2, none⟩ = some (.string n) ∧ w.cell? ⟨b, o + 3, none⟩ = some (.int .i64 N) ∧ w.cell? ⟨b, o + 4, none⟩ = some s
/-- A value is a term, at most so deep. -/
def IsT (w : World) : Nat → Value → Tm → Prop
  | 0, _, _ => False
  | d + 1, v, .mk k p n N kids => ∃ q c, v = tv k p n N (.slice q kids.length c) ∧ p.size ≤ maxLen ∧ n.size ≤ maxLen ∧ kids.length ≤ maxLen ∧
      ∀ i x, kids[i]? = some x → ∃ b o k' p' n' N' s', q = some ⟨b, o, none⟩ ∧ TAt w b (o + i * 5) k' p' n' N' s' ∧ IsT w d (tv k' p' n' N' s') x
/-- A slice of terms. -/
def KidsT (w : World) (d : Nat) (s : Value) (kids : List Tm) : Prop := ∃ q c, s = .slice q kids.length c ∧ kids.length ≤ maxLen ∧
  ∀ i x, kids[i]? = some x → ∃ b o k' p' n' N' s', q = some ⟨b, o, none⟩ ∧ TAt w b (o + i * 5) k' p' n' N' s' ∧ IsT w d (tv k' p' n' N' s') x
theorem TAt.lt {w : World} {b o : Nat} {k : Int} {p n : ByteArray} {N : Int} {s : Value} (h : TAt w b o k p n N s) : b < w.heap.size := block_lt_of_cell h.1
theorem TAt.keep {w w' : World} {b o : Nat} {k : Int} {p n : ByteArray} {N : Int} {s : Value} (h : TAt w b o k p n N s) (hk : ∀ j, w'.cell? ⟨b, j, none⟩ = w.cell? ⟨b, j, none⟩) : TAt w' b o k p n N s :=
  ⟨by rw [hk, h.1], by rw [hk, h.2.1], by rw [hk, h.2.2.1], by rw [hk, h.2.2.2.1], by rw [hk, h.2.2.2.2]⟩
theorem TAt.below {w w' : World} {b o m : Nat} {k : Int} {p n : ByteArray} {N : Int} {s : Value} (h : TAt w b o k p n N s) (hb : Below m w w') (hm : b < m) : TAt w' b o k p n N s :=
  h.keep fun j => hb.cell (p := ⟨b, j, none⟩) hm
theorem IsT.below {w w' : World} {d : Nat} (hb : Below w.heap.size w w') : ∀ {v : Value} {x : Tm}, IsT w d v x → IsT w' d v x := by
  induction d with
  | zero => intro v x h; exact h
  | succ d ih =>
    intro v x h
    obtain ⟨k, p, n, N, kids⟩ := x
    obtain ⟨q, c, h1, h2, h3, h4, h5⟩ := h
    refine ⟨q, c, h1, h2, h3, h4, fun i y hy => ?_⟩
    obtain ⟨b, o, k', p', n', N', s', e, ha, ht⟩ := h5 i y hy
    exact ⟨b, o, k', p', n', N', s', e, ha.below hb ha.lt, ih ht⟩
theorem IsT.more {w : World} {d d' : Nat} (hd : d ≤ d') : ∀ {v : Value} {x : Tm}, IsT w d v x → IsT w d' v x := by
  induction d generalizing d' with
  | zero => intro v x h; cases h
  | succ d ih =>
    intro v x h
    obtain ⟨d', rfl⟩ : ∃ m, d' = m + 1 := ⟨d' - 1, by omega⟩
    obtain ⟨k, p, n, N, kids⟩ := x
    obtain ⟨q, c, h1, h2, h3, h4, h5⟩ := h
    refine ⟨q, c, h1, h2, h3, h4, fun i y hy => ?_⟩
    obtain ⟨b, o, k', p', n', N', s', e, ha, ht⟩ := h5 i y hy
    exact ⟨b, o, k', p', n', N', s', e, ha, ih (by omega) ht⟩
theorem KidsT.below {w w' : World} {d : Nat} {s : Value} {kids : List Tm} (h : KidsT w d s kids) (hb : Below w.heap.size w w') : KidsT w' d s kids := by
  obtain ⟨q, c, h1, h4, h5⟩ := h
  refine ⟨q, c, h1, h4, fun i y hy => ?_⟩
  obtain ⟨b, o, k', p', n', N', s', e, ha, ht⟩ := h5 i y hy
  exact ⟨b, o, k', p', n', N', s', e, ha.below hb ha.lt, ht.below hb⟩
theorem IsT.open {w : World} {d : Nat} {v : Value} {x : Tm} (h : IsT w d v x) : ∃ m k p n N s kids, d = m + 1 ∧ x = .mk k p n N kids ∧ v = tv k p n N s ∧ p.size ≤ maxLen ∧ n.size ≤ maxLen ∧ KidsT w m s kids := by
  cases d with
  | zero => cases h
  | succ d =>
    obtain ⟨k, p, n, N, kids⟩ := x
    obtain ⟨q, c, h1, h2, h3, h4, h5⟩ := h
    exact ⟨d, k, p, n, N, _, kids, rfl, rfl, h1, h2, h3, q, c, rfl, h4, h5⟩
theorem IsT.shut {w : World} {d : Nat} {k : Int} {p n : ByteArray} {N : Int} {s : Value} {kids : List Tm} (hp : p.size ≤ maxLen) (hn : n.size ≤ maxLen) (h : KidsT w d s kids) : IsT w (d + 1) (tv k p n N s) (.mk k p n N kids) := by
  obtain ⟨q, c, rfl, h4, h5⟩ := h
  exact ⟨q, c, rfl, hp, hn, h4, h5⟩
theorem pick_list {α : Type} {P : Nat → α → Prop} (n : Nat) (h : ∀ i, i < n → ∃ x, P i x) : ∃ l : List α, l.length = n ∧ ∀ i x, l[i]? = some x → P i x := by
  induction n with
  | zero => exact ⟨[], rfl, fun i x hx => by simp at hx⟩
  | succ n ih =>
    obtain ⟨l, hl, hp⟩ := ih fun i hi => h i (by omega)
    obtain ⟨x, hx⟩ := h n (by omega)
    refine ⟨l ++ [x], by simp [hl], fun i y hy => ?_⟩
    rcases Nat.lt_or_ge i l.length with hi | hi
    · rw [List.getElem?_append_left hi] at hy
      exact hp i y hy
    · rw [List.getElem?_append_right hi] at hy
      have e : i - l.length = 0 := by
        rcases Nat.eq_zero_or_pos (i - l.length) with h0 | h0
        · exact h0
        · rw [List.getElem?_eq_none (by simp; omega)] at hy
          cases hy
      rw [e] at hy
      obtain rfl := Option.some.inj hy
      have e2 : i = n := by omega
      subst e2
      exact hx
theorem cells24 : Tryz.prog.cellsOf 39 = 5 := by kernel_rfl
theorem cells3 : Tryz.prog.cellsOf 3 = 1 := by kernel_rfl
theorem cells9 : Tryz.prog.cellsOf 9 = 1 := by kernel_rfl
theorem cells22 : Tryz.prog.cellsOf 37 = 1 := by kernel_rfl
section
set_option maxRecDepth 100000
variable {H : Type} {enc : TypeId × Value → H} {W : World} {v : Value} {d : DataW H} {p : List MemPlace}
theorem trod_term : ∀ (fuel : Nat) (cs : List Value) (x : DataW H × List MemPlace), DataW.trod enc Tryz.prog W 0 (fun _ => true) true fuel 39 cs = some x →
    ∃ (k : Int) (p n : ByteArray) (N : Int) (s : Value) (t : Tm), cs = [.int .i64 k, .string p, .string n, .int .i64 N, s] ∧ IsT W fuel (tv k p n N s) t := by
  intro fuel
  induction fuel using Nat.strongRecOn with
  | _ fuel ih =>
    intro cs x h
    obtain ⟨xs, m, rfl, _, hl, hx5, hf⟩ := DataW.trod_struct Tryz.underlying39 h
    rw [cells24] at hl
    match cs, hl with
    | [c0, c1, c2, c3, c4], _ =>
      have hx5' : xs.length = 5 := hx5
      have g0 : DataW.trod enc Tryz.prog W 0 (fun _ => true) true m 3 (([c0, c1, c2, c3, c4].drop 0).take (Tryz.prog.cellsOf 3)) = xs[0]? := hf 0 _ rfl
      have g1 : DataW.trod enc Tryz.prog W 0 (fun _ => true) true m 9 (([c0, c1, c2, c3, c4].drop 1).take (Tryz.prog.cellsOf 9)) = xs[1]? := hf 1 _ rfl
      have g2 : DataW.trod enc Tryz.prog W 0 (fun _ => true) true m 9 (([c0, c1, c2, c3, c4].drop 2).take (Tryz.prog.cellsOf 9)) = xs[2]? := hf 2 _ rfl
      have g3 : DataW.trod enc Tryz.prog W 0 (fun _ => true) true m 3 (([c0, c1, c2, c3, c4].drop 3).take (Tryz.prog.cellsOf 3)) = xs[3]? := hf 3 _ rfl
      have g4 : DataW.trod enc Tryz.prog W 0 (fun _ => true) true m 37 (([c0, c1, c2, c3, c4].drop 4).take (Tryz.prog.cellsOf 37)) = xs[4]? := hf 4 _ rfl
      rw [cells3, List.getElem?_eq_getElem (by omega)] at g0 g3
      rw [cells9, List.getElem?_eq_getElem (by omega)] at g1 g2
      rw [cells22, List.getElem?_eq_getElem (by omega)] at g4
      obtain ⟨k, e0, _, _⟩ := DataW.trod_int Tryz.underlying3 g0
      obtain ⟨p, e1, _, hp⟩ := DataW.trod_string Tryz.underlying9 g1
      obtain ⟨n, e2, _, hn⟩ := DataW.trod_string Tryz.underlying9 g2
      obtain ⟨N, e3, _, _⟩ := DataW.trod_int Tryz.underlying3 g3
      simp at e0 e1 e2 e3
      subst e0 e1 e2 e3
      suffices hk : ∃ kids, KidsT W m c4 kids by
        obtain ⟨kids, hk⟩ := hk
        exact ⟨k, p, n, N, c4, .mk k p n N kids, rfl, IsT.shut hp hn hk⟩
      rcases DataW.trod_slice Tryz.underlying37 g4 with ⟨hcs, _⟩ | ⟨a, len, cap, elems, rest, n', hm', hcs, _, _, hl2, hm, hlen, hel, _, _⟩
      · simp at hcs
        subst hcs
        exact ⟨[], none, 0, rfl, Nat.zero_le _, fun i y hy => by simp at hy⟩
      · simp at hcs
        subst hcs
        by_cases hz : len = 0
        · subst hz
          exact ⟨[], some a, cap, rfl, Nat.zero_le _, fun i y hy => by simp at hy⟩
        have hi : ∀ i, i < len → ∃ cs' y, W.cells? 0 (a.add (i * 5)) 5 = some cs' ∧ DataW.trod enc Tryz.prog W 0 (fun _ => true) true n' 39 cs' = some y := fun i hi => by
          have he := hel i hi
          rw [cells24, List.getElem?_eq_getElem (by omega)] at he
          obtain ⟨cs', h1, h2⟩ := Option.bind_eq_some_iff.1 he
          exact ⟨cs', _, h1, h2⟩
        obtain ⟨b1, o1, rfl⟩ : ∃ b1 o1, a = ⟨b1, o1, none⟩ := by
          obtain ⟨cs, _, hc, _⟩ := hi 0 (by omega)
          obtain ⟨_, hcl, hat⟩ := World.cells?_some hc
          have h0 := hat 0 (by omega)
          rw [List.getElem?_eq_getElem (by omega)] at h0
          have h1 := World.cell?_spot h0
          obtain ⟨b1, o1, sp⟩ := a
          have h2 : sp = none := by simpa [Addr.add] using h1
          exact ⟨b1, o1, by rw [h2]⟩
        obtain ⟨l, hll, hpl⟩ := pick_list (P := fun i (t : Tm) => ∃ k' p' n2 N' s', TAt W b1 (o1 + i * 5) k' p' n2 N' s' ∧ IsT W m (tv k' p' n2 N' s') t) len (fun i hi2 => by
          obtain ⟨cs, y, hc, ht⟩ := hi i hi2
          obtain ⟨_, hcl, hat⟩ := World.cells?_some hc
          obtain ⟨k', p', n2, N', s', t, rfl, ht2⟩ := ih n' (by omega) cs _ ht
          have a0 := hat 0 (by omega)
          have a1 := hat 1 (by omega)
          have a2 := hat 2 (by omega)
          have a3 := hat 3 (by omega)
          have a4 := hat 4 (by omega)
          simp only [Addr.add_lit, Nat.add_zero] at a0 a1 a2 a3 a4
          exact ⟨t, k', p', n2, N', s', ⟨a0, a1, a2, a3, a4⟩, ht2.more (by omega)⟩)
        refine ⟨l, some ⟨b1, o1, none⟩, cap, by rw [hll], by omega, fun i y hy => ?_⟩
        obtain ⟨k', p', n2, N', s', h1, h2⟩ := hpl i y hy
        exact ⟨b1, o1, k', p', n2, N', s', rfl, h1, h2⟩
theorem arg_term (hval : Value.okWide Tryz.prog W .any 0 39 v) (h : DataW.Trod enc Tryz.prog W 0 (fun _ => true) true 39 v d p) : ∃ (m : Nat) (t : Tm), IsT W m v t := by
  obtain ⟨cs, rfl, hsz⟩ := okWide_struct Tryz.underlying39 hval
  obtain ⟨fuel, hf⟩ := h
  obtain ⟨k, p', n, N, s, t, e, ht⟩ := trod_term fuel _ _ hf
  obtain ⟨l⟩ := cs
  simp [Value.cells] at e
  subst e
  exact ⟨fuel, t, ht⟩
end
/-- Are two terms one? -/
noncomputable def same (a b : Tm) : Bool := by classical exact decide (a = b)
theorem same_iff {a b : Tm} : same a b = true ↔ a = b := by unfold same; simp
theorem same_self (a : Tm) : same a a = true := same_iff.2 rfl
theorem same_comm (a b : Tm) : same a b = same b a := by
  rw [Bool.eq_iff_iff, same_iff, same_iff]
  exact ⟨fun h => h.symm, fun h => h.symm⟩
theorem same_no {a b : Tm} (h : a ≠ b) : same a b = false := by
  cases e : same a b with
  | false => rfl
  | true => exact absurd (same_iff.1 e) h
theorem bcell {W w1 : World} (hb : Below W.heap.size W w1) : (∀ b o, b < W.heap.size → w1.cell? ⟨b, o, none⟩ = W.cell? ⟨b, o, none⟩) ∧ (∀ b o, b < W.heap.size → w1.frozen? ⟨b, o, none⟩ = W.frozen? ⟨b, o, none⟩) :=
  ⟨fun b o h => hb.cell (p := ⟨b, o, none⟩) h, fun b o h => hb.frozen (p := ⟨b, o, none⟩) h⟩
theorem keep_cell {w w' : World} {a : Addr} {v : Value} (hb : Below w.heap.size w w') (h : w.cell? a = some v) : w'.cell? a = some v := by
  rw [hb.cell (block_lt_of_cell h), h]
theorem below2 (w : World) (o1 o2 : Obj) : Below w.heap.size w ((w.alloc o1).alloc o2) := (below_alloc _ _).trans ((below_alloc _ _).mono (by simp))
end Go.Proofs.YtlbnaddgdgbckaaGreatDoor
/- The parser's mathematics: what each of its functions tells of the tokens that are still to read. -/
namespace Go.Proofs.YtlbnaddgdgbckaaGreatDoor
set_option linter.unusedSimpArgs false
set_option linter.unusedVariables false
/-- Tokens, each with its place. -/
abbrev Ts := List (Tk × Nat)
/-- What a reader comes to: a fault (its byte, its error), or something, and what is still to read. -/
abbrev Res (α : Type) := Except (Nat × Nat) (α × Ts)
def bnd {α β : Type} (x : Res α) (f : α → Ts → Res β) : Res β := match x with
  | .error e => .error e
  | .ok y => f y.1 y.2
theorem bnd_ok {α β : Type} (a : α) (ts : Ts) (f : α → Ts → Res β) : bnd (.ok (a, ts)) f = f a ts := rfl
theorem bnd_err {α β : Type} (e : Nat × Nat) (f : α → Ts → Res β) : bnd (.error e) f = .error e := rfl
def e0 : ByteArray := ⟨#[]⟩
/-- The token that comes. -/
def nx (E : Nat) (ts : Ts) : Tk × Nat := ts.headD (tk0, E)
def die {α : Type} (E : Nat) (ts : Ts) (e : Nat) : Res α := .error ((nx E ts).2, e)
/-- Its kind. -/
def kd (ts : Ts) : Int := (nx 0 ts).1.k
def tx (ts : Ts) : ByteArray := (nx 0 ts).1.s
def isB (k : Int) (x : ByteArray) (ts : Ts) : Bool := decide (kd ts = k) && decide (tx ts = x)
def takeP (E : Nat) (k : Int) (ts : Ts) : Res ByteArray := if kd ts = k then .ok (tx ts, ts.tail) else die E ts 10
def keyP (E : Nat) (k : Int) (x : ByteArray) (ts : Ts) : Res Unit := if isB k x ts then .ok ((), ts.tail) else die E ts 10
/-- The signs and keywords. -/
abbrev sDot : ByteArray := ⟨#[46]⟩
abbrev sOpen : ByteArray := ⟨#[40]⟩
abbrev sShut : ByteArray := ⟨#[41]⟩
abbrev sComma : ByteArray := ⟨#[44]⟩
abbrev sArrow : ByteArray := ⟨#[45, 62]⟩
abbrev sColon : ByteArray := ⟨#[58]⟩
abbrev sSemi : ByteArray := ⟨#[59]⟩
abbrev sEq : ByteArray := ⟨#[61]⟩
abbrev sAt : ByteArray := ⟨#[64]⟩
abbrev sBar : ByteArray := ⟨#[124]⟩
abbrev sAny : ByteArray := ⟨#[95]⟩
abbrev kFun : ByteArray := ⟨#[102, 117, 110]⟩
abbrev kLet : ByteArray := ⟨#[108, 101, 116]⟩
abbrev kMatch : ByteArray := ⟨#[109, 97, 116, 99, 104]⟩
abbrev kRec : ByteArray := ⟨#[114, 101, 99]⟩
abbrev kIn : ByteArray := ⟨#[105, 110]⟩
abbrev kWith : ByteArray := ⟨#[119, 105, 116, 104]⟩
abbrev kEnd : ByteArray := ⟨#[101, 110, 100]⟩
abbrev kImport : ByteArray := ⟨#[105, 109, 112, 111, 114, 116]⟩
abbrev kType : ByteArray := ⟨#[116, 121, 112, 101]⟩
abbrev kAlias : ByteArray := ⟨#[97, 108, 105, 97, 115]⟩
abbrev kExport : ByteArray := ⟨#[101, 120, 112, 111, 114, 116]⟩
/-- One thing or more, with a sign between them: the loop. -/
def sevF {α : Type} (E : Nat) (bt : ByteArray) (one : Ts → Res α) : Nat → Ts → List α → Res (List α)
  | 0, ts, _ => die E ts 10
  | f + 1, ts, acc => if isB 8 bt ts then bnd (one ts.tail) fun a ts => sevF E bt one f ts (acc ++ [a]) else .ok (acc, ts)
def sevL {α : Type} (E : Nat) (bt : ByteArray) (one : Ts → Res α) (ts : Ts) (acc : List α) : Res (List α) := sevF E bt one (ts.length + 1) ts acc
def sevP {α : Type} (E : Nat) (bt : ByteArray) (one : Ts → Res α) (ts : Ts) : Res (List α) := bnd (one ts) fun a ts => sevL E bt one ts [a]
def heldP {α : Type} (E : Nat) (one : Ts → Res α) (ts : Ts) : Res (List α) :=
  if isB 8 sOpen ts then bnd (sevP E sComma one ts.tail) fun l ts => bnd (keyP E 8 sShut ts) fun _ ts => .ok (l, ts) else .ok ([], ts)
def openP (E : Nat) (one : Ts → Res Tm) (ts : Ts) : Res (List Tm) :=
  bnd (keyP E 8 sOpen ts) fun _ ts => if isB 8 sShut ts then .ok ([], ts) else sevP E sComma one ts
def shutT (kind : Int) (l : List Tm) : Tm := match l with
  | [t] => t
  | l => .mk kind e0 e0 0 l
def shutP (E : Nat) (kind : Int) (l : List Tm) (ts : Ts) : Res Tm := bnd (keyP E 8 sShut ts) fun _ ts => .ok (shutT kind l, ts)
def conP (E : Nat) (kind : Int) (p : ByteArray) (one : Ts → Res Tm) (ts : Ts) : Res Tm :=
  bnd (takeP E 2 ts) fun s ts => bnd (heldP E one ts) fun l ts => .ok (.mk kind p s 0 l, ts)
/-- Types. -/
def tyConP (E : Nat) (p : ByteArray) (one : Ts → Res Tm) (ts : Ts) : Res Tm :=
  bnd (takeP E 1 ts) fun s ts => bnd (heldP E one ts) fun l ts => .ok (.mk 2 p s 0 l, ts)
def tyAtomP (E : Nat) (one : Ts → Res Tm) (ts : Ts) : Res Tm :=
  if kd ts = 3 then bnd (takeP E 3 ts) fun s ts => .ok (.mk 1 e0 s 0 [], ts)
  else if kd ts = 2 then bnd (takeP E 2 ts) fun p ts => bnd (keyP E 8 sDot ts) fun _ ts => tyConP E p one ts
  else if kd ts = 1 then tyConP E e0 one ts
  else bnd (openP E one ts) fun l ts => shutP E 4 l ts
def typP (E : Nat) : Nat → Ts → Res Tm
  | 0, ts => die E ts 9
  | g + 1, ts => bnd (tyAtomP E (typP E g) ts) fun t ts =>
    if isB 8 sArrow ts then bnd (typP E g ts.tail) fun u ts => .ok (.mk 3 e0 e0 0 [t, u], ts) else .ok (t, ts)
def annP (E : Nat) (one : Ts → Res Tm) (ts : Ts) : Res (List Tm) :=
  if isB 8 sColon ts then bnd (one ts.tail) fun t ts => .ok ([t], ts) else .ok ([], ts)
/-- Patterns. -/
def qualP (E : Nat) (ts : Ts) : Res ByteArray :=
  if isB 8 sDot ts.tail then bnd (takeP E 2 ts) fun p ts => bnd (keyP E 8 sDot ts) fun _ ts => .ok (p, ts) else .ok (e0, ts)
def patP (E : Nat) : Nat → Ts → Res Tm
  | 0, ts => die E ts 9
  | g + 1, ts =>
    if kd ts = 1 then bnd (takeP E 1 ts) fun s ts => .ok (.mk 12 e0 s 0 [], ts)
    else if kd ts = 4 then bnd (takeP E 4 ts) fun _ ts' => .ok (.mk 13 e0 e0 (nx 0 ts).1.n [], ts')
    else if kd ts = 5 then bnd (takeP E 5 ts) fun s ts => .ok (.mk 14 e0 s 0 [], ts)
    else if kd ts = 2 then bnd (qualP E ts) fun p ts => conP E 15 p (patP E g) ts
    else if isB 8 sAny ts then .ok (.mk 11 e0 e0 0 [], ts.tail)
    else bnd (openP E (patP E g) ts) fun l ts => shutP E 16 l ts
/-- Expressions. -/
def begB (ts : Ts) : Bool := decide (kd ts = 4) || decide (kd ts = 5) || decide (kd ts = 1) || decide (kd ts = 2) || isB 8 sOpen ts
def appF (E : Nat) (atom : Ts → Res Tm) : Nat → Tm → Ts → Res Tm
  | 0, t, ts => if begB ts then die E ts 9 else .ok (t, ts)
  | k + 1, t, ts => if begB ts then bnd (atom ts) fun a ts => appF E atom k (.mk 27 e0 e0 0 [t, a]) ts else .ok (t, ts)
def appP (E : Nat) (atom : Ts → Res Tm) (ts : Ts) : Res Tm := bnd (atom ts) fun t ts => appF E atom 50 t ts
def varP (E : Nat) (p : ByteArray) (ts : Ts) : Res Tm := bnd (takeP E 1 ts) fun s ts => .ok (.mk 21 p s 0 [], ts)
def atomP (E : Nat) (one typ : Ts → Res Tm) (ts : Ts) : Res Tm :=
  if kd ts = 4 then bnd (takeP E 4 ts) fun _ ts' => .ok (.mk 22 e0 e0 (nx 0 ts).1.n [], ts')
  else if kd ts = 5 then bnd (takeP E 5 ts) fun s ts => .ok (.mk 23 e0 s 0 [], ts)
  else if kd ts = 2 then bnd (qualP E ts) fun p ts => if kd ts = 2 then conP E 24 p one ts else varP E p ts
  else if kd ts = 1 then varP E e0 ts
  else bnd (openP E one ts) fun l ts =>
    if l.length = 1 ∧ isB 8 sColon ts = true then bnd (annP E typ ts) fun a ts => shutP E 25 [.mk 30 e0 e0 0 (l ++ a)] ts
    else shutP E 25 l ts
def funP (E : Nat) (one : Ts → Res Tm) (ts : Ts) : Res Tm :=
  bnd (takeP E 1 ts) fun s ts => bnd (keyP E 8 sArrow ts) fun _ ts => bnd (one ts) fun x ts => .ok (.mk 26 e0 s 0 [x], ts)
def letR (E : Nat) (one typ : Ts → Res Tm) (N : Int) (ts : Ts) : Res Tm :=
  bnd (takeP E 1 ts) fun s ts => bnd (annP E typ ts) fun a ts => bnd (keyP E 8 sEq ts) fun _ ts => bnd (one ts) fun x ts =>
  bnd (keyP E 7 kIn ts) fun _ ts => bnd (one ts) fun y ts => .ok (.mk 28 e0 s N ([x, y] ++ a), ts)
def letP (E : Nat) (one typ : Ts → Res Tm) (ts : Ts) : Res Tm := if isB 7 kRec ts then letR E one typ 1 ts.tail else letR E one typ 0 ts
def armP (E : Nat) (pat one : Ts → Res Tm) (ts : Ts) : Res (List Tm) :=
  bnd (pat ts) fun p ts => bnd (keyP E 8 sArrow ts) fun _ ts => bnd (one ts) fun x ts => .ok ([p, x], ts)
def matP (E : Nat) (pat one : Ts → Res Tm) (ts : Ts) : Res Tm :=
  bnd (one ts) fun x ts => bnd (keyP E 7 kWith ts) fun _ ts => bnd (sevP E sBar (armP E pat one) ts) fun l ts =>
  bnd (keyP E 7 kEnd ts) fun _ ts => .ok (.mk 29 e0 e0 0 (x :: l.flatten), ts)
def exprP (E : Nat) : Nat → Ts → Res Tm
  | 0, ts => die E ts 9
  | g + 1, ts =>
    if isB 7 kFun ts then funP E (exprP E g) ts.tail
    else if isB 7 kLet ts then letP E (exprP E g) (typP E g) ts.tail
    else if isB 7 kMatch ts then matP E (patP E g) (exprP E g) ts.tail
    else appP E (atomP E (exprP E g) (typP E g)) ts
/-- One thing, and nothing behind it. -/
def wholeP {α : Type} (E : Nat) (one : Ts → Res α) (ts : Ts) : Except (Nat × Nat) α := match one ts with
  | .error e => .error e
  | .ok (a, ts') => if ts'.length = 0 then .ok a else .error ((nx E ts').2, 10)
end Go.Proofs.YtlbnaddgdgbckaaGreatDoor
