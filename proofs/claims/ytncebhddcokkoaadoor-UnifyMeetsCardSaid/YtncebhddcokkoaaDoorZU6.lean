/- Texts in a row: U2 U3 Xa. -/
import Derived.Test.YtncebhddcokkoaaDoorZU5
import Derived.Maps.AppendAt
import Derived.Deep.DeepCutAuto
import Derived.Outline
/- Terms whose lists lie in given blocks; an append of one term. -/
namespace Go.Proofs.YtncebhddcokkoaaDoor
open Go.RowKit
/-- A value is a term, at most so deep, and the blocks of its lists are in X. -/
def IsX (X : Nat → Prop) (w : World) : Nat → Value → Tm → Prop
  | 0, _, _ => False
  | d + 1, v, .mk k p n N kids => ∃ q c, v = tv k p n N (.slice q kids.length c) ∧ p.size ≤ maxLen ∧ n.size ≤ maxLen ∧ kids.length ≤ maxLen ∧
      ∀ i x, kids[i]? = some x → ∃ b o k' p' n' N' s', q = some ⟨b, o, none⟩ ∧ X b ∧ TAt w b (o + i * 5) k' p' n' N' s' ∧ IsX X w d (tv k' p' n' N' s') x
theorem IsX.isT {X : Nat → Prop} {w : World} {d : Nat} : ∀ {v : Value} {x : Tm}, IsX X w d v x → IsT w d v x := by
  induction d with
  | zero => intro v x h; cases h
  | succ d ih =>
    intro v x h
    obtain ⟨k, p, n, N, kids⟩ := x
    obtain ⟨q, c, h1, h2, h3, h4, h5⟩ := h
    refine ⟨q, c, h1, h2, h3, h4, fun i y hy => ?_⟩
    obtain ⟨b, o, k', p', n', N', s', e, _, ha, ht⟩ := h5 i y hy
    exact ⟨b, o, k', p', n', N', s', e, ha, ih ht⟩
theorem IsX.move {X Y : Nat → Prop} {w w' : World} (hXY : ∀ b, X b → b < w.heap.size → Y b ∧ w'.heap[b]? = w.heap[b]?) {d : Nat} : ∀ {v : Value} {x : Tm}, IsX X w d v x → IsX Y w' d v x := by
  induction d with
  | zero => intro v x h; cases h
  | succ d ih =>
    intro v x h
    obtain ⟨k, p, n, N, kids⟩ := x
    obtain ⟨q, c, h1, h2, h3, h4, h5⟩ := h
    refine ⟨q, c, h1, h2, h3, h4, fun i y hy => ?_⟩
    obtain ⟨b, o, k', p', n', N', s', e, hX, ha, ht⟩ := h5 i y hy
    obtain ⟨hY, hb⟩ := hXY b hX ha.lt
    exact ⟨b, o, k', p', n', N', s', e, hY, ha.keep fun j => by simp [World.cell?, hb], ih ht⟩
theorem IsX.below {X : Nat → Prop} {w w' : World} {d : Nat} {v : Value} {x : Tm} (h : IsX X w d v x) (hb : Below w.heap.size w w') : IsX X w' d v x :=
  h.move fun b hX hl => ⟨hX, hb.block b hl⟩
/-- The cells of some terms, one behind the other. -/
def flatC (l : List (Int × ByteArray × ByteArray × Int × Value)) : List Value := l.flatMap fun t => [.int .i64 t.1, .string t.2.1, .string t.2.2.1, .int .i64 t.2.2.2.1, t.2.2.2.2]
theorem flatC_length (l : List (Int × ByteArray × ByteArray × Int × Value)) : (flatC l).length = l.length * 5 := by
  induction l with
  | nil => rfl
  | cons t l ih => unfold flatC at *; rw [List.flatMap_cons, List.length_append, ih, List.length_cons]; simp; omega
theorem flatC_snoc (l : List (Int × ByteArray × ByteArray × Int × Value)) (t : Int × ByteArray × ByteArray × Int × Value) : flatC (l ++ [t]) = flatC l ++ [.int .i64 t.1, .string t.2.1, .string t.2.2.1, .int .i64 t.2.2.2.1, t.2.2.2.2] := by simp [flatC]
theorem info24 : ∃ z, (Tryd.prog.info? 36).map (fun i => (i.zero, i.size, i.bytes)) = some (some z, 5, 72) ∧ z.cells.size = 5 := ⟨tv 0 ⟨#[]⟩ ⟨#[]⟩ 0 (.slice none 0 0), by kernel_rfl, rfl⟩
theorem append_t (w : World) (base : Nat) (v : Value) (l : List (Int × ByteArray × ByteArray × Int × Value)) (hown : w.ownsRow base 36 5 v l.length (flatC l)) (b k' : Nat) {k N : Int} {p n : ByteArray} {q : Option Addr} {ln c : Nat}
    (ht : TAt w b k' k p n N (.slice q ln c)) (cc : Nat) (hn : l.length ≤ 100000) (hbase : base ≤ w.heap.size) :
    ∃ v' w', (Builtin.append_ #[34, 34] 34 #[v, .slice (some ⟨b, k', none⟩) 1 cc]).run Tryd.prog w = .ok v' w' ∧ w'.ownsRow base 36 5 v' (l ++ [(k, p, n, N, Value.slice q ln c)]).length (flatC (l ++ [(k, p, n, N, Value.slice q ln c)])) ∧ w.grownBy w' v.ownBlock ∧ (v'.ownBlock = v.ownBlock ∨ v'.ownBlock = some w.heap.size) := by
  obtain ⟨z, hz, hzc⟩ := info24
  obtain ⟨i0, hi, hz0, hz1, hz2⟩ := info_parts hz
  rw [List.length_append, flatC_snoc]
  obtain ⟨t0, t1, t2, t3, t4⟩ := ht
  obtain ⟨v', w', h1, h2, h3, _, h5⟩ := run_append_own_at (P := Tryd.prog) w base 34 34 36 i0 z 5 72 Tryd.underlying34 hi hz0 hz1 hz2 hzc (by decide) v l.length (flatC l) hown ⟨b, k', none⟩ 1 cc [.int .i64 k, .string p, .string n, .int .i64 N, .slice q ln c] rfl
    (fun j u hu => by
      rw [Addr.add_lit]
      match j, hu with
      | 0, hu => cases hu; exact t0
      | 1, hu => cases hu; exact t1
      | 2, hu => cases hu; exact t2
      | 3, hu => cases hu; exact t3
      | 4, hu => cases hu; exact t4
      | j + 5, hu => simp at hu)
    (by simp [Value.oneCell']) (by unfold maxLen; omega) (by omega) hbase
  exact ⟨v', w', h1, h2, h3, h5⟩
end Go.Proofs.YtncebhddcokkoaaDoor
/- clone, and withKids of it. -/
namespace Go.Proofs.YtncebhddcokkoaaDoor
open Go.RowKit
abbrev T5 := Int × ByteArray × ByteArray × Int × Value
abbrev t5v (t : T5) : Value := tv t.1 t.2.1 t.2.2.1 t.2.2.2.1 t.2.2.2.2
/-- No list is too long for an append. -/
def Sm : Nat → Tm → Prop
  | 0, _ => True
  | d + 1, .mk _ _ _ _ kids => kids.length ≤ 100000 ∧ ∀ x ∈ kids, Sm d x
def KidsX (X : Nat → Prop) (w : World) (d : Nat) (s : Value) (kids : List Tm) : Prop := ∃ q c, s = .slice q kids.length c ∧ kids.length ≤ maxLen ∧
  ∀ i x, kids[i]? = some x → ∃ b o k' p' n' N' s', q = some ⟨b, o, none⟩ ∧ X b ∧ TAt w b (o + i * 5) k' p' n' N' s' ∧ IsX X w d (tv k' p' n' N' s') x
theorem IsX.shape {X : Nat → Prop} {w : World} {d : Nat} {v : Value} {x : Tm} (h : IsX X w d v x) : ∃ k p n N q ln c, v = tv k p n N (.slice q ln c) := by
  cases d with
  | zero => cases h
  | succ d =>
    obtain ⟨k, p, n, N, kids⟩ := x
    obtain ⟨q, c, h1, _⟩ := h
    exact ⟨k, p, n, N, q, _, c, h1⟩
/-- What a list of terms that is being made holds. -/
def Made (base : Nat) (w : World) (d : Nat) (sv : Value) (done : List Tm) : Prop :=
  ∃ l : List T5, l.length = done.length ∧ w.ownsRow base 36 5 sv l.length (flatC l) ∧ ∀ (i : Nat) (x : Tm), done[i]? = some x → ∃ t : T5, l[i]? = some t ∧ IsX (fun b => base ≤ b ∧ some b ≠ sv.ownBlock) w d (t5v t) x
theorem Made.nil (base : Nat) (w : World) (d : Nat) : Made base w d (.slice none 0 0) [] := ⟨[], rfl, World.ownsRow_nil _ _ _ _, fun i x h => by simp at h⟩
/-- One more term: it was made behind w (in new blocks), and appended. -/
theorem Made.next {base : Nat} {w w3 w4 : World} {d : Nat} {sv sv4 : Value} {done : List Tm} {x : Tm} {k N : Int} {p n : ByteArray} {q : Option Addr} {ln c : Nat} {l : List T5} (hl : l.length = done.length)
    (hown : w.ownsRow base 36 5 sv l.length (flatC l)) (hd : ∀ (i : Nat) (x : Tm), done[i]? = some x → ∃ t : T5, l[i]? = some t ∧ IsX (fun b => base ≤ b ∧ some b ≠ sv.ownBlock) w d (t5v t) x) (hbase : base ≤ w.heap.size)
    (hb : Below w.heap.size w w3) (hx : IsX (fun b => w.heap.size ≤ b) w3 d (tv k p n N (.slice q ln c)) x) (w5 : World) (hw5 : ∀ b, b < w3.heap.size → w5.heap[b]? = w3.heap[b]?) (hz5 : w3.heap.size ≤ w5.heap.size)
    (ho4 : w4.ownsRow base 36 5 sv4 (l.length + 1) (flatC (l ++ [(k, p, n, N, Value.slice q ln c)]))) (hg : w5.grownBy w4 sv.ownBlock) (hblk : sv4.ownBlock = sv.ownBlock ∨ sv4.ownBlock = some w5.heap.size) : Made base w4 d sv4 (done ++ [x]) := by
  have hlt : ∀ g, sv.ownBlock = some g → g < w.heap.size := fun g h => (hown.lt g h).2
  have hsz := hb.size
  have hstep : ∀ b, b < w3.heap.size → some b ≠ sv.ownBlock → w4.heap[b]? = w3.heap[b]? := fun b h1 h2 => by rw [hg.block b (by omega) h2, hw5 b h1]
  refine ⟨l ++ [(k, p, n, N, Value.slice q ln c)], by simp [hl], by rw [List.length_append]; exact ho4, fun i y hy => ?_⟩
  rw [List.getElem?_append] at hy
  split at hy
  · rename_i hi
    obtain ⟨t, h1, h2⟩ := hd i y hy
    refine ⟨t, by rw [List.getElem?_append_left (by omega)]; exact h1, ?_⟩
    exact h2.move fun b hX hl2 => ⟨⟨hX.1, fun e => by
      rcases hblk with h | h
      · exact hX.2 (e.trans h)
      · rw [h] at e; have := Option.some.inj e; omega⟩, by rw [hstep b (by omega) hX.2, hb.block b hl2]⟩
  · rename_i hi
    have hi2 : i - done.length = 0 := by
      have := (List.getElem?_eq_some_iff.1 hy).1
      simp at this
      omega
    rw [hi2] at hy
    obtain rfl : x = y := by simpa using hy
    have hil : i = l.length := by omega
    refine ⟨_, by rw [hil]; exact List.getElem?_concat_length, ?_⟩
    exact hx.move fun b hX hl2 => ⟨⟨by omega, fun e => by
      rcases hblk with h | h
      · have := hlt b (by rw [← h, ← e]); omega
      · rw [h] at e; have := Option.some.inj e; omega⟩, hstep b hl2 fun e => by have := hlt b e.symm; omega⟩
/-- All made: it is the list. -/
theorem Made.all {base : Nat} {w w' : World} {d : Nat} {sv : Value} {kids : List Tm} (h : Made base w d sv kids) (hk : kids.length ≤ maxLen) (hw : ∀ b, base ≤ b → w'.heap[b]? = w.heap[b]?) : KidsX (fun b => base ≤ b) w' d sv kids := by
  obtain ⟨l, hl, ho, hd⟩ := h
  obtain ⟨hfl, ⟨rfl, h0⟩ | ⟨g, cap, cur, rfl, hbg, hh, _, _, _, htk⟩⟩ := ho
  · have : kids = [] := List.eq_nil_of_length_eq_zero (by omega)
    subst this
    exact ⟨none, 0, rfl, hk, fun i x h => by simp at h⟩
  · refine ⟨some ⟨g, 0, none⟩, cap, by rw [hl], hk, fun i x hx => ?_⟩
    obtain ⟨t, h1, h2⟩ := hd i x hx
    have hi : i < l.length := (List.getElem?_eq_some_iff.1 h1).1
    have hcell : ∀ j (hj : j < 5), w'.cell? ⟨g, 0 + i * 5 + j, none⟩ = (flatC l)[i * 5 + j]? := fun j hj => by
      have h3 : w'.cell? ⟨g, 0 + i * 5 + j, none⟩ = cur[0 + i * 5 + j]? := by
        have hh2 : w'.heap[g]? = some (.cells cur 36 (0, 0)) := by rw [hw g hbg, hh]
        exact hb_cell hh2 _
      rw [h3, ← htk, List.getElem?_take, if_pos (by omega), Array.getElem?_toList, Nat.zero_add]
    have hflat : ∀ j (hj : j < 5), (flatC l)[i * 5 + j]? = [Value.int .i64 t.1, .string t.2.1, .string t.2.2.1, .int .i64 t.2.2.2.1, t.2.2.2.2][j]? := fun j hj => by
      have e : l = l.take i ++ t :: l.drop (i + 1) := by
        have h4 := List.getElem?_eq_some_iff.1 h1
        rw [← h4.2, ← List.drop_eq_getElem_cons hi, List.take_append_drop]
      have e2 : flatC l = flatC (l.take i) ++ ([Value.int .i64 t.1, .string t.2.1, .string t.2.2.1, .int .i64 t.2.2.2.1, t.2.2.2.2] ++ flatC (l.drop (i + 1))) := by
        conv => lhs; rw [e]
        simp [flatC]
      have hlen : (flatC (l.take i)).length = i * 5 := by rw [flatC_length, List.length_take, Nat.min_eq_left (by omega)]
      rw [e2, List.getElem?_append_right (by omega), hlen, Nat.add_sub_cancel_left, List.getElem?_append_left (by simpa using hj)]
    refine ⟨g, 0, t.1, t.2.1, t.2.2.1, t.2.2.2.1, t.2.2.2.2, rfl, hbg, ⟨?_, ?_, ?_, ?_, ?_⟩, h2.move fun b hX _ => ⟨hX.1, hw b hX.1⟩⟩
    · have := hcell 0 (by decide); rw [hflat 0 (by decide)] at this; exact this
    · have := hcell 1 (by decide); rw [hflat 1 (by decide)] at this; exact this
    · have := hcell 2 (by decide); rw [hflat 2 (by decide)] at this; exact this
    · have := hcell 3 (by decide); rw [hflat 3 (by decide)] at this; exact this
    · have := hcell 4 (by decide); rw [hflat 4 (by decide)] at this; exact this
end Go.Proofs.YtncebhddcokkoaaDoor
/- A map of names to terms. -/
namespace Go.Proofs.YtncebhddcokkoaaDoor
open Go.RowKit Go.Maps

def tR (v : Value) : Option (DataW Value × List MemPlace) := some (.held v, [])
def zT : Value := tv 0 ⟨#[]⟩ ⟨#[]⟩ 0 (.slice none 0 0)
theorem zero24 (w : World) : (zeroValue 36).run Tryd.prog w = .ok zT w := by kernel_rfl
def tAt (D : DataW Value) (s : ByteArray) (r : Option Value) : Prop :=
  match r with
  | some v => Maps.has D (.string s.data.toList) = true ∧ ∀ z, D.atKey (.string s.data.toList) z = .held v
  | none => Maps.has D (.string s.data.toList) = false
/-- A map that has these values. -/
def TMap (w : World) (M n : Nat) (g : ByteArray → Option Value) : Prop := ∃ D : DataW Value, w.ownsMap Tryd.prog 9 tR M n D ∧ ∀ s, tAt D s (g s)
def upV {α : Type} (g : ByteArray → Option α) (s : ByteArray) (v : α) : ByteArray → Option α := fun t => if t = s then some v else g t
section
variable {w w' : World} {M n : Nat} {g : ByteArray → Option Value}
theorem TMap.lt (h : TMap w M n g) : M < w.heap.size := h.elim fun _ h => h.1.lt
theorem TMap.same (h : TMap w M n g) (hb : w'.heap[M]? = w.heap[M]?) : TMap w' M n g := by
  obtain ⟨D, ⟨es, clock, h1, h2⟩, h3⟩ := h
  exact ⟨D, ⟨es, clock, hb.trans h1, h2⟩, h3⟩
theorem TMap.heap (h : TMap w M n g) : ∃ es clock, w.heap[M]? = some (.map es clock) := by
  obtain ⟨D, ⟨es, clock, hb, _⟩, _⟩ := h
  exact ⟨es, clock, hb⟩
theorem TMap.kept (h : TMap w M n g) (hk : ∀ x, w.heap[M]? = some x → w'.heap[M]? = some x) : TMap w' M n g := by
  obtain ⟨es, clock, hb⟩ := h.heap
  exact h.same ((hk _ hb).trans hb.symm)
theorem TMap.made (w : World) : TMap (w.alloc (.map #[] 0)) w.heap.size 0 fun _ => none := ⟨_, World.ownsMap_made w _ _ _, fun _ => rfl⟩
theorem tR_inj {v u : Value} {d : DataW Value} {ps qs : List MemPlace} (hv : tR v = some (d, ps)) (hu : tR u = some (d, qs)) : v = u := by
  unfold tR at hv hu
  simp at hv hu
  have h := hv.1.trans hu.1.symm
  injection h
theorem TMap.look (h : TMap w M n g) (s : ByteArray) (hs : s.size ≤ maxLen) : (Instr.lookup 109 (.map (some M)) (.string s) true).run Tryd.prog w = .ok (.tuple #[(g s).getD zT, .bool (g s).isSome]) w := by
  obtain ⟨D, hD, hg⟩ := h
  obtain ⟨v, ps, hrun, hv⟩ := hD.look_ok K9 Tryd.underlying109 (zero24 w) (zd := .held zT) (zp := []) rfl (key9 s hs)
  have h1 := hg s
  rw [hrun]
  cases hr : g s with
  | none =>
    rw [hr] at h1
    rw [atKey_of_not_has h1] at hv
    rw [tR_inj hv (u := zT) rfl, show Maps.has D (.string s.data.toList) = false from h1]
    rfl
  | some x =>
    rw [hr] at h1
    rw [h1.2] at hv
    rw [tR_inj hv (u := x) rfl, h1.1]
    rfl
theorem TMap.look1 (h : TMap w M n g) (s : ByteArray) (hs : s.size ≤ maxLen) : (Instr.lookup 109 (.map (some M)) (.string s) false).run Tryd.prog w = .ok ((g s).getD zT) w := by
  obtain ⟨D, hD, hg⟩ := h
  obtain ⟨v, ps, hrun, hv⟩ := hD.lookup K9 Tryd.underlying109 (zero24 w) (zd := .held zT) (zp := []) rfl (key9 s hs)
  have h1 := hg s
  rw [hrun]
  cases hr : g s with
  | none =>
    rw [hr] at h1
    rw [atKey_of_not_has h1] at hv
    rw [tR_inj hv (u := zT) rfl]
    rfl
  | some x =>
    rw [hr] at h1
    rw [h1.2] at hv
    rw [tR_inj hv (u := x) rfl]
    rfl
theorem TMap.put (h : TMap w M n g) (hn : n < maxLen) (s : ByteArray) (hs : s.size ≤ maxLen) (v : Value) :
    ∃ w', (Instr.mapUpdate 109 (.map (some M)) (.string s) v).run Tryd.prog w = .ok () w' ∧ TMap w' M (n + 1) (upV g s v) ∧ w.mapTurned w' M := by
  obtain ⟨D, hD, hg⟩ := h
  obtain ⟨w', hrun, h1, h2⟩ := hD.store K9 Tryd.underlying109 hn (val := v) (d := .held v) (ps := []) (key9 s hs) rfl
  refine ⟨w', hrun, ⟨_, h1, fun t => ?_⟩, h2⟩
  have hK : WideAt.IsKeyLit (.string s.data.toList) := trivial
  unfold upV
  by_cases e : t = s
  · rw [if_pos e, e]
    exact ⟨has_put_same hD.isMap hK _, fun z => by rw [atKey_put_same hD.isMap hK]⟩
  · rw [if_neg e]
    have h3 := hg t
    cases hr : g t with
    | none =>
      rw [hr] at h3
      exact (has_put_other (lit_ne e) _).trans h3
    | some y =>
      rw [hr] at h3
      exact ⟨(has_put_other (lit_ne e) _).trans h3.1, fun z => by rw [atKey_put_other (lit_ne e)]; exact h3.2 z⟩
variable (w) {ops : Array Oper} {rest : List Oper} {o : Oper} {a : Act} {Q : Exit → Act → World → Prop}
end
end Go.Proofs.YtncebhddcokkoaaDoor
