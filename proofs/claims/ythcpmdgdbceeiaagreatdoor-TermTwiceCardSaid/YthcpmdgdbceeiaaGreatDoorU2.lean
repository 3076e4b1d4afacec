/- Terms whose lists lie in given blocks; an append of one term. -/
import Derived.Test.YthcpmdgdbceeiaaGreatDoorU1
import Derived.Maps.AppendAt
namespace Go.Proofs.YthcpmdgdbceeiaaGreatDoor
open Go.RowKit
/-- A value is a term, at most so deep, and the blocks of its lists are in X. -/
def IsX (X : Nat → Prop) (w : World) : Nat → Value → Tm → Prop
  | 0, _, _ => False
  | d + 1, v, .mk k p n N kids => ∃ q c, v = tv k p n N (.slice q kids.length c) ∧ p.size ≤ maxLen ∧ n.size ≤ maxLen ∧ kids.length ≤ maxLen ∧
      ∀ i x, kids[i]? = some x → ∃ b o k' p' n' N' s', q = some ⟨b, o, none⟩ ∧ X b ∧ TAt w b (o + i * 5) k' p' n' N' s' ∧ IsX X w d (tv k' p' n' N' s') x
theorem IsX.isT {X : Nat → Prop} {w : World} {d : Nat} : ∀ {v : Value} {x : Tm}, IsX X w d v x → IsT w d v x := by
  induction d with
  | zero => intro v x h; cases h
  | succ d ih =>
    intro v x h
    obtain ⟨k, p, n, N, kids⟩ := x
    obtain ⟨q, c, h1, h2, h3, h4, h5⟩ := h
    refine ⟨q, c, h1, h2, h3, h4, fun i y hy => ?_⟩
    obtain ⟨b, o, k', p', n', N', s', e, _, ha, ht⟩ := h5 i y hy
    exact ⟨b, o, k', p', n', N', s', e, ha, ih ht⟩
theorem IsX.move {X Y : Nat → Prop} {w w' : World} (hXY : ∀ b, X b → b < w.heap.size → Y b ∧ w'.heap[b]? = w.heap[b]?) {d : Nat} : ∀ {v : Value} {x : Tm}, IsX X w d v x → IsX Y w' d v x := by
  induction d with
  | zero => intro v x h; cases h
  | succ d ih =>
    intro v x h
    obtain ⟨k, p, n, N, kids⟩ := x
    obtain ⟨q, c, h1, h2, h3, h4, h5⟩ := h
    refine ⟨q, c, h1, h2, h3, h4, fun i y hy => ?_⟩
    obtain ⟨b, o, k', p', n', N', s', e, hX, ha, ht⟩ := h5 i y hy
    obtain ⟨hY, hb⟩ := hXY b hX ha.lt
    exact ⟨b, o, k', p', n', N', s', e, hY, ha.keep fun j => by simp [World.cell?, hb], ih ht⟩
theorem IsX.below {X : Nat → Prop} {w w' : World} {d : Nat} {v : Value} {x : Tm} (h : IsX X w d v x) (hb : Below w.heap.size w w') : IsX X w' d v x :=
  h.move fun b hX hl => ⟨hX, hb.block b hl⟩
/-- The cells of some terms, one behind the other. -/
def flatC (l : List (Int × ByteArray × ByteArray × Int × Value)) : List Value := l.flatMap fun t => [.int .i64 t.1, .string t.2.1, .string t.2.2.1, .int .i64 t.2.2.2.1, t.2.2.2.2]
theorem flatC_length (l : List (Int × ByteArray × ByteArray × Int × Value)) : (flatC l).length = l.length * 5 := by
  induction l with
  | nil => rfl
  | cons t l ih => unfold flatC at *; rw [List.flatMap_cons, List.length_append, ih, List.length_cons]; simp; omega
theorem flatC_snoc (l : List (Int × ByteArray × ByteArray × Int × Value)) (t : Int × ByteArray × ByteArray × Int × Value) : flatC (l ++ [t]) = flatC l ++ [.int .i64 t.1, .string t.2.1, .string t.2.2.1, .int .i64 t.2.2.2.1, t.2.2.2.2] := by simp [flatC]
theorem info24 : ∃ z, (Tryz.prog.info? 24).map (fun i => (i.zero, i.size, i.bytes)) = some (some z, 5, 72) ∧ z.cells.size = 5 := ⟨tv 0 ⟨#[]⟩ ⟨#[]⟩ 0 (.slice none 0 0), by kernel_rfl, rfl⟩
theorem append_t (w : World) (base : Nat) (v : Value) (l : List (Int × ByteArray × ByteArray × Int × Value)) (hown : w.ownsRow base 24 5 v l.length (flatC l)) (b k' : Nat) {k N : Int} {p n : ByteArray} {q : Option Addr} {ln c : Nat}
    (ht : TAt w b k' k p n N (.slice q ln c)) (cc : Nat) (hn : l.length ≤ 100000) (hbase : base ≤ w.heap.size) :
    ∃ v' w', (Builtin.append_ #[22, 22] 22 #[v, .slice (some ⟨b, k', none⟩) 1 cc]).run Tryz.prog w = .ok v' w' ∧ w'.ownsRow base 24 5 v' (l ++ [(k, p, n, N, Value.slice q ln c)]).length (flatC (l ++ [(k, p, n, N, Value.slice q ln c)])) ∧ w.grownBy w' v.ownBlock ∧ (v'.ownBlock = v.ownBlock ∨ v'.ownBlock = some w.heap.size) := by
  obtain ⟨z, hz, hzc⟩ := info24
  obtain ⟨i0, hi, hz0, hz1, hz2⟩ := info_parts hz
  rw [List.length_append, flatC_snoc]
  obtain ⟨t0, t1, t2, t3, t4⟩ := ht
  obtain ⟨v', w', h1, h2, h3, _, h5⟩ := run_append_own_at (P := Tryz.prog) w base 22 22 24 i0 z 5 72 Tryz.underlying22 hi hz0 hz1 hz2 hzc (by decide) v l.length (flatC l) hown ⟨b, k', none⟩ 1 cc [.int .i64 k, .string p, .string n, .int .i64 N, .slice q ln c] rfl
    (fun j u hu => by
      rw [Addr.add_lit]
      match j, hu with
      | 0, hu => cases hu; exact t0
      | 1, hu => cases hu; exact t1
      | 2, hu => cases hu; exact t2
      | 3, hu => cases hu; exact t3
      | 4, hu => cases hu; exact t4
      | j + 5, hu => simp at hu)
    (by simp [Value.oneCell']) (by unfold maxLen; omega) (by omega) hbase
  exact ⟨v', w', h1, h2, h3, h5⟩
end Go.Proofs.YthcpmdgdbceeiaaGreatDoor
