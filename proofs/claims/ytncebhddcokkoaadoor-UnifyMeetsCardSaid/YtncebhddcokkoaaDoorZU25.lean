/- Texts in a row: Kv Kw La. -/
import Derived.Test.YtncebhddcokkoaaDoorZU24
import Derived.Test.YtncebhddcokkoaaDoorZU3
import Derived.StillTailTactics
import Derived.Test.YtncebhddcokkoaaDoorZU9
import Derived.Test.YtncebhddcokkoaaDoorZU7
/- Two types are made the same: steps. -/
namespace Go.Proofs.YtncebhddcokkoaaDoor
open Go.RowKit
set_option linter.unusedSimpArgs false
set_option linter.unusedVariables false
namespace Abs
theorem no_kd {A : Abs} {u v : Nat} {x y : Inf} (hv : A.kd u = 1 ∨ A.kd v = 1) (hu : A.l[A.r u]? = some x) (hw : A.l[A.r v]? = some y) (hx : x.k ≠ 1) (hy : y.k ≠ 1) : False := by
  rcases hv with h | h
  · rw [kd_some hu] at h; exact hx h
  · rw [kd_some hw] at h; exact hy h
theorem Step.det {A : Abs} {l : List Item} {r s : Option (Abs × List Item)} (h : Step A l r) (k : Step A l s) : r = s := by
  cases h with
  | done h =>
    cases k with
    | done _ => rfl
    | merge k => exact absurd h k
  | merge h =>
    cases k with
    | done k => exact absurd k h
    | merge _ => rfl
  | same h =>
    cases k with
    | same _ => rfl
    | bad k _ _ => exact absurd h k
    | bnd k _ _ => exact absurd h k
    | clash k _ _ _ _ _ => exact absurd h k
    | kids k _ _ _ _ _ => exact absurd h k
  | bad h hv hb =>
    cases k with
    | same k => exact absurd k h
    | bad _ _ _ => rfl
    | bnd _ _ k => exact absurd hb k
    | clash _ a b c d _ => exact (no_kd hv a b c d).elim
    | kids _ a b c d _ => exact (no_kd hv a b c d).elim
  | bnd h hv hb =>
    cases k with
    | same k => exact absurd k h
    | bad _ _ k => exact absurd k hb
    | bnd _ _ _ => rfl
    | clash _ a b c d _ => exact (no_kd hv a b c d).elim
    | kids _ a b c d _ => exact (no_kd hv a b c d).elim
  | clash h hu hw hx hy hn =>
    cases k with
    | same k => exact absurd k h
    | bad _ k _ => exact (no_kd k hu hw hx hy).elim
    | bnd _ k _ => exact (no_kd k hu hw hx hy).elim
    | clash _ _ _ _ _ _ => rfl
    | kids _ a b _ _ k =>
      rw [hu] at a; rw [hw] at b
      cases a; cases b
      exact absurd k hn
  | kids h hu hw hx hy hn =>
    cases k with
    | same k => exact absurd k h
    | bad _ k _ => exact (no_kd k hu hw hx hy).elim
    | bnd _ k _ => exact (no_kd k hu hw hx hy).elim
    | clash _ a b _ _ k =>
      rw [hu] at a; rw [hw] at b
      cases a; cases b
      exact absurd hn k
    | kids _ a b _ _ _ =>
      rw [hu] at a; rw [hw] at b
      cases a; cases b
      rfl
theorem Run.next {n : Nat} {A B : Abs} {l m : List Item} {o : Option Abs} (h : Run n A l o) (hs : Step A l (some (B, m))) : ∃ n', n = n' + 1 ∧ Run n' B m o := by
  cases h with
  | done n A => cases hs
  | fail k => cases hs.det k
  | step k h2 =>
    have e := hs.det k
    injection e with e
    injection e with e1 e2
    subst e1 e2
    exact ⟨_, rfl, h2⟩
theorem Run.stop {n : Nat} {A : Abs} {l : List Item} {o : Option Abs} (h : Run n A l o) (hs : Step A l none) : o = none := by
  cases h with
  | done n A => cases hs
  | fail k => rfl
  | step k h2 => cases hs.det k
theorem Run.nil {n : Nat} {A : Abs} {o : Option Abs} (h : Run n A [] o) : o = some A := by
  cases h with
  | done n A => rfl
  | fail k => cases k
  | step k h2 => cases k
/-- No step makes more variables. -/
theorem Step.nv {A B : Abs} {l m : List Item} (h : Step A l (some (B, m))) (hI : Inv A l) : B.nv ≤ A.nv := by
  cases h with
  | done h => exact Nat.le_refl _
  | @merge x y l h =>
    obtain ⟨a, b, ha, hb, h1, hal, hk⟩ := mark_top hI
    unfold Abs.nv
    show (List.range A.l.length).countP _ ≤ _
    apply List.countP_mono_left
    intro i hi hp
    simp only [Bool.and_eq_true, decide_eq_true_eq] at hp ⊢
    by_cases e : A.r i = A.r x
    · have er : (A.bind (A.r x) (A.r y) A.lv).r i = A.r y := if_pos e
      have k2 : (A.bind (A.r x) (A.r y) A.lv).kd i = b.k := kd_some (A := A.bind (A.r x) (A.r y) A.lv) (by rw [er]; exact hb)
      rw [k2, ← hal.1] at hp
      exact absurd hp.2 h1
    · have er : (A.bind (A.r x) (A.r y) A.lv).r i = A.r i := if_neg e
      have k2 : (A.bind (A.r x) (A.r y) A.lv).kd i = A.kd i := by unfold kd; rw [er]; rfl
      rw [er, k2] at hp
      exact hp
  | same h => exact Nat.le_refl _
  | @bnd u v l h hv hb =>
    have hlt := hI.lt (.pr u v) (by simp)
    generalize et : A.turn (A.r u) (A.r v) = t at *
    obtain ⟨a, b⟩ := t
    obtain ⟨ra, rb, la, lb, hab, ka, _, _⟩ := turn_spec hI.ok hlt.1 hlt.2 h hv et
    exact Nat.le_of_lt (nv_bind hI.ok ra rb la hab ka)
  | kids h hu hw hx hy hn => exact Nat.le_refl _
end Abs
/-- A round of Unify. -/
structure UI (c : Cfg) (A0 : Abs) (l0 : List Abs.Item) (o : Option Abs) (w : World) (t : Value) (wr : World) (m : Nat) (B : Abs) (l : List Abs.Item) (k : Int) : Prop where
  run : Abs.Run m B l o
  inv : Abs.Inv B l
  stk : Abs.Stk B l
  st : St { c with wks := k } B wr
  row : PRow w.heap.size wr t (l.map code).reverse
  kp : Kp c w wr
  lB : B.l = A0.l
  k0 : 0 ≤ k
  k1 : k + B.nv ≤ c.wks + A0.nv
  pth : Abs.Path A0 l0 B l
theorem UI.len {c : Cfg} {A0 : Abs} {l0 : List Abs.Item} {o : Option Abs} {w : World} {t : Value} {wr : World} {m : Nat} {B : Abs} {l : List Abs.Item} {k : Int} (h : UI c A0 l0 o w t wr m B l k) (htot : (A0.l.map fun x => x.kids.length + 1).sum ≤ 100000) : l.length ≤ 100001 := by
  have h1 := h.stk.len h.inv.ok h.inv.fin h.inv.like h.inv.mlt
  rw [h.lB] at h1
  omega
theorem UI.go {c : Cfg} {A0 : Abs} {l0 : List Abs.Item} {o : Option Abs} {w : World} {t t' : Value} {wr w' : World} {m : Nat} {B B' : Abs} {l l' : List Abs.Item} {k k' : Int} (h : UI c A0 l0 o w t wr m B l k) (hs : Abs.Step B l (some (B', l'))) (hst : St { c with wks := k' } B' w') (hrow : PRow w.heap.size w' t' (l'.map code).reverse) (hkp : Kp c w w') (h0 : 0 ≤ k') (h1 : k' + B'.nv ≤ k + B.nv) :
    ∃ n', m = n' + 1 ∧ UI c A0 l0 o w t' w' n' B' l' k' := by
  obtain ⟨n', e, hr⟩ := h.run.next hs
  have := h.k1
  exact ⟨n', e, hr, hs.inv h.inv, hs.stk h.inv h.stk, hst, hrow, hkp, hs.norig.trans h.lB, h0, by omega, h.pth.snoc hs⟩
theorem bits_not (x : Nat) (h : x < 9223372036854775808) : bits .xor .i64 (-1) (-(x : Int) - 1) = (x : Int) := by
  have hb : (BitVec.ofInt 64 (-(x : Int) - 1)).toNat = 18446744073709551615 - x := by
    rw [BitVec.toNat_ofInt]
    have : (-(x : Int) - 1) % (2 ^ 64 : Nat) = 18446744073709551615 - x := by
      have : ((2 ^ 64 : Nat) : Int) = 18446744073709551616 := by decide
      rw [this]
      omega
    rw [this]
    omega
  have e : (BitVec.ofInt 64 (-1) ^^^ BitVec.ofInt 64 (-(x : Int) - 1)).toNat = x := by
    have h1 : BitVec.ofInt 64 (-1) = BitVec.allOnes 64 := by decide
    rw [h1, BitVec.allOnes_xor, BitVec.toNat_not, hb]
    omega
  show IntKind.i64.wrap ((BitVec.ofInt 64 (-1) ^^^ BitVec.ofInt 64 (-(x : Int) - 1)).toNat : Int) = x
  rw [e]
  exact IntWalk.i64_in _ (by omega)
/-- From what was there, where rows that are new change. -/
theorem Kp.step {c : Cfg} {w w1 w2 : World} (h : Kp c w w1) (hb : Below c.b0 w1 w2) (k : ∀ (g : Nat) (x : Obj), g < w.heap.size → w1.heap[g]? = some x → g ≠ c.B → (∀ cs fr, x ≠ .cells cs 90 fr) → w2.heap[g]? = some x) : Kp c w w2 :=
  ⟨h.below.trans hb, Nat.le_trans h.size hb.size, fun g x h1 h2 h3 => k g x (hb_lt h1) (h.block g x h1 h2 h3) h2 h3⟩
/-- A store where a row of pairs grows. -/
theorem St.grown {c : Cfg} {A : Abs} {w w1 w2 : World} {t : Value} {ps : List (Int × Int)} (h : St c A w1) (hk : Kp c w w1) (hrow : PRow w.heap.size w1 t ps) (hg : w1.grownBy w2 t.ownBlock) (hB : c.B < w.heap.size) : St c A w2 ∧ Kp c w w2 := by
  obtain ⟨v, L, rk, p1, p2, p3⟩ := h
  have hne : ∀ g, t.ownBlock = some g → w.heap.size ≤ g ∧ ∃ cs, w1.heap[g]? = some (.cells cs 78 (0, 0)) := hrow.blk
  have hb0 := p1.hb
  have hbel : Below c.b0 w1 w2 := ⟨hg.os, hg.tape, hg.output, hg.size, fun k hk2 => hg.block k (by have := p1.lt; omega) (fun e => by have := (hne k e.symm).1; omega)⟩
  refine ⟨⟨v, L, rk, ⟨p1.hb, p1.ne, hb_grown p1.blk hg (fun e => by have := (hne c.B e.symm).1; omega), ?_, fun x hx => ?_, p1.few⟩, p2, p3⟩, hk.step hbel fun g x h1 h2 h3 h4 => hb_grown h2 hg (fun e => by have := (hne g e.symm).1; omega)⟩
  · rcases p1.row with h1 | ⟨g, cap, cur, h1, h2, h3, h4⟩
    · exact .inl h1
    · refine .inr ⟨g, cap, cur, h1, h2, hb_grown h3 hg (fun e => ?_), h4⟩
      obtain ⟨_, cs, hcs⟩ := hne g e.symm
      exact type_ne h3 hcs (by decide) rfl
  · obtain ⟨q, cc, h1, h2⟩ := p1.kid x hx
    refine ⟨q, cc, h1, ?_⟩
    rcases h2 with h2 | ⟨g, o, cs, fr, e, hg1, hB1, hc⟩
    · exact .inl h2
    · refine .inr ⟨g, o, cs, fr, e, hb_grown hg1 hg (fun e => ?_), hB1, hc⟩
      obtain ⟨_, cs', hcs⟩ := hne g e.symm
      exact type_ne hg1 hcs (by decide) rfl
/-- A type's Kids in a store. -/
theorem St.nd {c : Cfg} {A : Abs} {w : World} (h : St c A w) {i j : Nat} {X Y : Inf} (hX : A.l[i]? = some X) (hY : A.l[j]? = some Y) : ∃ g cap n q kc q' kc', w.cell? ⟨c.B, 0, none⟩ = some (.slice (some ⟨g, 0, none⟩) n cap) ∧ i < n ∧ j < n ∧ n ≤ 100000 ∧
    w.cell? ⟨g, i * 9 + 3, none⟩ = some (.slice q X.kids.length kc) ∧ w.cell? ⟨g, j * 9 + 3, none⟩ = some (.slice q' Y.kids.length kc') ∧
    (∀ (a y : Nat), X.kids[a]? = some y → ∃ gk ok cs fr, q = some ⟨gk, ok, none⟩ ∧ w.heap[gk]? = some (.cells cs 3 fr) ∧ w.cell? ⟨gk, ok + a, none⟩ = some (intV y)) ∧ (∀ (a y : Nat), Y.kids[a]? = some y → ∃ gk ok cs fr, q' = some ⟨gk, ok, none⟩ ∧ w.heap[gk]? = some (.cells cs 3 fr) ∧ w.cell? ⟨gk, ok + a, none⟩ = some (intV y)) ∧ ∃ cs fr, w.heap[g]? = some (.cells cs 90 fr) := by
  obtain ⟨v, L, rk, p1, p2, p3⟩ := h
  obtain ⟨nx, hnx, rfl⟩ := p2.back hX
  obtain ⟨ny, hny, rfl⟩ := p2.back hY
  obtain ⟨g, cap, rfl, hgB, hg0, hc1, hc2, s0, s1, s2, s3, s4, x0, x1, x2, x3, x4, x5, x6, x7, x8, hfz⟩ := p1.at hnx
  obtain ⟨g', cap', e, _, _, _, _, _, _, _, _, _, y0, y1, y2, y3, y4, y5, y6, y7, y8, _⟩ := p1.at hny
  injection e with e1 e2 e3
  injection e1 with e1
  injection e1 with e1
  subst e1 e3
  obtain ⟨q, kc, hkx, hkx2⟩ := p1.kid nx (List.mem_of_getElem? hnx)
  obtain ⟨q', kc', hky, hky2⟩ := p1.kid ny (List.mem_of_getElem? hny)
  rw [hkx] at x3
  rw [hky] at y3
  have kids : ∀ (q : Option Addr) (l : List Nat), (l = [] ∨ ∃ g o cs fr, q = some ⟨g, o, none⟩ ∧ w.heap[g]? = some (.cells cs 3 fr) ∧ g ≠ c.B ∧ ∀ (j y : Nat), l[j]? = some y → cs[o + j]? = some (.int .i64 (y : Nat))) → ∀ (a y : Nat), l[a]? = some y → ∃ gk ok cs fr, q = some ⟨gk, ok, none⟩ ∧ w.heap[gk]? = some (.cells cs 3 fr) ∧ w.cell? ⟨gk, ok + a, none⟩ = some (intV y) := by
    intro q l h a y hy
    rcases h with rfl | ⟨g, o, cs, fr, e, hg, _, hc⟩
    · simp at hy
    · exact ⟨g, o, cs, fr, e, hg, by rw [hb_cell hg]; exact hc a y hy⟩
  exact ⟨g, cap, L.length, q, kc, q', kc', s0, (List.getElem?_eq_some_iff.1 hnx).1, (List.getElem?_eq_some_iff.1 hny).1, p1.few, x3, y3, kids q _ hkx2, kids q' _ hky2, by
    rcases p1.row with ⟨rfl, _⟩ | ⟨g', cap', cur, e, _, hg', _⟩
    · simp at hnx
    · injection e with e1 _ _
      injection e1 with e1
      injection e1 with e1
      subst e1
      exact ⟨_, _, hg'⟩⟩
end Go.Proofs.YtncebhddcokkoaaDoor
/- Two types are made the same: the program's. -/
namespace Go.Proofs.YtncebhddcokkoaaDoor
open Go.RowKit
set_option linter.unusedSimpArgs false
set_option linter.unusedVariables false
theorem bits_neg (x : Nat) (h : x < 9223372036854775808) : bits .xor .i64 (-1) (x : Int) = -(x : Int) - 1 := by
  have hb : (BitVec.ofInt 64 (x : Int)).toNat = x := by
    rw [BitVec.toNat_ofInt] <;> omega
  have e : (BitVec.ofInt 64 (-1) ^^^ BitVec.ofInt 64 (x : Int)).toNat = 18446744073709551615 - x := by
    have h1 : BitVec.ofInt 64 (-1) = BitVec.allOnes 64 := by decide
    rw [h1, BitVec.allOnes_xor, BitVec.toNat_not, hb]
  show IntKind.i64.wrap ((BitVec.ofInt 64 (-1) ^^^ BitVec.ofInt 64 (x : Int)).toNat : Int) = _
  rw [e]
  have e2 : ((18446744073709551615 - x : Nat) : Int) = 18446744073709551615 - (x : Int) := by omega
  rw [e2]
  unfold IntKind.wrap
  have e3 : (2 : Int) ^ IntKind.i64.bits = 18446744073709551616 := by decide
  have e4 : (2 : Int) ^ (IntKind.i64.bits - 1) = 9223372036854775808 := by decide
  have e5 : IntKind.i64.signed = true := rfl
  simp only [e3, e4, e5, Bool.true_and, decide_eq_true_eq]
  have e6 : (18446744073709551615 - (x : Int)) % 18446744073709551616 = 18446744073709551615 - (x : Int) := by omega
  rw [e6, if_pos (by omega)]
  omega
set_option maxRecDepth 100000 in
theorem step_pair {ops : Array Oper} {o : Oper} {a : Act} {w : World} {K : Act → World → Prop} {Q : Exit → Act → World → Prop} {E : Prop} (hgd : o.guard = none) (s x : Operand)
    (ho : o.op = .call { callee := .builtin .append, args := #[s, x], argTypes := #[82, 82] }) (hty : o.type = 82) {base : Nat} {v : Value} {ps : List (Int × Int)} {t : Int × Int} {g0 cc : Nat} (hrow : PRow base w v ps) (hbase : base ≤ w.heap.size) (hs : a.eval s = v) (hx : a.eval x = .slice (some ⟨g0, 0, none⟩) 1 cc)
    (h0 : w.cell? ⟨g0, 0, none⟩ = some (.int .i64 t.1)) (h1 : w.cell? ⟨g0, 1, none⟩ = some (.int .i64 t.2)) (hn : ps.length ≤ 1000000)
    (hK : ∀ q cap w', RowKit.Hid (PRow base w' (.slice q (ps.length + 1) cap) (ps ++ [t])) → RowKit.Hid (w.grownBy w' v.ownBlock) → K (a.put o.dst (.slice q (ps.length + 1) cap)) w') :
    if Region.wanted o (yielded ops a.tmps) = true then Oper.wp Tryd.prog o a w K Q else E := by
  have hw : Region.wanted o (yielded ops a.tmps) = true := by simp [Region.wanted, hgd]
  rw [if_pos hw]
  obtain ⟨v', w', hrun, hr, hg, _⟩ := hrow.app hbase h0 h1 hn
  obtain ⟨q, cap, e, _, _⟩ := hr.shape
  rw [List.length_append] at e
  subst e
  unfold Oper.wp execOp
  simp only [ho, hty, resolve, invoke, builtin, Sem.run_bind, Sem.run_pure, Result.andThen_ok, List.map_toArray, List.map_cons, List.map_nil, hs, hx]
  rw [hrun]
  exact hK q cap w' (Lib.hid hr) (Lib.hid hg)
theorem cell_grown {w w' : World} {row : Option Nat} (hg : w.grownBy w' row) {b o : Nat} {v : Value} (h : w.cell? ⟨b, o, none⟩ = some v) (hne : some b ≠ row) : w'.cell? ⟨b, o, none⟩ = some v := by
  have e := hg.block b (block_lt_of_cell h) hne
  unfold World.cell? at *
  rw [e]
  exact h
/-- What Unify leaves. -/
def UniQ (c : Cfg) (A : Abs) (l0 : List Abs.Item) (o : Option Abs) (w : World) (e : Ending) (w' : World) : Prop :=
  ∃ k : Int, 0 ≤ k ∧ k ≤ c.wks + A.l.length + 1 ∧ Kp c w w' ∧ match o with
    | some B => e = .returned (.bool true) ∧ St { c with wks := k } B w' ∧ Abs.Inv B []
    | none => e = .returned (.bool false) ∧ ∃ B l', Abs.Path A l0 B l' ∧ Abs.Step B l' none ∧ St { c with wks := k } B w'
set_option maxRecDepth 100000 in
set_option maxHeartbeats 4000000 in
theorem unify_any (c : Cfg) (A : Abs) (w : World) (u v n : Nat) (o : Option Abs) (hI : Abs.Inv A []) (h : St c A w) (hu : u < A.l.length) (hv : v < A.l.length) (hf : c.full = false) (hw0 : 0 ≤ c.wks) (hw1 : c.wks + A.l.length < 4611686018427387904) (htot : (A.l.map fun x => x.kids.length + 1).sum ≤ 100000) (hr : Abs.Run n A [.pr u v] o) :
    Calls Tryd.prog 27 #[.pointer (some ⟨c.B, 0, none⟩), intV u, intV v] w (UniQ c A [.pr u v] o w) := by
  have hlt := h.lt
  have hb1 := below_alloc w (.cells #[intV u, intV v] 3)
  have hS1 := h.below hb1
  have hnew := hb_new w (.cells #[intV u, intV v] 3)
  obtain ⟨vv, L, rk, p1, p2, p3⟩ := hS1
  have hll := p2.len
  have hhas : Calls Tryd.prog 50 #[.pointer (some ⟨c.B, 0, none⟩), .slice (some ⟨w.heap.size, 0, none⟩) 2 2] (w.alloc (.cells #[intV u, intV v] 3)) _ := (has_any c vv L (w.alloc (.cells #[intV u, intV v] 3)) (some ⟨w.heap.size, 0, none⟩) [(u : Int), (v : Int)] 2 p1 (fun j y hy => by
    match j, hy with
    | 0, hy => obtain rfl := Option.some.inj hy; exact ⟨_, _, rfl, hb_at hnew 0 rfl⟩
    | 1, hy => obtain rfl := Option.some.inj hy; exact ⟨_, _, rfl, hb_at hnew 1 rfl⟩
    | j + 2, hy => simp at hy) (by simp))
  have HHAS := Lib.hid hhas
  clear hhas
  have hall : ∀ i ∈ [(u : Int), (v : Int)], 0 ≤ i ∧ i < (L.length : Int) := by
    intro i hi
    simp only [List.mem_cons, List.not_mem_nil, or_false] at hi
    rcases hi with rfl | rfl <;> omega
  have H0 := Lib.hid h
  have HALL := Lib.hid hall
  have HB1 := Lib.hid hb1
  clear h p1 p2 p3 hnew hall hb1
  go_enter Tryd.func27, Tryd.ntmps27
  go_wp2_with (go_at_call 50; (with_reducible refine HHAS.out.mono ?_); rintro e w2 ⟨⟨r, rfl, hr2⟩, hb2⟩; (obtain rfl : r = true := hr2.2 ⟨hf, HALL.out⟩); have HB2 := Lib.hid (HB1.out.trans (hb2.mono (by have := HB1.out.size; omega))); clear hr2 hb2)
  have hb3 := HB2.out.trans ((below_alloc w2 (.cells #[intV u, intV v] 78)).mono HB2.out.size)
  have hnew3 := hb_new w2 (.cells #[intV u, intV v] 78)
  have hz2 := HB2.out.size
  have hT0 : PRow w.heap.size (w2.alloc (.cells #[intV u, intV v] 78)) (.slice (some ⟨w2.heap.size, 0, none⟩) 1 1) [((u : Int), (v : Int))] := ⟨rfl, .inr ⟨w2.heap.size, 1, #[intV u, intV v], rfl, hz2, hnew3, Nat.le_refl _, by decide, rfl, rfl⟩⟩
  have hstart : ∃ m B l k, UI c A [.pr u v] o w (.slice (some ⟨w2.heap.size, 0, none⟩) 1 1) (w2.alloc (.cells #[intV u, intV v] 78)) m B l k :=
    ⟨n, A, [.pr u v], c.wks, hr, hI.pair hu hv, Abs.Stk.one A u v, H0.out.below hb3, hT0, Kp.of_below (by omega) hb3, rfl, hw0, Int.le_refl _, .refl _ _⟩
  have HST := Lib.hid hstart
  clear hstart hT0 hnew3 hb3
  generalize w2.alloc (.cells #[intV u, intV v] 78) = W3 at *
  have hnv := Abs.nv_le A
  go_loopw [7] (fun t wr => ∃ m B l k, UI c A [.pr u v] o w t wr m B l k) (fun t wr => least fun m => ∃ B l k, UI c A [.pr u v] o w t wr m B l k)
  case atStart => exact HST.out
  case round =>
    have hle := least_spec (P := fun m => ∃ B l k, UI c A [.pr u v] o w u7 wr m B l k) hrel
    have hless : ∀ t' wr' m', m' < (least fun m => ∃ B l k, UI c A [.pr u v] o w u7 wr m B l k) → (∃ B l k, UI c A [.pr u v] o w t' wr' m' B l k) → (∃ m B l k, UI c A [.pr u v] o w t' wr' m B l k) ∧ (least fun m => ∃ B l k, UI c A [.pr u v] o w t' wr' m B l k) < (least fun m => ∃ B l k, UI c A [.pr u v] o w u7 wr m B l k) := fun t' wr' m' h1 h2 => ⟨⟨m', h2⟩, Nat.lt_of_le_of_lt (least_le h2) h1⟩
    obtain ⟨m0, hm0⟩ : ∃ m0, m0 = least fun m => ∃ B l k, UI c A [.pr u v] o w u7 wr m B l k := ⟨_, rfl⟩
    rw [← hm0] at hle
    have HM := Lib.hid hm0
    have HLE := Lib.hid hless
    clear hless hrel hm0 HST
    obtain ⟨B, l, k, hW⟩ := hle
    have HW := Lib.hid hW
    have hlen := hW.len htot
    cases l with
    | nil =>
      obtain ⟨q, cap, rfl, _, _⟩ := hW.row.shape
      clear hW
      go_wp2
      go_ret
      have hW := HW.out
      have e := hW.run.nil
      subst e
      exact ⟨k, hW.k0, by have := hW.k1; omega, hW.kp, rfl, hW.st, hW.inv⟩
    | cons it l =>
      have hrow := hW.row
      rw [List.map_cons, List.reverse_cons] at hrow
      obtain ⟨gt, capt, rfl, hct1, hct2, hgt, t0, t1, hpop⟩ := hrow.pop
      have hTl : ((l.map code).reverse).length ≤ 100000 := by rw [List.length_cons] at hlen; simp; omega
      have HPOP := Lib.hid hpop
      have hct3 : capt ≤ 9223372036854775807 := by unfold maxLen at hct2; omega
      clear hW hpop hrow hlen
      generalize hTT : (l.map code).reverse = TT at *
      cases it with
      | mk x y =>
        have hx0 : (code (.mk x y)).1 = -(x : Int) - 1 := rfl
        have hx1 : (code (.mk x y)).2 = (y : Int) := rfl
        rw [hx0] at t0
        rw [hx1] at t1
        have hneg : (-(x : Int) - 1) < 0 := by omega
        have hlts := HW.out.inv.lt (.mk x y) (by simp)
        have hbp := below_alloc wr (.cells #[.int .i64 (-(x : Int) - 1), .int .i64 (y : Int)] 78)
        have HMG := Lib.hid (merge_st (HW.out.st.below hbp) HW.out.inv.ok hlts.1 hlts.2)
        have HBP := Lib.hid hbp
        clear hbp
        have hxl : x < A.l.length := by rw [← HW.out.lB]; exact hlts.1
        have hbn := bits_not x (by omega)
        have hBlt := HW.out.st.lt
        go_wp2_with (go_at_call 54; (try rw [hbn]); (with_reducible refine HMG.out.mono ?_); rintro e w4 ⟨rfl, hS4, hK4⟩; have HS4 := Lib.hid hS4; have HK4 := Lib.hid hK4; clear hS4 hK4)
        have hW := HW.out
        have hKa : Kp c wr w4 := (Kp.of_below (by have := hW.st.lt.2; have := hW.st.lt.1; show c.b0 ≤ _; have h9 : c.b0 ≤ c.B := hW.st.lt.2; have h8 : c.B < wr.heap.size := hW.st.lt.1; omega) HBP.out).trans ⟨HK4.out.below, HK4.out.size, HK4.out.block⟩
        have hrow4 := HPOP.out.kp hKa (by omega)
        by_cases hxy : B.r x = B.r y
        · have hS := HS4.out
          rw [if_pos hxy] at hS
          obtain ⟨n', hn', hU⟩ := hW.go (.done hxy) hS (by rw [hTT]; exact hrow4) (hW.kp.trans hKa) hW.k0 (Int.le_refl _)
          exact HLE.out _ _ n' (by rw [← HM.out, hn']; omega) ⟨_, _, _, hU⟩
        · have hS := HS4.out
          rw [if_neg hxy] at hS
          have hst := Abs.Step.merge (A := B) (l := l) hxy
          have hnv2 := hst.nv hW.inv
          obtain ⟨n', hn', hU⟩ := hW.go hst hS (by rw [hTT]; exact hrow4) (hW.kp.trans hKa) hW.k0 (by omega)
          exact HLE.out _ _ n' (by rw [← HM.out, hn']; omega) ⟨_, _, _, hU⟩
      | pr x y =>
        have hx0 : (code (.pr x y)).1 = (x : Int) := rfl
        have hx1 : (code (.pr x y)).2 = (y : Int) := rfl
        rw [hx0] at t0
        rw [hx1] at t1
        have hpos : ¬ ((x : Int)) < 0 := by omega
        have hlts := HW.out.inv.lt (.pr x y) (by simp)
        have hbp := below_alloc wr (.cells #[.int .i64 (x : Int), .int .i64 (y : Int)] 78)
        have hpb := hb_new wr (.cells #[.int .i64 (x : Int), .int .i64 (y : Int)] 78)
        have hSt := (HW.out.st.below hbp).below (Below.refl _ _).drew
        have hBB : c.B < wr.heap.size := HW.out.st.lt.1
        have hb0B : c.b0 ≤ c.B := HW.out.st.lt.2
        have hka : Kp c wr (wr.alloc (.cells #[.int .i64 (x : Int), .int .i64 (y : Int)] 78)).drew := Kp.of_below (by omega) hbp.drew
        have HF1 := Lib.hid (find_st hSt hlts.1)
        have HF2 := Lib.hid fun W (hW : St { c with wks := k } B W) => find_st hW hlts.2
        have d0 := hb_at hpb 0 rfl
        have d1 := hb_at hpb 1 rfl
        have HPB := Lib.hid hpb
        have HKA := Lib.hid hka
        clear hbp hpb hSt hka
        go_upto_region 9 with (fail)
        go_cut [9, 10] (fun p q wx => p = intV (B.r x) ∧ q = intV (B.r y) ∧ St { c with wks := k } B wx ∧ Kp c wr wx)
        case first =>
          go_region_law (first
            | (go_simp; go_at_call 55; (with_reducible refine HF1.out.mono ?_); rintro e w5 ⟨rfl, h5, k5⟩; have HS5 := Lib.hid h5; have HK5 := Lib.hid (HKA.out.trans ⟨k5.below, k5.size, k5.block⟩); have e1 := hb_at (k5.block _ _ HPB.out (by show wr.heap.size ≠ c.B; omega) (fun cs fr e => by injection e with _ e2 _; exact absurd e2 (by decide))) 1 rfl; clear h5 k5)
            | (go_simp; go_at_call 55; (with_reducible refine (HF2.out _ HS5.out).mono ?_); rintro e w6 ⟨rfl, h6, k6⟩; have HS6 := Lib.hid h6; have HK6 := Lib.hid (HK5.out.trans ⟨k6.below, k6.size, k6.block⟩); clear h6 k6))
          all_goals go_wp2
          all_goals go_meet
          all_goals exact ⟨rfl, rfl, HS6.out, HK6.out⟩
        case rest =>
          obtain ⟨rfl, rfl, hS6, hK6⟩ := hcut
          have HS6 := Lib.hid hS6
          have HK6 := Lib.hid hK6
          have hrow6 := HPOP.out.kp hK6 (by omega)
          have HROW6 := Lib.hid hrow6
          clear hS6 hK6 hrow6 HF1 HF2 HKA HPB d0 d1 HPOP t0 t1
          by_cases hxy : B.r x = B.r y
          · have he : (((B.r x : Nat) : Int) == ((B.r y : Nat) : Int)) = true := by simp [hxy]
            go_wp2
            obtain ⟨n', hn', hU⟩ := HW.out.go (.same hxy) HS6.out (by rw [hTT]; exact HROW6.out) (HW.out.kp.trans HK6.out) HW.out.k0 (Int.le_refl _)
            exact HLE.out _ _ n' (by rw [← HM.out, hn']; omega) ⟨_, _, _, hU⟩
          · have he : (((B.r x : Nat) : Int) == ((B.r y : Nat) : Int)) = false := by simp; omega
            have hO := HW.out.inv.ok
            have hk1 := HW.out.k1
            have hk0 := HW.out.k0
            have hBl := HW.out.lB
            obtain ⟨vv, L, rk, p1, p2, p3⟩ := HS6.out
            obtain ⟨X, hX⟩ := p2.lt hO hlts.1
            obtain ⟨Y, hY⟩ := p2.lt hO hlts.2
            have hX2 := p2.at hX
            have hY2 := p2.at hY
            obtain ⟨g, cap, rfl, hgB, hg0, hc1, hc2, s0, s1, s2, s3, s4, x0, x1, x2, x3, x4, x5, x6, x7, x8, hfz⟩ := p1.at hX
            obtain ⟨g', cap', e, _, _, _, _, _, _, _, _, _, y0, y1, y2, y3, y4, y5, y6, y7, y8, _⟩ := p1.at hY
            injection e with e1 e2 e3
            injection e1 with e1
            injection e1 with e1
            subst e1 e3
            have hlt1 : ((B.r x : Nat) : Int) < (L.length : Int) := by have := (List.getElem?_eq_some_iff.1 hX).1; omega
            have hlt2 : ((B.r y : Nat) : Int) < (L.length : Int) := by have := (List.getElem?_eq_some_iff.1 hY).1; omega
            obtain ⟨kqx, kcx, hkx, hkx2⟩ := p1.kid X (List.mem_of_getElem? hX)
            obtain ⟨kqy, kcy, hky, hky2⟩ := p1.kid Y (List.mem_of_getElem? hY)
            have HX := Lib.hid hX2
            have HY := Lib.hid hY2
            clear p1 p2 p3 hX hY hX2 hY2 s1 s2 s3 s4 x1 x2 x4 x5 x6 x7 x8 y1 y2 y4 y5 y6 y7 y8 hfz
            have hkdx : B.kd x = X.i.k := Abs.kd_some HX.out
            have hkdy : B.kd y = Y.i.k := Abs.kd_some HY.out
            have hnvB := Abs.nv_le B
            have hBlen : B.l.length = A.l.length := by rw [hBl]
            by_cases hvar : B.kd x = 1 ∨ B.kd y = 1
            · have HBD := Lib.hid (bind_any { c with wks := k } B wc (B.r x) (B.r y) hO HW.out.inv.fin HW.out.inv.like HS6.out (hO.lt x hlts.1) (hO.lt y hlts.2) (hO.idem x) (hO.idem y) hxy (by rw [Abs.kd_root hO, Abs.kd_root hO]; exact hvar) hk0 (by show k < _; omega) (by rw [hBl]; exact htot))
              have HV := Lib.hid hvar
              have FF : RowKit.Hid (∀ w7, Kp { c with wks := k } wc w7 → (B.Bad (B.turn (B.r x) (B.r y)).1 (B.turn (B.r x) (B.r y)).2 ∧ St { c with wks := k + 1 } B w7) → UniQ c A [.pr u v] o w (.returned (.bool false)) w7) := Lib.hid fun w7 hk7 hb7 => by
                have e := HW.out.run.stop (.bad hxy hvar hb7.1)
                subst e
                exact ⟨k + 1, by omega, by omega, (HW.out.kp.trans HK6.out).trans ⟨hk7.below, hk7.size, hk7.block⟩, rfl, B, _, HW.out.pth, .bad hxy hvar hb7.1, hb7.2⟩
              have FT : RowKit.Hid (∀ w7, Kp { c with wks := k } wc w7 → (¬ B.Bad (B.turn (B.r x) (B.r y)).1 (B.turn (B.r x) (B.r y)).2 ∧ St { c with wks := k + 1 } (B.bind (B.turn (B.r x) (B.r y)).1 (B.turn (B.r x) (B.r y)).2 (B.low (B.turn (B.r x) (B.r y)).2 (B.lv (B.turn (B.r x) (B.r y)).1))) w7) →
                  ∃ n' B' l' k', m0 = n' + 1 ∧ UI c A [.pr u v] o w (.slice (some ⟨gt, 0, none⟩) TT.length capt) w7 n' B' l' k') := Lib.hid fun w7 hk7 hb7 => by
                have hst := Abs.Step.bnd (l := l) hxy hvar hb7.1
                have hnv3 : (B.bind (B.turn (B.r x) (B.r y)).1 (B.turn (B.r x) (B.r y)).2 (B.low (B.turn (B.r x) (B.r y)).2 (B.lv (B.turn (B.r x) (B.r y)).1))).nv < B.nv := by
                  generalize et : B.turn (B.r x) (B.r y) = t
                  obtain ⟨a, b⟩ := t
                  obtain ⟨ra, rb, la, lb, hab, ka, _, _⟩ := Abs.turn_spec hO hlts.1 hlts.2 hxy hvar et
                  exact Abs.nv_bind hO ra rb la hab ka
                have hkc : Kp c wc w7 := ⟨hk7.below, hk7.size, hk7.block⟩
                obtain ⟨n', hn', hU⟩ := HW.out.go (k' := k + 1) hst hb7.2 (by rw [hTT]; exact HROW6.out.kp hkc (by omega)) ((HW.out.kp.trans HK6.out).trans hkc) (by omega) (by omega)
                exact ⟨n', _, _, _, hn', hU⟩
              clear hkdx hkdy
              by_cases h1 : X.i.k = 1
              · have ex : (X.i.k == 1) = true := by simpa using h1
                clear h1
                go_wp2_with (go_at_call 56; (with_reducible refine HBD.out.mono ?_); rintro e w7 ⟨r, rfl, hk7, ht, hf⟩; have HK7 := Lib.hid hk7; have HTT := Lib.hid ht; have HFF := Lib.hid hf; clear hk7 ht hf; cases r)
                · go_ret
                  exact FF.out _ HK7.out (HFF.out trivial)
                · obtain ⟨n', B', l', k', hn', hU⟩ := FT.out _ HK7.out (HTT.out trivial)
                  exact HLE.out _ _ n' (by rw [← HM.out, hn']; omega) ⟨_, _, _, hU⟩
              · have ex : (X.i.k == 1) = false := by simpa using h1
                have ey : (Y.i.k == 1) = true := by
                  have h9 : Y.i.k = 1 := by
                    rcases HV.out with h | h
                    · exact absurd ((Abs.kd_some HX.out).symm.trans h) h1
                    · exact (Abs.kd_some HY.out).symm.trans h
                  simpa using h9
                clear h1
                go_wp2_with (go_at_call 56; (with_reducible refine HBD.out.mono ?_); rintro e w7 ⟨r, rfl, hk7, ht, hf⟩; have HK7 := Lib.hid hk7; have HTT := Lib.hid ht; have HFF := Lib.hid hf; clear hk7 ht hf; cases r)
                · go_ret
                  exact FF.out _ HK7.out (HFF.out trivial)
                · obtain ⟨n', B', l', k', hn', hU⟩ := FT.out _ HK7.out (HTT.out trivial)
                  exact HLE.out _ _ n' (by rw [← HM.out, hn']; omega) ⟨_, _, _, hU⟩
            · have hnx : X.i.k ≠ 1 := fun h => hvar (.inl (hkdx.trans h))
              have hny : Y.i.k ≠ 1 := fun h => hvar (.inr (hkdy.trans h))
              have ex : (X.i.k == 1) = false := by simpa using hnx
              have ey : (Y.i.k == 1) = false := by simpa using hny
              have HNX := Lib.hid hnx
              have HNY := Lib.hid hny
              have HAL := Lib.hid (alike_st HS6.out HX.out HY.out)
              have hBB6 : c.B < wc.heap.size := HS6.out.lt.1
              clear hkdx hkdy hnx hny hvar
              have hxl : B.r x < A.l.length := by rw [← hBlen]; exact hO.lt x hlts.1
              have hbn := bits_neg (B.r x) (by omega)
              go_wp2_with (first
                | (go_at_call 57; (with_reducible refine HAL.out.mono ?_); rintro e w7 ⟨⟨r, rfl, hr7⟩, hb7⟩; have HR7 := Lib.hid hr7; have HB7 := Lib.hid hb7; clear hr7 hb7; cases r)
                | (at_builtin; refine (fun h : True → _ => h trivial) ?_))
              · go_ret
                have e := HW.out.run.stop (.clash hxy HX.out HY.out HNX.out HNY.out (fun h => by have := HR7.out.2 h; cases this))
                subst e
                exact ⟨k, hk0, by omega, (HW.out.kp.trans HK6.out).trans (Kp.of_below (by omega) HB7.out), rfl, B, _, HW.out.pth, .clash hxy HX.out HY.out HNX.out HNY.out (fun h => by have := HR7.out.2 h; cases this), HS6.out.below HB7.out⟩
              · intro _
                have hal := HR7.out.1 trivial
                have HALK := Lib.hid hal
                have hb8 := HB7.out.trans ((below_alloc w7 (.cells #[.int .i64 (-((B.r x : Nat) : Int) - 1), intV (B.r y)] 78)).mono HB7.out.size)
                have hk8 : Kp c wc (w7.alloc (.cells #[.int .i64 (-((B.r x : Nat) : Int) - 1), intV (B.r y)] 78)) := Kp.of_below (by omega) hb8
                have hr8 := HROW6.out.kp hk8 (by omega)
                obtain ⟨v9, w9, hrun, hr9, hg9, _⟩ := hr8.app (t := (-((B.r x : Nat) : Int) - 1, ((B.r y : Nat) : Int))) (g := w7.heap.size) (cc := 1) (by have := HW.out.kp.size; have := hk8.size; have := HK6.out.size; omega) (hb_at (hb_new w7 _) 0 rfl) (hb_at (hb_new w7 _) 1 rfl) (by omega)
                obtain ⟨q9, cap9, e9, _, _⟩ := hr9.shape
                rw [List.length_append] at e9
                have e9 : v9 = .slice q9 (TT.length + 1) cap9 := e9
                subst e9
                refine wpList_app rfl _ _ rfl rfl rfl rfl hrun ?_
                have hkw : Kp c w (w7.alloc (.cells #[.int .i64 (-((B.r x : Nat) : Int) - 1), intV (B.r y)] 78)) := (HW.out.kp.trans HK6.out).trans hk8
                have hwB : c.B < w.heap.size := by omega
                obtain ⟨hS9, hK9⟩ := St.grown (c := { c with wks := k }) (HS6.out.below hb8) ⟨hkw.below, hkw.size, hkw.block⟩ hr8 hg9 hwB
                have hK9' : Kp c w w9 := ⟨hK9.below, hK9.size, hK9.block⟩
                have HS9 := Lib.hid hS9
                have HK9 := Lib.hid hK9'
                have HR9 := Lib.hid hr9
                obtain ⟨gn, capn, nn, qx, kx, qy, ky, s0', hin, hjn, hn5, x3', y3', _, _, _⟩ := hS9.nd HX.out HY.out
                have hin2 : ((B.r x : Nat) : Int) < (nn : Int) := by omega
                have hlenXY : X.i.kids.length = Y.i.kids.length := HALK.out.2.2.2.2
                have hXk : X.i.kids.length ≤ 100000 := by
                  have h2 : X.i.kids.length + 1 ≤ (A.l.map fun x => x.kids.length + 1).sum := mem_le_sum (List.mem_map.2 ⟨X.i, by rw [← hBl]; exact List.mem_of_getElem? HX.out, rfl⟩)
                  omega
                have HAK := Lib.hid HALK.out
                clear hS9 hK9 hK9' hr9 hg9 hrun hr8 hk8 hb8 hkw s0 x0 y0 x3 y3 hal
                go_wp2
                go_loopw [7, 11] (fun t i wi => ∃ j : Nat, i = .int .i64 ((j : Int) - 1) ∧ j ≤ X.i.kids.length ∧ PRow w.heap.size wi t ((TT ++ [(-((B.r x : Nat) : Int) - 1, ((B.r y : Nat) : Int))]) ++ (((X.i.kids.zip Y.i.kids).drop j).map fun z => (((z.1 : Nat) : Int), ((z.2 : Nat) : Int))).reverse) ∧ St { c with wks := k } B wi ∧ Kp c w wi) (fun _ i _ => ((intOf i) + 1).toNat)
                case atStart => exact ⟨X.i.kids.length, by rw [hlenXY], Nat.le_refl _, by rw [List.drop_eq_nil_of_le (by rw [List.length_zip]; omega)]; simpa using HR9.out, HS9.out, HK9.out⟩
                case round =>
                  obtain ⟨j, hji, hjl, hrw, hsw, hkw⟩ := hrel
                  have HRW := Lib.hid hrw
                  have HSW := Lib.hid hsw
                  have HKW := Lib.hid hkw
                  cases j with
                  | zero =>
                    subst hji
                    clear hrw hsw hkw
                    have hst := Abs.Step.kids (l := l) hxy HX.out HY.out HNX.out HNY.out HAK.out
                    have hrowE : (((X.i.kids.zip Y.i.kids).map (fun z => Abs.Item.pr z.1 z.2) ++ .mk (B.r x) (B.r y) :: l).map code).reverse = (TT ++ [(-((B.r x : Nat) : Int) - 1, ((B.r y : Nat) : Int))]) ++ (((X.i.kids.zip Y.i.kids).drop 0).map fun z => (((z.1 : Nat) : Int), ((z.2 : Nat) : Int))).reverse := by
                      rw [← hTT]
                      simp [code, List.map_append, List.reverse_append, Function.comp_def]
                    have hrw0 := HRW.out
                    rw [← hrowE] at hrw0
                    obtain ⟨n', hn', hU⟩ := HW.out.go hst HSW.out hrw0 HKW.out HW.out.k0 (Int.le_refl _)
                    have HU := Lib.hid hU
                    clear hst hrowE hrw0 hU
                    go_wp2
                    exact HLE.out _ _ n' (by rw [← HM.out, hn']; omega) ⟨_, _, _, HU.out⟩
                  | succ j =>
                    have hij : (((j + 1 : Nat) : Int) - 1) = (j : Int) := by omega
                    rw [hij] at hji
                    subst hji
                    obtain ⟨gz, capz, nz, qz, kz, q2, k2, z0, hiz, hjz, hz5, zx, zy, zkx, zky, zcs, zfr, zblk⟩ := hsw.nd HX.out HY.out
                    obtain ⟨a0, ha0⟩ : ∃ a0, X.i.kids[j]? = some a0 := ⟨X.i.kids[j]'(by omega), List.getElem?_eq_getElem _⟩
                    obtain ⟨b0, hb0'⟩ : ∃ b0, Y.i.kids[j]? = some b0 := ⟨Y.i.kids[j]'(by omega), List.getElem?_eq_getElem _⟩
                    obtain ⟨gx1, ox1, xcs, xfr, rfl, xblk, cx1⟩ := zkx j a0 ha0
                    obtain ⟨gy1, oy1, ycs, yfr, rfl, yblk, cy1⟩ := zky j b0 hb0'
                    have hjx : (j : Int) < (X.i.kids.length : Int) := by omega
                    have hjy : (j : Int) < (Y.i.kids.length : Int) := by omega
                    have hiz2 : ((B.r x : Nat) : Int) < (nz : Int) := by omega
                    have hjz2 : ((B.r y : Nat) : Int) < (nz : Int) := by omega
                    have HA0 := Lib.hid ha0
                    have HB0 := Lib.hid hb0'
                    have hzd : (X.i.kids.zip Y.i.kids).drop j = (a0, b0) :: (X.i.kids.zip Y.i.kids).drop (j + 1) := by
                      have h1 : (X.i.kids.zip Y.i.kids)[j]? = some (a0, b0) := by rw [List.getElem?_zip_eq_some]; exact ⟨ha0, hb0'⟩
                      have h2 := (List.getElem?_eq_some_iff.1 h1)
                      rw [List.drop_eq_getElem_cons h2.1, h2.2]
                    have HZD := Lib.hid hzd
                    have hgxl := block_lt_of_cell cx1
                    have hgyl := block_lt_of_cell cy1
                    have hgzl := block_lt_of_cell zx
                    have hBl2 := block_lt_of_cell z0
                    have hpl : ((TT ++ [(-((B.r x : Nat) : Int) - 1, ((B.r y : Nat) : Int))]) ++ (((X.i.kids.zip Y.i.kids).drop (j + 1)).map fun z => (((z.1 : Nat) : Int), ((z.2 : Nat) : Int))).reverse).length ≤ 1000000 := by
                      simp only [List.length_append, List.length_reverse, List.length_map, List.length_drop, List.length_zip, List.length_singleton]
                      omega
                    have HPL := Lib.hid hpl
                    have hwk := hkw.size
                    clear hrw hsw hkw zkx zky ha0 hb0' hzd hpl
                    generalize hPS : (TT ++ [(-((B.r x : Nat) : Int) - 1, ((B.r y : Nat) : Int))]) ++ (((X.i.kids.zip Y.i.kids).drop (j + 1)).map fun z => (((z.1 : Nat) : Int), ((z.2 : Nat) : Int))).reverse = PS at HRW HPL
                    go_upto_region 14 with (fail)
                    refine wp_region_held_drew (S := (fun w' => w'.cell? ⟨c.B, 0, none⟩ = some (.slice (some ⟨gz, 0, none⟩) nz capz) ∧ w'.cell? ⟨gz, B.r x * 9 + 3, none⟩ = some (.slice (some ⟨gx1, ox1, none⟩) X.i.kids.length kz) ∧ w'.cell? ⟨gz, B.r y * 9 + 3, none⟩ = some (.slice (some ⟨gy1, oy1, none⟩) Y.i.kids.length k2) ∧ w'.cell? ⟨gx1, ox1 + j, none⟩ = some (intV a0) ∧ w'.cell? ⟨gy1, oy1 + j, none⟩ = some (intV b0))) (by kernel_rfl) (by exact ⟨z0, zx, zy, cx1, cy1⟩) (fun hHeld => ?_)
                    refine wpAnyH_take (i := 0) (oi := ⟨some 75, _, _, _, _, _⟩) (v := ?_) rfl (by kernel_rfl) (by kernel_rfl) (by kernel_rfl) (fun _ _ _ h => h) (Or.inl ⟨by rfl, ?_⟩) (by assumption) ?_
                    rotate_left
                    focus (intro w hSw; (try dsimp only at hSw); go_simp; first | done | with_reducible rfl)
                    try simp only [Act.put, List.setIfInBounds_toArray, List.set_cons_zero, List.set_cons_succ]
                    refine wpAnyH_take (i := 1) (oi := ⟨some 76, _, _, _, _, _⟩) (v := ?_) rfl (by kernel_rfl) (by kernel_rfl) (by kernel_rfl) (fun _ _ _ h => h) (Or.inl ⟨by rfl, ?_⟩) (by assumption) ?_
                    rotate_left
                    focus (intro w hSw; (try dsimp only at hSw); go_simp; first | done | with_reducible rfl)
                    try simp only [Act.put, List.setIfInBounds_toArray, List.set_cons_zero, List.set_cons_succ]
                    refine wpAnyH_take (i := 2) (oi := ⟨some 77, _, _, _, _, _⟩) (v := ?_) rfl (by kernel_rfl) (by kernel_rfl) (by kernel_rfl) (fun _ _ _ h => h) (Or.inl ⟨by rfl, ?_⟩) (by assumption) ?_
                    rotate_left
                    focus (intro w hSw; (try dsimp only at hSw); go_simp; first | done | with_reducible rfl)
                    try simp only [Act.put, List.setIfInBounds_toArray, List.set_cons_zero, List.set_cons_succ]
                    refine wpAnyH_take (i := 3) (oi := ⟨some 78, _, _, _, _, _⟩) (v := ?_) rfl (by kernel_rfl) (by kernel_rfl) (by kernel_rfl) (fun _ _ _ h => h) (Or.inl ⟨by rfl, ?_⟩) (by assumption) ?_
                    rotate_left
                    focus (intro w hSw; (try dsimp only at hSw); go_simp; first | done | with_reducible rfl)
                    try simp only [Act.put, List.setIfInBounds_toArray, List.set_cons_zero, List.set_cons_succ]
                    refine wpAnyH_take (i := 4) (oi := ⟨some 79, _, _, _, _, _⟩) (v := ?_) rfl (by kernel_rfl) (by kernel_rfl) (by kernel_rfl) (fun _ _ _ h => h) (Or.inl ⟨by rfl, ?_⟩) (by assumption) ?_
                    rotate_left
                    focus (intro w hSw; (try dsimp only at hSw); go_simp; first | done | with_reducible rfl)
                    try simp only [Act.put, List.setIfInBounds_toArray, List.set_cons_zero, List.set_cons_succ]
                    refine wpAnyH_take (i := 5) (oi := ⟨some 80, _, _, _, _, _⟩) (v := ?_) rfl (by kernel_rfl) (by kernel_rfl) (by kernel_rfl) (fun _ _ _ h => h) (Or.inl ⟨by rfl, ?_⟩) (by assumption) ?_
                    rotate_left
                    focus (intro w hSw; (try dsimp only at hSw); go_simp; first | done | with_reducible rfl)
                    try simp only [Act.put, List.setIfInBounds_toArray, List.set_cons_zero, List.set_cons_succ]
                    refine wpAnyH_take (i := 6) (oi := ⟨some 81, _, _, _, _, _⟩) (v := ?_) rfl (by kernel_rfl) (by kernel_rfl) (by kernel_rfl) (fun _ _ _ h => h) (Or.inl ⟨by rfl, ?_⟩) (by assumption) ?_
                    rotate_left
                    focus (intro w hSw; (try dsimp only at hSw); go_simp; first | done | with_reducible rfl)
                    try simp only [Act.put, List.setIfInBounds_toArray, List.set_cons_zero, List.set_cons_succ]
                    refine wpAnyH_take (i := 7) (oi := ⟨some 82, _, _, _, _, _⟩) (v := ?_) rfl (by kernel_rfl) (by kernel_rfl) (by kernel_rfl) (fun _ _ _ h => h) (Or.inl ⟨by rfl, ?_⟩) (by assumption) ?_
                    rotate_left
                    focus (intro w hSw; (try dsimp only at hSw); go_simp; first | done | with_reducible rfl)
                    try simp only [Act.put, List.setIfInBounds_toArray, List.set_cons_zero, List.set_cons_succ]
                    refine wpAnyH_take (i := 8) (oi := ⟨some 83, _, _, _, _, _⟩) (v := ?_) rfl (by kernel_rfl) (by kernel_rfl) (by kernel_rfl) (fun _ _ _ h => h) (Or.inl ⟨by rfl, ?_⟩) (by assumption) ?_
                    rotate_left
                    focus (intro w hSw; (try dsimp only at hSw); go_simp; first | done | with_reducible rfl)
                    try simp only [Act.put, List.setIfInBounds_toArray, List.set_cons_zero, List.set_cons_succ]
                    refine wpAnyH_take (i := 9) (oi := ⟨some 84, _, _, _, _, _⟩) (v := ?_) rfl (by kernel_rfl) (by kernel_rfl) (by kernel_rfl) (fun _ _ _ h => h) (Or.inl ⟨by rfl, ?_⟩) (by assumption) ?_
                    rotate_left
                    focus (intro w hSw; (try dsimp only at hSw); go_simp; first | done | with_reducible rfl)
                    try simp only [Act.put, List.setIfInBounds_toArray, List.set_cons_zero, List.set_cons_succ]
                    refine wpAnyH_take (i := 10) (oi := ⟨some 85, _, _, _, _, _⟩) (v := ?_) rfl (by kernel_rfl) (by kernel_rfl) (by kernel_rfl) (fun _ _ _ h => h) (Or.inl ⟨by rfl, ?_⟩) (by assumption) ?_
                    rotate_left
                    focus (intro w hSw; (try dsimp only at hSw); go_simp; first | done | with_reducible rfl)
                    try simp only [Act.put, List.setIfInBounds_toArray, List.set_cons_zero, List.set_cons_succ]
                    refine wpAnyH_take (i := 11) (oi := ⟨some 86, _, _, _, _, _⟩) (v := ?_) rfl (by kernel_rfl) (by kernel_rfl) (by kernel_rfl) (fun _ _ _ h => h) (Or.inl ⟨by rfl, ?_⟩) (by assumption) ?_
                    rotate_left
                    focus (intro w hSw; (try dsimp only at hSw); go_simp; first | done | with_reducible rfl)
                    try simp only [Act.put, List.setIfInBounds_toArray, List.set_cons_zero, List.set_cons_succ]
                    refine wpAnyH_take (i := 12) (oi := ⟨some 87, _, _, _, _, _⟩) (v := ?_) rfl (by kernel_rfl) (by kernel_rfl) (by kernel_rfl) (fun _ _ _ h => h) (Or.inl ⟨by rfl, ?_⟩) (by assumption) ?_
                    rotate_left
                    focus (intro w hSw; (try dsimp only at hSw); go_simp; first | done | with_reducible rfl)
                    try simp only [Act.put, List.setIfInBounds_toArray, List.set_cons_zero, List.set_cons_succ]
                    refine wpAnyH_take (i := 13) (oi := ⟨some 88, _, _, _, _, _⟩) (v := ?_) rfl (by kernel_rfl) (by kernel_rfl) (by kernel_rfl) (fun _ _ _ h => h) (Or.inl ⟨by rfl, ?_⟩) (by assumption) ?_
                    rotate_left
                    focus (intro w hSw; (try dsimp only at hSw); go_simp; first | done | with_reducible rfl)
                    try simp only [Act.put, List.setIfInBounds_toArray, List.set_cons_zero, List.set_cons_succ]
                    refine wpAnyH_take (i := 14) (oi := ⟨some 89, _, _, _, _, _⟩) (v := ?_) rfl (by kernel_rfl) (by kernel_rfl) (by kernel_rfl) (fun _ _ _ h => h) (Or.inl ⟨by rfl, ?_⟩) (by assumption) ?_
                    rotate_left
                    focus (intro w hSw; (try dsimp only at hSw); go_simp; first | done | with_reducible rfl)
                    try simp only [Act.put, List.setIfInBounds_toArray, List.set_cons_zero, List.set_cons_succ]
                    refine wpAnyH_take (i := 15) (oi := ⟨some 90, _, _, _, _, _⟩) (v := ?_) rfl (by kernel_rfl) (by kernel_rfl) (by kernel_rfl) (fun _ _ _ h => h) (Or.inl ⟨by rfl, ?_⟩) (by assumption) ?_
                    rotate_left
                    focus (intro w hSw; (try dsimp only at hSw); go_simp; first | done | with_reducible rfl)
                    try simp only [Act.put, List.setIfInBounds_toArray, List.set_cons_zero, List.set_cons_succ]
                    refine wpAnyH_take (i := 16) (oi := ⟨some 91, _, _, _, _, _⟩) (v := ?_) rfl (by kernel_rfl) (by kernel_rfl) (by kernel_rfl) (fun _ _ _ h => h) (Or.inl ⟨by rfl, ?_⟩) (by assumption) ?_
                    rotate_left
                    focus (intro w hSw; (try dsimp only at hSw); go_simp; first | done | with_reducible rfl)
                    try simp only [Act.put, List.setIfInBounds_toArray, List.set_cons_zero, List.set_cons_succ]
                    refine wpAnyH_take (i := 17) (oi := ⟨some 92, _, _, _, _, _⟩) (v := ?_) rfl (by kernel_rfl) (by kernel_rfl) (by kernel_rfl) (fun _ _ _ h => h) (Or.inl ⟨by rfl, ?_⟩) (by assumption) ?_
                    rotate_left
                    focus (intro w hSw; (try dsimp only at hSw); go_simp; first | done | with_reducible rfl)
                    try simp only [Act.put, List.setIfInBounds_toArray, List.set_cons_zero, List.set_cons_succ]
                    refine wpAnyH_take (i := 18) (oi := ⟨some 93, _, _, _, _, _⟩) (v := ?_) rfl (by kernel_rfl) (by kernel_rfl) (by kernel_rfl) (fun _ _ _ h => h) (Or.inl ⟨by rfl, ?_⟩) (by assumption) ?_
                    rotate_left
                    focus (intro w hSw; (try dsimp only at hSw); go_simp; first | done | with_reducible rfl)
                    try simp only [Act.put, List.setIfInBounds_toArray, List.set_cons_zero, List.set_cons_succ]
                    refine wpAnyH_take (i := 19) (oi := ⟨some 94, _, _, _, _, _⟩) (v := ?_) rfl (by kernel_rfl) (by kernel_rfl) (by kernel_rfl) (fun _ _ _ h => h) (Or.inl ⟨by rfl, ?_⟩) (by assumption) ?_
                    rotate_left
                    focus (intro w hSw; (try dsimp only at hSw); go_simp; first | done | with_reducible rfl)
                    try simp only [Act.put, List.setIfInBounds_toArray, List.set_cons_zero, List.set_cons_succ]
                    refine wpAnyH_take (i := 20) (oi := ⟨some 95, _, _, _, _, _⟩) (v := ?_) rfl (by kernel_rfl) (by kernel_rfl) (by kernel_rfl) (fun _ _ _ h => h) (Or.inl ⟨by rfl, ?_⟩) (by assumption) ?_
                    rotate_left
                    focus (intro w hSw; (try dsimp only at hSw); go_simp; first | done | with_reducible rfl)
                    try simp only [Act.put, List.setIfInBounds_toArray, List.set_cons_zero, List.set_cons_succ]
                    refine wpAnyH_take (i := 21) (oi := ⟨some 96, _, _, _, _, _⟩) (v := ?_) rfl (by kernel_rfl) (by kernel_rfl) (by kernel_rfl) (fun _ _ _ h => h) (Or.inl ⟨by rfl, ?_⟩) (by assumption) ?_
                    rotate_left
                    focus (intro w hSw; (try dsimp only at hSw); go_simp; first | done | with_reducible rfl)
                    try simp only [Act.put, List.setIfInBounds_toArray, List.set_cons_zero, List.set_cons_succ]
                    refine wpAnyH_take (i := 22) (oi := ⟨some 97, _, _, _, _, _⟩) (v := ?_) rfl (by kernel_rfl) (by kernel_rfl) (by kernel_rfl) (fun _ _ _ h => h) (Or.inl ⟨by rfl, ?_⟩) (by assumption) ?_
                    rotate_left
                    focus (intro w hSw; (try dsimp only at hSw); go_simp; first | done | with_reducible rfl)
                    try simp only [Act.put, List.setIfInBounds_toArray, List.set_cons_zero, List.set_cons_succ]
                    refine wpAnyH_take (i := 23) (oi := ⟨some 98, _, _, _, _, _⟩) (v := ?_) rfl (by kernel_rfl) (by kernel_rfl) (by kernel_rfl) (fun _ _ _ h => h) (Or.inl ⟨by rfl, ?_⟩) (by assumption) ?_
                    rotate_left
                    focus (intro w hSw; (try dsimp only at hSw); go_simp; first | done | with_reducible rfl)
                    try simp only [Act.put, List.setIfInBounds_toArray, List.set_cons_zero, List.set_cons_succ]
                    refine wpAnyH_ready (rs := [24]) (by kernel_rfl) (by simp) ?_
                    refine AllReadyH.cons (o := ⟨some 99, _, _, _, _, _⟩) rfl (fun K hK => ?_) AllReadyH.nil
                    go_simp
                    have HBA := Lib.hid (below_alloc wr.drew (.cells #[intV a0, intV b0] 78))
                    go_wp2_with fail
                    refine hK.out _ _ (by exact ⟨keep_cell HBA.out hHeld.1, keep_cell HBA.out hHeld.2.1, keep_cell HBA.out hHeld.2.2.1, keep_cell HBA.out hHeld.2.2.2.1, keep_cell HBA.out hHeld.2.2.2.2⟩) (fun hNew => ?_)
                    clear hK K
                    have hHeld := hNew
                    try simp only [Act.put, List.setIfInBounds_toArray, List.set_cons_zero, List.set_cons_succ]
                    refine wpAnyH_ready (rs := [25]) (by kernel_rfl) (by simp) ?_
                    refine AllReadyH.cons (o := ⟨some 100, _, _, _, _, _⟩) rfl (fun K hK => ?_) AllReadyH.nil
                    refine step_pair rfl (.tmp 75) (.tmp 99) rfl rfl (t := (((a0 : Nat) : Int), ((b0 : Nat) : Int))) (own_kept HRW.out (fun g y _ hy => hb_alloc hy _)) (Nat.le_trans hwk (below_alloc _ _).size) rfl rfl (hb_at (hb_new wr _) 0 rfl) (hb_at (hb_new wr _) 1 rfl) HPL.out ?_
                    intro q5 cap5 w5 HP5 HG5
                    have hkeep : _ ∧ _ ∧ _ ∧ _ ∧ _ := ⟨cell_grown HG5.out hHeld.1 (fun e => by have := (HRW.out.blk _ e.symm).1; omega), cell_grown HG5.out hHeld.2.1 (fun e => by obtain ⟨_, cs, h2⟩ := HRW.out.blk _ e.symm; exact type_ne zblk h2 (by decide) rfl), cell_grown HG5.out hHeld.2.2.1 (fun e => by obtain ⟨_, cs, h2⟩ := HRW.out.blk _ e.symm; exact type_ne zblk h2 (by decide) rfl), cell_grown HG5.out hHeld.2.2.2.1 (fun e => by obtain ⟨_, cs, h2⟩ := HRW.out.blk _ e.symm; exact type_ne xblk h2 (by decide) rfl), cell_grown HG5.out hHeld.2.2.2.2 (fun e => by obtain ⟨_, cs, h2⟩ := HRW.out.blk _ e.symm; exact type_ne yblk h2 (by decide) rfl)⟩
                    refine hK.out _ _ (by exact hkeep) (fun hNew => ?_)
                    clear hK K
                    have hHeld := hNew
                    try simp only [Act.put, List.setIfInBounds_toArray, List.set_cons_zero, List.set_cons_succ]
                    refine wpAnyH_take (i := 26) (oi := ⟨some 7, _, _, _, _, _⟩) (v := ?_) rfl (by kernel_rfl) (by kernel_rfl) (by kernel_rfl) (fun _ _ _ h => h) (Or.inl ⟨by rfl, ?_⟩) (by assumption) ?_
                    rotate_left
                    focus (intro w hSw; (try dsimp only at hSw); go_simp; first | done | with_reducible rfl)
                    try simp only [Act.put, List.setIfInBounds_toArray, List.set_cons_zero, List.set_cons_succ]
                    refine wpAnyH_done (by kernel_rfl) ?_ _
                    clear hHeld hkeep
                    go_wp2
                    have hbx : c.b0 ≤ wr.heap.size := by omega
                    have hkx : Kp { c with wks := k } w wr := ⟨HKW.out.below, HKW.out.size, HKW.out.block⟩
                    obtain ⟨g1, g2⟩ := St.grown (c := { c with wks := k }) (w := w) (HSW.out.below (below_alloc _ _).drew) (hkx.trans (Kp.of_below hbx (below_alloc _ _).drew)) (own_kept HRW.out (fun g y _ hy => hb_alloc hy _)) HG5.out hwB
                    have e : (TT ++ [(-((B.r x : Nat) : Int) - 1, ((B.r y : Nat) : Int))]) ++ (((X.i.kids.zip Y.i.kids).drop j).map fun z => (((z.1 : Nat) : Int), ((z.2 : Nat) : Int))).reverse = PS ++ [(((a0 : Nat) : Int), ((b0 : Nat) : Int))] := by
                      rw [HZD.out, ← hPS]
                      simp
                    exact ⟨⟨j, rfl, by omega, by rw [e]; exact HP5.out, g1, ⟨g2.below, g2.size, g2.block⟩⟩, by simp [intOf]⟩
end Go.Proofs.YtncebhddcokkoaaDoor
/- Terms come into a store: what is kept, and what is there; a variable more. -/
namespace Go.Proofs.YtncebhddcokkoaaDoor
open Go.RowKit
set_option linter.unusedSimpArgs false
set_option linter.unusedVariables false
/-- A type, as the document's statements know them. -/
inductive Typ : Tm → Prop
  | var (s : ByteArray) : Typ (vN s)
  | con {k : Int} {p n : ByteArray} {l : List Tm} (hk : k = 2 ∨ k = 3 ∨ k = 4) (h : ∀ x ∈ l, Typ x) : Typ (.mk k p n 0 l)
theorem Typ.tyy {t : Tm} (h : Typ t) : Tyy t := by
  induction h with
  | var s => exact .var s
  | con hk h ih => exact .con (by omega) ih
theorem Typ.inv {t : Tm} (h : Typ t) : ∀ {k N : Int} {p n : ByteArray} {l : List Tm}, t = .mk k p n N l → (k = 1 ∧ p = ⟨#[]⟩ ∧ N = 0 ∧ l = []) ∨ ((k = 2 ∨ k = 3 ∨ k = 4) ∧ N = 0 ∧ ∀ x ∈ l, Typ x) := by
  cases h with
  | var s => intro k N p n l e; injection e with e1 e2 e3 e4 e5; exact .inl ⟨e1.symm, e2.symm, e4.symm, e5.symm⟩
  | con hk h => intro k N p n l e; injection e with e1 e2 e3 e4 e5; subst e1 e2 e3 e4 e5; exact .inr ⟨hk, rfl, h⟩
/-- All stays but a store's own, and a map. -/
structure KpM (c : Cfg) (M : Nat) (w w' : World) : Prop where
  below : Below c.b0 w w'
  size : w.heap.size ≤ w'.heap.size
  block : ∀ (k : Nat) (x : Obj), w.heap[k]? = some x → k ≠ c.B → k ≠ M → (∀ cs fr, x ≠ .cells cs 90 fr) → w'.heap[k]? = some x
theorem KpM.refl (c : Cfg) (M : Nat) (w : World) : KpM c M w w := ⟨Below.refl _ _, Nat.le_refl _, fun _ _ h _ _ _ => h⟩
theorem KpM.trans {c : Cfg} {M : Nat} {w w1 w2 : World} (h : KpM c M w w1) (k : KpM c M w1 w2) : KpM c M w w2 :=
  ⟨h.below.trans k.below, Nat.le_trans h.size k.size, fun g x h1 h2 h4 h3 => k.block g x (h.block g x h1 h2 h4 h3) h2 h4 h3⟩
theorem Kp.m {c : Cfg} {M : Nat} {w w' : World} (h : Kp c w w') : KpM c M w w' := ⟨h.below, h.size, fun g x h1 h2 _ h3 => h.block g x h1 h2 h3⟩
theorem KpM.of_below {c : Cfg} {M : Nat} {w w' : World} (hb : c.b0 ≤ w.heap.size) (h : Below w.heap.size w w') : KpM c M w w' := (Kp.of_below hb h).m
theorem KpM.kept {c : Cfg} {M b : Nat} {w w' : World} {cs : Array Value} {t : TypeId} {fr : Nat × Nat} (h : KpM c M w w') (hb : w.heap[b]? = some (.cells cs t fr)) (h1 : b ≠ c.B) (h2 : b ≠ M) (h3 : t ≠ 90) : w'.heap[b]? = some (.cells cs t fr) :=
  h.block b _ hb h1 h2 (fun cs' fr' e => by injection e with _ e _; exact h3 e)
theorem KpM.of_turned {c : Cfg} {M : Nat} {w w' : World} (ht : w.mapTurned w' M) (hM : c.b0 ≤ M) (hb : c.b0 ≤ w.heap.size) : KpM c M w w' :=
  ⟨(Below.refl _ _).grown ht.grown hb (fun k hk => by cases hk; exact hM), ht.grown.size, fun g x h1 _ h2 _ => hb_grown h1 ht.grown (fun e => h2 (Option.some.inj e))⟩
/-- A store is cells alone. -/
theorem St.cells {c : Cfg} {A : Abs} {w w' : World} (h : St c A w) (hk : ∀ (g : Nat) (cs : Array Value) (t : TypeId) (fr : Nat × Nat), w.heap[g]? = some (.cells cs t fr) → w'.heap[g]? = some (.cells cs t fr)) : St c A w' := by
  obtain ⟨v, L, rk, p1, p2, p3⟩ := h
  refine ⟨v, L, rk, ⟨p1.hb, p1.ne, hk _ _ _ _ p1.blk, ?_, fun x hx => ?_, p1.few⟩, p2, p3⟩
  · rcases p1.row with h1 | ⟨g, cap, cur, h1, h2, h3, h4⟩
    · exact .inl h1
    · exact .inr ⟨g, cap, cur, h1, h2, hk _ _ _ _ h3, h4⟩
  · obtain ⟨q, cc, h1, h2⟩ := p1.kid x hx
    refine ⟨q, cc, h1, ?_⟩
    rcases h2 with h2 | ⟨g, o, cs, fr, e, hg, hB, hc⟩
    · exact .inl h2
    · exact .inr ⟨g, o, cs, fr, e, hk _ _ _ _ hg, hB, hc⟩
/-- None of a store's rows of Kids lies in these blocks. -/
def Avd (X : Nat → Prop) (L : List Nd) : Prop := ∀ x ∈ L, x.i.kids ≠ [] → ∀ g o n cc, x.ks = .slice (some ⟨g, o, none⟩) n cc → ¬ X g
def StA (X : Nat → Prop) (c : Cfg) (A : Abs) (w : World) : Prop := ∃ v L rk, StL c v L w ∧ Rep rk L A ∧ Ex c L A ∧ Avd X L
theorem StA.st {X : Nat → Prop} {c : Cfg} {A : Abs} {w : World} (h : StA X c A w) : St c A w := by
  obtain ⟨v, L, rk, h1, h2, h3, _⟩ := h
  exact ⟨v, L, rk, h1, h2, h3⟩
theorem StA.below {X : Nat → Prop} {c : Cfg} {A : Abs} {w w' : World} (h : StA X c A w) (hb : Below w.heap.size w w') : StA X c A w' := by
  obtain ⟨v, L, rk, h1, h2, h3, h4⟩ := h
  exact ⟨v, L, rk, h1.below hb, h2, h3, h4⟩
theorem StA.weak {X Y : Nat → Prop} {c : Cfg} {A : Abs} {w : World} (h : StA X c A w) (hXY : ∀ g, Y g → X g) : StA Y c A w := by
  obtain ⟨v, L, rk, h1, h2, h3, h4⟩ := h
  exact ⟨v, L, rk, h1, h2, h3, fun x hx hne g o n cc e hy => h4 x hx hne g o n cc e (hXY g hy)⟩
theorem StL.cells {c : Cfg} {v : Value} {L : List Nd} {w w' : World} (p1 : StL c v L w) (hk : ∀ (g : Nat) (cs : Array Value) (t : TypeId) (fr : Nat × Nat), w.heap[g]? = some (.cells cs t fr) → w'.heap[g]? = some (.cells cs t fr)) : StL c v L w' := by
  refine ⟨p1.hb, p1.ne, hk _ _ _ _ p1.blk, ?_, fun x hx => ?_, p1.few⟩
  · rcases p1.row with h1 | ⟨g, cap, cur, h1, h2, h3, h4⟩
    · exact .inl h1
    · exact .inr ⟨g, cap, cur, h1, h2, hk _ _ _ _ h3, h4⟩
  · obtain ⟨q, cc, h1, h2⟩ := p1.kid x hx
    refine ⟨q, cc, h1, ?_⟩
    rcases h2 with h2 | ⟨g, o, cs, fr, e, hg, hB, hc⟩
    · exact .inl h2
    · exact .inr ⟨g, o, cs, fr, e, hk _ _ _ _ hg, hB, hc⟩
theorem StA.cells {X : Nat → Prop} {c : Cfg} {A : Abs} {w w' : World} (h : StA X c A w) (hk : ∀ (g : Nat) (cs : Array Value) (t : TypeId) (fr : Nat × Nat), w.heap[g]? = some (.cells cs t fr) → w'.heap[g]? = some (.cells cs t fr)) : StA X c A w' := by
  obtain ⟨v, L, rk, h1, h2, h3, h4⟩ := h
  exact ⟨v, L, rk, h1.cells hk, h2, h3, h4⟩
theorem StA.cellsB {X : Nat → Prop} {c : Cfg} {A : Abs} {w w' : World} (h : StA X c A w) (hk : ∀ (g : Nat) (cs : Array Value) (t : TypeId) (fr : Nat × Nat), w.heap[g]? = some (.cells cs t fr) → (g = c.B ∨ t = 90 ∨ t = 3) → w'.heap[g]? = some (.cells cs t fr)) : StA X c A w' := by
  obtain ⟨v, L, rk, p1, h2, h3, h4⟩ := h
  refine ⟨v, L, rk, ⟨p1.hb, p1.ne, hk _ _ _ _ p1.blk (.inl rfl), ?_, fun x hx => ?_, p1.few⟩, h2, h3, h4⟩
  · rcases p1.row with h1 | ⟨g, cap, cur, h1, h2, h3, h4⟩
    · exact .inl h1
    · exact .inr ⟨g, cap, cur, h1, h2, hk _ _ _ _ h3 (.inr (.inl rfl)), h4⟩
  · obtain ⟨q, cc, h1, h2⟩ := p1.kid x hx
    refine ⟨q, cc, h1, ?_⟩
    rcases h2 with h2 | ⟨g, o, cs, fr, e, hg, hB, hc⟩
    · exact .inl h2
    · exact .inr ⟨g, o, cs, fr, e, hk _ _ _ _ hg (.inr (.inr rfl)), hB, hc⟩
/-- A new block is none of theirs. -/
theorem StA.add {X : Nat → Prop} {c : Cfg} {A : Abs} {w w' : World} (h : StA X c A w) (hb : Below w.heap.size w w') {n : Nat} (hn : w.heap.size ≤ n) : StA (fun g => X g ∨ g = n) c A w' := by
  obtain ⟨v, L, rk, h1, h2, h3, h4⟩ := h
  refine ⟨v, L, rk, h1.below hb, h2, h3, fun x hx hne g o m cc e hy => ?_⟩
  rcases hy with hy | rfl
  · exact h4 x hx hne g o m cc e hy
  · obtain ⟨q, c', e', hk⟩ := h1.kid x hx
    rw [e] at e'
    injection e' with e1 e2 _
    subst e1
    rcases hk with hk | ⟨g', o', cs, fr, e3, hg, _⟩
    · exact hne hk
    · injection e3 with e3
      injection e3 with e3
      subst e3
      have := hb_lt hg
      omega
/-- A cell of such a block is stored. -/
theorem StA.put {X : Nat → Prop} {c : Cfg} {A : Abs} {w : World} (h : StA X c A w) {n : Nat} (hn : X n) {cs : Array Value} {fr : Nat × Nat} (hc : w.heap[n]? = some (.cells cs 3 fr)) (hB : n ≠ c.B) (i : Nat) (u : Value) : StA X c A (w.setCell ⟨n, i, none⟩ u) := by
  obtain ⟨v, L, rk, p1, h2, h3, h4⟩ := h
  refine ⟨v, L, rk, ⟨p1.hb, p1.ne, hb_set_other p1.blk u (fun e => hB e.symm), ?_, fun x hx => ?_, p1.few⟩, h2, h3, h4⟩
  · rcases p1.row with h1 | ⟨g, cap, cur, h1, h2, h3, h4⟩
    · exact .inl h1
    · exact .inr ⟨g, cap, cur, h1, h2, hb_set_other h3 u (fun e => type_ne h3 hc (by decide) e), h4⟩
  · obtain ⟨q, cc, e1, e2⟩ := p1.kid x hx
    refine ⟨q, cc, e1, ?_⟩
    by_cases hne : x.i.kids = []
    · exact .inl hne
    rcases e2 with e2 | ⟨g, o, cs', fr', e, hg, hB', hc'⟩
    · exact .inl e2
    · refine .inr ⟨g, o, cs', fr', e, hb_set_other hg u (fun e5 => ?_), hB', hc'⟩
      have e5 : g = n := e5
      subst e5
      exact h4 x hx hne g o _ _ (by rw [e1, e]) hn
theorem turned_cells {M : Nat} {w w' : World} (ht : w.mapTurned w' M) (g : Nat) (cs : Array Value) (t : TypeId) (fr : Nat × Nat) (h : w.heap[g]? = some (.cells cs t fr)) : w'.heap[g]? = some (.cells cs t fr) := by
  refine hb_grown h ht.grown (fun e => ?_)
  obtain rfl := Option.some.inj e
  obtain ⟨es, cl, _, _, hm, _⟩ := ht
  rw [hm] at h
  cases h
theorem inN_iffL {n : ByteArray} {ns : List ByteArray} : inN n ns = true ↔ n ∈ ns := by
  unfold inN
  simp
namespace Abs
theorem flat_mod_app {l m : List Inf} {θ : Nat → Tm} (h : (flat (l ++ m)).Mod θ) : (flat l).Mod θ :=
  ⟨fun i hi => rfl, fun i x hx => h.2 i x (by have hx : l[i]? = some x := hx; show (l ++ m)[i]? = some x; rw [List.getElem?_append_left (List.getElem?_eq_some_iff.1 hx).1]; exact hx)⟩
theorem Tab.lt {l : List Inf} {ns : List ByteArray} {ρ : ByteArray → Option Nat} (h : Tab l ns ρ) {n : ByteArray} {i : Nat} (hn : ρ n = some i) : i < l.length := by
  obtain ⟨x, hx, _⟩ := h.at_ n i hn
  exact (List.getElem?_eq_some_iff.1 hx).1
theorem app_at {l : List Inf} {x : Inf} {i : Nat} {y : Inf} (h : (l ++ [x])[i]? = some y) : (i < l.length ∧ l[i]? = some y) ∨ (i = l.length ∧ y = x) := by
  by_cases hi : i < l.length
  · rw [List.getElem?_append_left hi] at h; exact .inl ⟨hi, h⟩
  · rw [List.getElem?_append_right (by omega)] at h
    have : i - l.length = 0 := by
      have := (List.getElem?_eq_some_iff.1 h).1
      simp at this
      omega
    rw [this] at h
    have h : some x = some y := h
    exact .inr ⟨by omega, (Option.some.inj h).symm⟩
theorem at_app {l : List Inf} {m : List Inf} {i : Nat} {y : Inf} (h : l[i]? = some y) : (l ++ m)[i]? = some y := by
  rw [List.getElem?_append_left (List.getElem?_eq_some_iff.1 h).1]; exact h
theorem Tab.con {l : List Inf} {ns : List ByteArray} {ρ : ByteArray → Option Nat} (h : Tab l ns ρ) {x : Inf} (hx : x.k ≠ 1) : Tab (l ++ [x]) ns ρ := by
  refine ⟨h.dom, fun n i hn => ?_, fun i y hy hk => ?_, h.ord⟩
  · obtain ⟨y, hy, hk⟩ := h.at_ n i hn
    exact ⟨y, at_app hy, hk⟩
  · rcases app_at hy with ⟨_, hy⟩ | ⟨_, rfl⟩
    · exact h.var i y hy hk
    · exact absurd hk hx
def varI : Inf := ⟨1, ⟨#[]⟩, ⟨#[]⟩, []⟩
theorem Tab.new {l : List Inf} {ns : List ByteArray} {ρ : ByteArray → Option Nat} (h : Tab l ns ρ) {n : ByteArray} (hn : ρ n = none) : Tab (l ++ [varI]) (ns ++ [n]) (fun m => if m = n then some l.length else ρ m) := by
  have hns : n ∉ ns := fun hm => by
    obtain ⟨i, hi⟩ := (h.dom n).1 hm
    rw [hn] at hi; cases hi
  refine ⟨fun m => ?_, fun m i hm => ?_, fun i y hy hk => ?_, fun j j' a b i i' ha hb hi hi' hjj => ?_⟩
  · by_cases e : m = n
    · subst e
      simp
    · simp only [if_neg e]
      rw [← h.dom m]
      simp [e]
  · try dsimp only at hm
    by_cases e : m = n
    · rw [if_pos e] at hm
      obtain rfl := Option.some.inj hm
      exact ⟨varI, by rw [List.getElem?_append_right (Nat.le_refl _), Nat.sub_self]; rfl, rfl⟩
    · rw [if_neg e] at hm
      obtain ⟨y, hy, hk⟩ := h.at_ m i hm
      exact ⟨y, at_app hy, hk⟩
  · rcases app_at hy with ⟨_, hy⟩ | ⟨e, rfl⟩
    · obtain ⟨m, hm⟩ := h.var i y hy hk
      refine ⟨m, ?_⟩
      have : m ≠ n := by rintro rfl; rw [hn] at hm; cases hm
      try dsimp only
      rw [if_neg this, hm]
    · exact ⟨n, by rw [if_pos rfl, e]⟩
  · have key : ∀ (j : Nat) (a : ByteArray), (ns ++ [n])[j]? = some a → (j < ns.length ∧ ns[j]? = some a ∧ a ≠ n) ∨ (j = ns.length ∧ a = n) := by
      intro j a ha
      by_cases hj : j < ns.length
      · rw [List.getElem?_append_left hj] at ha
        exact .inl ⟨hj, ha, fun e => hns (e ▸ List.mem_of_getElem? ha)⟩
      · rw [List.getElem?_append_right (by omega)] at ha
        have h1 := (List.getElem?_eq_some_iff.1 ha).1
        simp at h1
        have e : j - ns.length = 0 := by omega
        rw [e] at ha
        have ha : some n = some a := ha
        exact .inr ⟨by omega, (Option.some.inj ha).symm⟩
    try dsimp only at hi hi'
    rcases key j a ha with ⟨h1, h2, h3⟩ | ⟨h1, h2⟩
    · rw [if_neg h3] at hi
      rcases key j' b hb with ⟨g1, g2, g3⟩ | ⟨g1, g2⟩
      · rw [if_neg g3] at hi'
        exact h.ord j j' a b i i' h2 g2 hi hi' hjj
      · rw [if_pos g2] at hi'
        obtain rfl := Option.some.inj hi'
        exact h.lt hi
    · rcases key j' b hb with ⟨g1, g2, g3⟩ | ⟨g1, g2⟩ <;> omega
theorem Wf.app {l : List Inf} (h : Wf l) {x : Inf} (hk : ∀ y ∈ x.kids, y < l.length) (hl : (x.k = 1 ∨ x.k = 5) → x.kids = []) : Wf (l ++ [x]) := by
  refine ⟨fun i y hy => ?_, fun i y hy => ?_⟩
  · rcases app_at hy with ⟨_, hy⟩ | ⟨e, rfl⟩
    · exact h.kid i y hy
    · rw [e]; exact hk
  · rcases app_at hy with ⟨_, hy⟩ | ⟨e, rfl⟩
    · exact h.leaf i y hy
    · exact hl
theorem Repr.mono {l m : List Inf} {ρ ρ' : ByteArray → Option Nat} (hρ : ∀ n i, ρ n = some i → ρ' n = some i) {i : Nat} {t : Tm} (h : Repr (flat l) ρ i t) : Repr (flat (l ++ m)) ρ' i t := by
  induction h with
  | var h => exact .var (hρ _ _ h)
  | con hx h1 h5 ek ep en hl h ih => exact .con (at_app hx) h1 h5 ek ep en hl ih
/-- How much a store's types weigh. -/
def wt (l : List Inf) : Nat := (l.map fun x => x.kids.length + 1).sum
theorem wt_app (l m : List Inf) : wt (l ++ m) = wt l + wt m := by
  unfold wt
  rw [List.map_append, List.sum_append]
end Abs
/-- A type more in a store in which nothing has become another one. -/
theorem St.more {X : Nat → Prop} {c : Cfg} {l : List Inf} {v : Value} {L : List Nd} {rk : Nat → Nat} {w' : World} {x : Inf} {ks : Value} {pl : Bool} (h : StL c v (L ++ [⟨x, ks, 0, false, -1, pl, 0⟩]) w') (hr : Rep rk L (Abs.flat l)) (he : Ex c L (Abs.flat l)) (hav : Avd X L) (hks : ∀ g o m cc, ks = .slice (some ⟨g, o, none⟩) m cc → ¬ X g) (hw : 0 ≤ c.wks)
    (hpl : pl = true → x.k ≠ 1 ∧ x.k ≠ 5 ∧ ∀ y ∈ x.kids, ∃ z, L[y]? = some z ∧ z.pl = true) : StA X c (Abs.flat (l ++ [x])) w' := by
  have hl : l.length = L.length := hr.len
  have key : ∀ (i : Nat) (z : Nd), (L ++ [(⟨x, ks, 0, false, -1, pl, 0⟩ : Nd)])[i]? = some z → (i < L.length ∧ L[i]? = some z) ∨ (i = L.length ∧ z = ⟨x, ks, 0, false, -1, pl, 0⟩) := by
    intro i z hz
    by_cases hi : i < L.length
    · rw [List.getElem?_append_left hi] at hz; exact .inl ⟨hi, hz⟩
    · rw [List.getElem?_append_right (by omega)] at hz
      have h1 := (List.getElem?_eq_some_iff.1 hz).1
      simp at h1
      have e : i - L.length = 0 := by omega
      rw [e] at hz
      have hz : some _ = some z := hz
      exact .inr ⟨by omega, (Option.some.inj hz).symm⟩
  refine ⟨v, _, rk, h, ⟨?_, fun i z hz => ?_, fun i z hz => ?_⟩, ⟨fun i z hz hp θ θ' m m' => ?_, fun z hz => ?_⟩, fun z hz => ?_⟩
  · have := hr.l
    show l ++ [x] = _
    rw [List.map_append, ← this]
    rfl
  · rcases key i z hz with ⟨_, hz⟩ | ⟨_, rfl⟩
    · exact hr.lv i z hz
    · rfl
  · left
    rcases key i z hz with ⟨_, hz⟩ | ⟨_, rfl⟩
    · rcases hr.be i z hz with ⟨h1, _⟩ | ⟨j, h1, h2, h3, h4⟩
      · exact ⟨h1, rfl⟩
      · have h3 : j = i := h3
        subst h3
        omega
    · exact ⟨by show (-1 : Int) < 0; decide, rfl⟩
  · rcases key i z hz with ⟨_, hz⟩ | ⟨e, rfl⟩
    · exact he.pl i z hz hp θ θ' (Abs.flat_mod_app m) (Abs.flat_mod_app m')
    · obtain ⟨h1, h5, hk⟩ := hpl hp
      have hx : (Abs.flat (l ++ [x])).l[i]? = some x := by
        show (l ++ [x])[i]? = some x
        rw [List.getElem?_append_right (by omega), e, hl, Nat.sub_self]
        rfl
      rw [m.2 i x hx h1 h5, m'.2 i x hx h1 h5]
      congr 1
      apply List.map_congr_left
      intro y hy
      obtain ⟨z, hz, hzp⟩ := hk y hy
      exact he.pl y z hz hzp θ θ' (Abs.flat_mod_app m) (Abs.flat_mod_app m')
  · rcases List.mem_append.1 hz with hz | hz
    · exact he.wk z hz
    · cases List.mem_singleton.1 hz
      exact hw
  · rcases List.mem_append.1 hz with hz | hz
    · exact hav z hz
    · cases List.mem_singleton.1 hz
      exact fun _ => hks
/-- What newSolver's closure makes. -/
theorem fresh_any {X : Nat → Prop} {c : Cfg} {bx : Nat} {l : List Inf} {w : World} (h : StA X c (Abs.flat l) w) (hx : w.heap[bx]? = some (.cells #[.pointer (some ⟨c.B, 0, none⟩)] 68 (0, 0))) (hl : l.length < 100000) (hf : c.full = false) (hb : (100000 : Int) ≤ c.bud) (hw : 0 ≤ c.wks) :
    Calls Tryd.prog 66 #[.pointer (some ⟨bx, 0, none⟩)] w fun e w' => e = .returned (.int .i64 (l.length : Nat)) ∧ StA X c (Abs.flat (l ++ [Abs.varI])) w' ∧ Kp c w w' := by
  obtain ⟨v, L, rk, p1, p2, p3, p4⟩ := h
  have hlen : l.length = L.length := p2.len
  have HV := Lib.hid (var_any c v L w 0 p1 (by omega) hf (by omega))
  have b0 := hb_at hx 0 rfl
  rw [hlen]
  have P2 := Lib.hid p2
  have P3 := Lib.hid p3
  have P4 := Lib.hid p4
  clear p1 p2 p3 p4 hx
  go_enter Tryd.func66, Tryd.ntmps66
  go_wp2_with (go_at_call 25; (with_reducible refine HV.out.mono ?_); rintro e w1 ⟨rfl, v1, h1, k1⟩; have H1 := Lib.hid h1; have K1 := Lib.hid k1; clear h1 k1)
  all_goals
    go_ret
    exact ⟨rfl, St.more H1.out P2.out P3.out P4.out (fun g o m cc e => by cases e) hw (fun h => by cases h), K1.out⟩
end Go.Proofs.YtncebhddcokkoaaDoor
