
/- One more pair; one more name that is put. -/
import Derived.Test.YtknbhnicmgglbaaDoorXe
namespace Go.Proofs.YtknbhnicmgglbaaDoor
open Go.RowKit
theorem info39 : ∃ z, (Tryd.prog.info? 42).map (fun i => (i.zero, i.size, i.bytes)) = some (some z, 10, 144) ∧ z.cells.size = 10 := ⟨.agg #[.int .i64 0, .string ⟨#[]⟩, .string ⟨#[]⟩, .int .i64 0, .slice none 0 0, .int .i64 0, .string ⟨#[]⟩, .string ⟨#[]⟩, .int .i64 0, .slice none 0 0], by kernel_rfl, rfl⟩
theorem MSt.push {w0 W : World} {D M b0 : Nat} {bx : Array Value} {sv : Value} {st : List (Tm × Tm)} {P : ByteArray → Option Tm} {n : Nat} (h : MSt w0 W D M b0 bx sv st P n) (b : Nat)
    (k1 N1 k2 N2 : Int) (p1 n1 p2 n2 : ByteArray) (q1 q2 : Option Addr) (l1 c1 l2 c2 : Nat)
    (hb : W.heap[b]? = some (.cells #[.int .i64 k1, .string p1, .string n1, .int .i64 N1, .slice q1 l1 c1, .int .i64 k2, .string p2, .string n2, .int .i64 N2, .slice q2 l2 c2] 42 (0, 0))) (x : Tm × Tm) (hx1 : IsT w0 D (tv k1 p1 n1 N1 (.slice q1 l1 c1)) x.1) (hx2 : IsT w0 D (tv k2 p2 n2 N2 (.slice q2 l2 c2)) x.2) (hs : Sm D x.2) (hn : st.length ≤ 100000) (cc : Nat) :
    ∃ v' W', (Builtin.append_ #[43, 43] 43 #[sv, .slice (some ⟨b, 0, none⟩) 1 cc]).run Tryd.prog W = .ok v' W' ∧ MSt w0 W' D M b0 bx v' (x :: st) P n ∧ (∀ (g : Nat) (cs : Array Value) (t : TypeId) (f : Nat × Nat), W.heap[g]? = some (Obj.cells cs t f) → t ≠ 42 → W'.heap[g]? = some (Obj.cells cs t f)) := by
  obtain ⟨z, hz, hzc⟩ := info39
  obtain ⟨i0, hi, hz0, hz1, hz2⟩ := info_parts hz
  obtain ⟨vs, hv1, hv2⟩ := h.vs
  obtain ⟨g, hg1, hg2⟩ := h.put
  have hvl := hv1.len
  obtain ⟨v', w', r1, r2, r3, _, r5⟩ := run_append_own_at (P := Tryd.prog) W w0.heap.size 43 43 42 i0 z 10 144 Tryd.underlying43 hi hz0 hz1 hz2 hzc (by decide) sv vs.length (prL vs) hv2 ⟨b, 0, none⟩ 1 cc (prC ((k1, p1, n1, N1, .slice q1 l1 c1), (k2, p2, n2, N2, .slice q2 l2 c2))) rfl
    (fun j u hu => by
      rw [add_zero_none, hb_cell hb]
      unfold prC at hu
      simpa using hu)
    (by simp [prC, Value.oneCell']) (by unfold maxLen; omega) (by omega) h.below.size
  obtain ⟨es, cl, hM⟩ := hg1.heap
  have hkeep : ∀ (g : Nat) (cs : Array Value) (t : TypeId) (f : Nat × Nat), W.heap[g]? = some (Obj.cells cs t f) → t ≠ 42 → w'.heap[g]? = some (Obj.cells cs t f) := fun g cs t f hx ht => hb_grown hx r3 (own_ne hv2 hx fun cs f e => by cases e; exact ht rfl)
  refine ⟨v', w', r1, ⟨⟨_ :: vs, ⟨hx1, hx2, hs, hv1⟩, by rw [prL_cons]; exact r2⟩, ⟨g, hg1.kept fun x hx => ?_, hg2⟩, hkeep _ _ _ _ h.box (by decide), h.lo, h.below.grown r3 h.below.size fun k hk => (hv2.lt k hk).1⟩, hkeep⟩
  rw [hM] at hx
  cases hx
  exact hb_grown hM r3 (own_ne hv2 hM fun cs f e => by cases e)
theorem MSt.turn {w0 w w1 : World} {D M b0 : Nat} {bx : Array Value} {sv : Value} {st : List (Tm × Tm)} {P : ByteArray → Option Tm} {n : Nat} (h : MSt w0 w D M b0 bx sv st P n) {g : ByteArray → Option Value} {nm : ByteArray} {v : Value} {t : Tm} {es : Array MapEntry} {cl : Nat} (hP : PutOk w0 D g P) (hm : w.heap[M]? = some (.map es cl))
    (hT1 : TMap w1 M (n + 1) (upV g nm v)) (ht : w.mapTurned w1 M) (hv : IsT w0 D v t) (hs : Sm D t) : MSt w0 w1 D M b0 bx sv st (upV P nm t) (n + 1) := by
  obtain ⟨vs, hv1, hv2⟩ := h.vs
  have hne : ∀ {g : Nat} {cs : Array Value} {t : TypeId}, w.heap[g]? = some (.cells cs t (0, 0)) → some g ≠ some M := fun hx e => by rw [Option.some.inj e, hm] at hx; cases hx
  have hnv : sv.ownBlock ≠ some M := fun e => own_ne hv2 hm (fun cs f e2 => by cases e2) e.symm
  exact ⟨⟨vs, hv1, World.ownsRow.kept hv2 ht.grown (.inr hnv)⟩, ⟨_, hT1, hP.up nm hv hs⟩, hb_grown h.box ht.grown (hne h.box), h.lo, turned_below h.below (Nat.le_refl _) ht h.lo.1⟩
theorem dp_more : ∀ {d : Nat} {t : Tm}, Dp d t → Dp (d + 1) t := by
  intro d
  induction d with
  | zero => intro t h; cases h
  | succ d ih =>
    intro t h
    obtain ⟨k, p, n, N, kids⟩ := t
    exact fun x hx => ih (h x hx)
theorem kid_sm {d : Nat} {k N : Int} {p n : ByteArray} {ls : List Tm} {y : Tm} (h : Dp d (.mk k p n N ls)) (hs : Sm d (.mk k p n N ls)) (hy : y ∈ ls) : Sm d y := by
  cases d with
  | zero => cases h
  | succ d => exact Sm.all (h y hy) (hs.2 y hy) _
theorem len_zip_meas {d : Nat} {k N : Int} {p n : ByteArray} {l m : List Tm} {y : Tm} {rest : List (Tm × Tm)} (h : Dp d (.mk k p n N l)) (hl : l.length = m.length) : (l.zip m).length ≤ meas d ((.mk k p n N l, y) :: rest) := by
  have h1 := meas_go (y := y) (rest := rest) h (Nat.le_refl _) hl
  rw [meas_append, meas_rev] at h1
  have h2 : ∀ x ∈ l.zip m, Dp d x.1 := fun x hx => by
    have hx1 := (List.of_mem_zip hx).1
    cases d with
    | zero => cases h
    | succ d => exact dp_more (h x.1 hx1)
  have h3 := len_meas h2
  omega
/-- A slice of one pair that is new. -/
def Inv.MP.pair (cs : Array Value) : Inv.MP := ⟨fun v w => ∃ g, v = .slice (some ⟨g, 0, none⟩) 1 1 ∧ w.heap[g]? = some (.cells cs 42 (0, 0)), fun v w w' ⟨g, h1, h2⟩ hb => ⟨g, h1, hb_below h2 hb (hb_lt h2)⟩⟩
theorem zip_at {l m : List Tm} {j : Nat} {x y : Tm} (hx : l[j]? = some x) (hy : m[j]? = some y) : (l.zip m)[j]? = some (x, y) := by
  rw [List.getElem?_zip_eq_some]
  exact ⟨hx, hy⟩
theorem zip_next {l m : List Tm} {j : Nat} {x y : Tm} {st : List (Tm × Tm)} (hx : l[j]? = some x) (hy : m[j]? = some y) : ((l.zip m).take (j + 1)).reverse ++ st = (x, y) :: (((l.zip m).take j).reverse ++ st) := by
  obtain ⟨h1, h2⟩ := List.getElem?_eq_some_iff.1 (zip_at hx hy)
  rw [List.take_succ_eq_append_getElem h1, h2, List.reverse_append]
  rfl
end Go.Proofs.YtknbhnicmgglbaaDoor
