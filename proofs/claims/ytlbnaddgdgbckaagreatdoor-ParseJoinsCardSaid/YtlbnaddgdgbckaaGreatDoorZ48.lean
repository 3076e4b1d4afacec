/- Texts in a row: Tm Tn. -/
import Derived.Test.YtlbnaddgdgbckaaGreatDoorZ45
import Derived.Test.YtlbnaddgdgbckaaGreatDoorZ46
import Derived.Test.YtlbnaddgdgbckaaGreatDoorZ47
import Derived.Test.YtlbnaddgdgbckaaGreatDoorZ43
import Derived.Test.YtlbnaddgdgbckaaGreatDoorZ36
/- The document's Join of modules. -/
namespace Go.Proofs.YtlbnaddgdgbckaaGreatDoor
open Go.RowKit
set_option linter.unusedSimpArgs false
set_option linter.unusedVariables false
variable {α : Type}
/-- A row of one's own, of members that were there in W0. -/
def RowJ (K : Mem α) (base : Nat) (W0 w : World) (sv : Value) (l : List α) : Prop :=
  ∃ cl : List (List Value), cl.length = l.length ∧ w.ownsRow base K.e K.size sv l.length cl.flatten ∧ ∀ (i : Nat) (a : α), l[i]? = some a → ∃ cs : List Value, cl[i]? = some cs ∧ K.V (fun _ => True) W0 cs a
theorem RowJ.shape {K : Mem α} {base : Nat} {W0 w : World} {sv : Value} {l : List α} (h : RowJ K base W0 w sv l) : ∃ q c, sv = .slice q l.length c := by
  obtain ⟨cl, hl, ho, _⟩ := h
  rcases ho.2 with ⟨rfl, h0⟩ | ⟨g, cap, cur, rfl, _⟩
  · exact ⟨none, 0, by rw [h0]⟩
  · exact ⟨_, _, rfl⟩
theorem rowJ_empty {K : Mem α} {base : Nat} {W0 w : World} (hb : base ≤ w.heap.size) : RowJ K base W0 (w.alloc (.cells #[] K.e)) (.slice (some ⟨w.heap.size, 0, none⟩) 0 0) [] :=
  ⟨[], rfl, ⟨by simp, .inr ⟨w.heap.size, 0, #[], rfl, hb, hb_new _ _, Nat.le_refl _, Nat.zero_le _, by simp, by simp⟩⟩, fun i a h => by simp at h⟩
theorem RowJ.rc {K : Mem α} {base : Nat} {W0 w w' : World} {sv : Value} {l : List α} {T : Option TypeId} (h : RowJ K base W0 w sv l) (hT : T ≠ some K.e) (hr : Ivr.RC base T w w') : RowJ K base W0 w' sv l := by
  obtain ⟨cl, hl, ⟨h0, hor⟩, hd⟩ := h
  refine ⟨cl, hl, ⟨h0, ?_⟩, hd⟩
  rcases hor with h | ⟨g, cap, cur, e1, e2, e3, rest⟩
  · exact .inl h
  · refine .inr ⟨g, cap, cur, e1, e2, ?_, rest⟩
    rcases hr.block g (hb_lt e3) with e | ⟨_, t, c, f, ht, hx⟩
    · rw [e]; exact e3
    · rw [e3] at hx
      cases hx
      exact absurd ht hT
def Ivr.MP.rowJ (K : Mem α) (WC W0 : World) (l : List α) : Ivr.MP W0.heap.size := ⟨fun v w => RowJ K W0.heap.size WC w v l, K.e, fun _ _ _ _ hT h hr => RowJ.rc h hT hr⟩
theorem RowJ.toS {K : Mem α} {base : Nat} {WC w w' : World} {sv : Value} {l : List α} {n : Nat} (h : RowJ K base WC w sv l) (hb : Below WC.heap.size WC w) (hw : ∀ b, b ≠ n → w'.heap[b]? = w.heap[b]?) (hn : WC.heap.size ≤ n) (hn2 : n < base) : SlG K (fun _ => True) w' sv l := by
  obtain ⟨cl, hl, ⟨hfl, ⟨rfl, h0⟩ | ⟨g, cap, cur, rfl, hbg, hh, hnc, _, hcs, htk⟩⟩, hd⟩ := h
  · have : l = [] := List.eq_nil_of_length_eq_zero (by omega)
    subst this
    exact SlG.nil _ _ _
  · refine ⟨some ⟨g, 0, none⟩, cap, rfl, fun i a ha => ?_⟩
    obtain ⟨cs, h1, h2⟩ := hd i a ha
    have hall : ∀ cs ∈ cl, cs.length = K.size := by
      intro cs hc
      obtain ⟨j, hj⟩ := List.getElem?_of_mem hc
      have hjl := (List.getElem?_eq_some_iff.1 hj).1
      obtain ⟨cs', e1, e2⟩ := hd j (l[j]'(by omega)) (List.getElem?_eq_getElem _)
      rw [hj] at e1
      cases e1
      exact K.len e2
    have hi := (List.getElem?_eq_some_iff.1 ha).1
    have hg := hb_lt hh
    refine ⟨g, 0, cs, rfl, trivial, fun j u hu => ?_, K.move (fun b _ hlt => ⟨trivial, (hw b (by omega)).trans (hb.block b hlt)⟩) h2⟩
    have hj : j < K.size := by rw [← K.len h2]; exact (List.getElem?_eq_some_iff.1 hu).1
    have hh2 : w'.heap[g]? = some (.cells cur K.e (0, 0)) := by rw [hw g (by omega), hh]
    have hlt : i * K.size + j < l.length * K.size := by
      have : (i + 1) * K.size ≤ l.length * K.size := Nat.mul_le_mul_right _ hi
      rw [Nat.add_mul] at this; omega
    rw [hb_cell hh2, Nat.zero_add, ← Array.getElem?_toList]
    have e1 : cl.flatten[i * K.size + j]? = some u := by rw [flat_at cl i j cs hall h1 hj]; exact hu
    rw [← htk, List.getElem?_take, if_pos hlt] at e1
    exact e1
theorem rowJ_append {K : Mem α} {base : Nat} {W0 w : World} {sv vx : Value} {l ms : List α} (h : RowJ K base W0 w sv l) (hb : Below W0.heap.size W0 w) (hbase : base ≤ w.heap.size) (hv : SlG K (fun _ => True) W0 vx ms) (hn : l.length ≤ 100000) (hn2 : ms.length ≤ 100000) :
    ∃ v' w', (Builtin.append_ #[K.t, K.t] K.t #[sv, vx]).run Tryz.prog w = .ok v' w' ∧ RowJ K base W0 w' v' (l ++ ms) ∧ Ivr.RC base (some K.e) w w' := by
  obtain ⟨q, c, rfl, hm⟩ := hv
  obtain ⟨z, hz, hzc⟩ := K.inf
  obtain ⟨i0, hi, hz0, hz1, hz2⟩ := info_parts hz
  obtain ⟨cl, hl, ho, hd⟩ := h
  by_cases hms : ms = []
  · subst hms
    have hsv : ∃ ao n cap, sv = .slice ao n cap ∧ n ≤ cap := by
      rcases ho.2 with ⟨rfl, h0⟩ | ⟨g, cap, cur, rfl, _, _, h3, _⟩
      · exact ⟨none, 0, 0, rfl, Nat.le_refl _⟩
      · exact ⟨_, _, _, rfl, h3⟩
    obtain ⟨ao, n, cap, rfl, hnc⟩ := hsv
    have hrun : (Builtin.append_ #[K.t, K.t] K.t #[.slice ao n cap, .slice q ([] : List α).length c]).run Tryz.prog w = .ok (.slice ao n cap) w := by
      cases q with
      | none => cases ao <;> simp [Builtin.append_, run_underlying K.und, sizeOf, typeInfo, hi, Builtin.lenOf, Builtin.firstCells, hnc, storeCells, loadCells, loadCellsFrom]
      | some a => exact run_append_zero K.t K.t K.e i0 K.und hi ao n cap hnc a c
    refine ⟨_, w, hrun, ⟨cl, by simpa using hl, by rw [List.append_nil]; exact ho, fun i a ha => hd i a (by simpa using ha)⟩, .of_below (Below.refl _ _)⟩
  · have hpos := List.length_pos_iff.2 hms
    obtain ⟨g, o, cs0, rfl, _, _⟩ := hm 0 ms[0] (List.getElem?_eq_getElem hpos)
    have hm2 : ∀ i a, ms[i]? = some a → ∃ cs : List Value, (∀ j u, cs[j]? = some u → w.cell? ⟨g, o + i * K.size + j, none⟩ = some u) ∧ K.V (fun _ => True) W0 cs a := by
      intro i a ha
      obtain ⟨b, o', cs, e, _, hc, hV⟩ := hm i a ha
      cases e
      exact ⟨cs, fun j u hu => keep_cell hb (hc j u hu), hV⟩
    obtain ⟨ml, hml, hmp⟩ := pick_list (P := fun i cs => ∀ a, ms[i]? = some a → (∀ j u, cs[j]? = some u → w.cell? ⟨g, o + i * K.size + j, none⟩ = some u) ∧ K.V (fun _ => True) W0 cs a) ms.length (fun i hi => by
      obtain ⟨cs, h1, h2⟩ := hm2 i (ms[i]) (List.getElem?_eq_getElem hi)
      exact ⟨cs, fun a ha => by rw [List.getElem?_eq_getElem hi] at ha; cases ha; exact ⟨h1, h2⟩⟩)
    have hpick : ∀ i a, ms[i]? = some a → ∃ cs, ml[i]? = some cs ∧ (∀ j u, cs[j]? = some u → w.cell? ⟨g, o + i * K.size + j, none⟩ = some u) ∧ K.V (fun _ => True) W0 cs a := by
      intro i a ha
      have hi := (List.getElem?_eq_some_iff.1 ha).1
      have h1 : ml[i]? = some (ml[i]'(by omega)) := List.getElem?_eq_getElem _
      exact ⟨_, h1, hmp i _ h1 a ha⟩
    have hall : ∀ cs ∈ ml, cs.length = K.size := by
      intro cs hc
      obtain ⟨j, hj⟩ := List.getElem?_of_mem hc
      have hjl := (List.getElem?_eq_some_iff.1 hj).1
      obtain ⟨cs', e1, _, e2⟩ := hpick j (ms[j]'(by omega)) (List.getElem?_eq_getElem _)
      rw [hj] at e1
      cases e1
      exact K.len e2
    have hfew := K.few
    obtain ⟨v', w', h1, h2, h3, _, h5⟩ := run_append_own_at (P := Tryz.prog) w base K.t K.t K.e i0 z K.size K.bytes K.und hi hz0 hz1 hz2 hzc K.pos sv l.length cl.flatten ho ⟨g, o, none⟩ ms.length c ml.flatten (by rw [flat_len ml hall, hml])
      (fun j u hu => by
        have hj := (List.getElem?_eq_some_iff.1 hu).1
        rw [flat_len ml hall, hml] at hj
        have hdiv : j / K.size < ms.length := Nat.div_lt_of_lt_mul (by rw [Nat.mul_comm]; exact hj)
        have hmod : j % K.size < K.size := Nat.mod_lt _ K.pos
        have hjj : j / K.size * K.size + j % K.size = j := by rw [Nat.mul_comm]; exact Nat.div_add_mod j K.size
        obtain ⟨cs, e1, e2, e3⟩ := hpick (j / K.size) (ms[j / K.size]) (List.getElem?_eq_getElem hdiv)
        have e4 := flat_at ml (j / K.size) (j % K.size) cs hall e1 hmod
        rw [hjj, hu] at e4
        have e5 := e2 _ _ e4.symm
        rw [Addr.add_lit]
        rw [Nat.add_assoc, hjj] at e5
        exact e5)
      (fun u hu => by
        obtain ⟨cs, hc, hu2⟩ := List.mem_flatten.1 hu
        obtain ⟨j, hj⟩ := List.getElem?_of_mem hc
        have hjl := (List.getElem?_eq_some_iff.1 hj).1
        obtain ⟨cs', e1, _, e2⟩ := hpick j (ms[j]'(by omega)) (List.getElem?_eq_getElem _)
        rw [hj] at e1
        cases e1
        exact K.one e2 u hu2)
      (by unfold maxLen; omega) (by have : (l.length + ms.length) * K.bytes ≤ 200000 * 1000 := Nat.mul_le_mul (by omega) hfew; omega) hbase
    refine ⟨v', w', h1, ⟨cl ++ ml, by simp [hl, hml], by rw [List.flatten_append, List.length_append]; exact h2, fun i a ha => ?_⟩, h3.os, h3.tape, h3.output, h3.size, fun b hlt => ?_⟩
    · rw [List.getElem?_append] at ha
      split at ha
      · rename_i hi
        obtain ⟨cs, e1, e2⟩ := hd i a ha
        exact ⟨cs, by rw [List.getElem?_append_left (by omega)]; exact e1, e2⟩
      · rename_i hi
        obtain ⟨cs, e1, _, e2⟩ := hpick (i - l.length) a ha
        exact ⟨cs, by rw [List.getElem?_append_right (by omega), hl]; exact e1, e2⟩
    · by_cases hbo : some b = sv.ownBlock
      · right
        rcases ho.2 with ⟨rfl, h0⟩ | ⟨g2, cap, cur, rfl, e2, e3, _⟩
        · cases hbo
        · have : b = g2 := Option.some.inj hbo
          subst this
          exact ⟨e2, _, _, _, rfl, e3⟩
      · exact .inl (h3.block b hlt hbo)
theorem operT_append {T : TypeId} {w w' : World} {o : Oper} {a : Act} {K : Act → World → Prop} {Q : Exit → Act → World → Prop} (s x : Operand)
    (ho : o.op = .call { callee := .builtin .append, args := #[s, x], argTypes := #[T, T] }) (hty : o.type = T) {v vx v' : Value} (hs : a.eval s = v) (hx : a.eval x = vx)
    (hrun : (Builtin.append_ #[T, T] T #[v, vx]).run Tryz.prog w = .ok v' w') (h : K (a.put o.dst v') w') : Oper.wp Tryz.prog o a w K Q := by
  unfold Oper.wp execOp
  simp only [ho, hty, resolve, invoke, builtin, Sem.run_bind, Sem.run_pure, Result.andThen_ok, List.map_toArray, List.map_cons, List.map_nil, hs, hx, hrun]
  exact h
theorem res_join {tmps : Array Value} {g : Nat} (h : tmps[4]?.getD undef = bp g) {w : World} {c0 c1 c2 c3 c4 : Value} {t : TypeId} {f : Nat × Nat} (hb : w.heap[g]? = some (.cells #[c0, c1, c2, c3, c4] t f)) :
    (results Tryz.f11 tmps).run Tryz.prog w = .ok (.agg #[c0, c1, c2, c3, c4]) w := by
  have x0 := hb_at hb 0 rfl
  have x1 := hb_at hb 1 rfl
  have x2 := hb_at hb 2 rfl
  have x3 := hb_at hb 3 rfl
  have x4 := hb_at hb 4 rfl
  simp [results, Tryz.results11, h, go_sem, Tryz.isAgg29, x0, x1, x2, x3, x4]
set_option maxRecDepth 100000 in
set_option maxHeartbeats 16000000 in
theorem join_any (va vb : Value) (a b : Mod) (w : World) (ha : ModS w va a) (hb : ModS w vb b) (hfa : a.im.length ≤ 7000 ∧ a.ty.length ≤ 7000 ∧ a.al.length ≤ 7000 ∧ a.le.length ≤ 7000 ∧ a.ex.length ≤ 7000) (hfb : b.im.length ≤ 7000 ∧ b.ty.length ≤ 7000 ∧ b.al.length ≤ 7000 ∧ b.le.length ≤ 7000 ∧ b.ex.length ≤ 7000) :
    Calls Tryz.prog 11 #[va, vb] w fun e w' => ∃ v, e = .returned v ∧ ModS w' v (joinM a b) ∧ Below w.heap.size w w' := by
  obtain ⟨a0, a1, a2, a3, a4⟩ := a
  obtain ⟨b0, b1, b2, b3, b4⟩ := b
  obtain ⟨q0, k0, q1, k1, q2, k2, q3, k3, q4, k4, rfl, h0, h1, h2, h3, h4, _⟩ := ha
  obtain ⟨r0, j0, r1, j1, r2, j2, r3, j3, r4, j4, rfl, g0, g1, g2, g3, g4, _⟩ := hb
  dsimp only at h0 h1 h2 h3 h4 g0 g1 g2 g3 g4 hfa hfb ⊢
  obtain ⟨fa0, fa1, fa2, fa3, fa4⟩ := hfa
  obtain ⟨fb0, fb1, fb2, fb3, fb4⟩ := hfb
  have hBW := below2 w (.cells #[.slice q0 a0.length k0, .slice q1 a1.length k1, .slice q2 a2.length k2, .slice q3 a3.length k3, .slice q4 a4.length k4] 29) (.cells #[.slice r0 b0.length j0, .slice r1 b1.length j1, .slice r2 b2.length j2, .slice r3 b3.length j3, .slice r4 b4.length j4] 29)
  obtain ⟨c0, c1, hz2, hb2⟩ := boxes2 w (.cells #[.slice q0 a0.length k0, .slice q1 a1.length k1, .slice q2 a2.length k2, .slice q3 a3.length k3, .slice q4 a4.length k4] 29) (.cells #[.slice r0 b0.length j0, .slice r1 b1.length j1, .slice r2 b2.length j2, .slice r3 b3.length j3, .slice r4 b4.length j4] 29)
  go_enter Tryz.func11, Tryz.ntmps11
  go_upto_region 1 with (fail)
  generalize hW1 : (w.alloc (.cells #[.slice q0 a0.length k0, .slice q1 a1.length k1, .slice q2 a2.length k2, .slice q3 a3.length k3, .slice q4 a4.length k4] 29)).alloc (.cells #[.slice r0 b0.length j0, .slice r1 b1.length j1, .slice r2 b2.length j2, .slice r3 b3.length j3, .slice r4 b4.length j4] 29) = W1 at *
  have hn4 := hb_new W1 (.cells #[.slice none 0 0, .slice none 0 0, .slice none 0 0, .slice none 0 0, .slice none 0 0] 29)
  have hB1 := below_alloc W1 (.cells #[.slice none 0 0, .slice none 0 0, .slice none 0 0, .slice none 0 0, .slice none 0 0] 29)
  rw [hz2] at hn4
  have c0' := hb_below c0 hB1 (by omega)
  have c1' := hb_below c1 hB1 (by omega)
  have hBA := hBW.trans (hB1.mono hBW.size)
  generalize hW2 : W1.alloc (.cells #[.slice none 0 0, .slice none 0 0, .slice none 0 0, .slice none 0 0, .slice none 0 0] 29) = W2 at *
  have hz3 : W2.heap.size = w.heap.size + 3 := by rw [← hW2, World.size_alloc]; omega
  have P0 := Lib.hid (h0.below hBW)
  have P1 := Lib.hid (h1.below hBW)
  have P2 := Lib.hid (h2.below hBW)
  have P3 := Lib.hid (h3.below hBW)
  have P4 := Lib.hid (h4.below hBW)
  have Q0 := Lib.hid (g0.below hBW)
  have Q1 := Lib.hid (g1.below hBW)
  have Q2 := Lib.hid (g2.below hBW)
  have Q3 := Lib.hid (g3.below hBW)
  have Q4 := Lib.hid (g4.below hBW)
  have K4 := Lib.hid hn4
  have HBA := Lib.hid hBA
  have HB12 := Lib.hid hB1
  obtain ⟨xa0, xa1, xa2, xa3, xa4, _⟩ := box5 c0'
  obtain ⟨xb0, xb1, xb2, xb3, xb4, _⟩ := box5 c1'
  clear hW1 hW2 h0 h1 h2 h3 h4 g0 g1 g2 g3 g4 c0 c1 c0' c1' hn4 hB1 hBA hBW hb2
  refine Ivr.regionP (by kernel_rfl) ?_
  refine Ivr.start0 ?_ (by kernel_rfl)
  refine Ivr.regionT [0, 1, 2, 3, 4, 5, 6, 7, 8, 9, 10, 11, 12, 13, 14, 15, 16, 17, 18, 19, 20, 21, 22, 23, 24, 25, 26, 27, 28, 29, 30, 31, 32, 33, 34] [] 35 [36] [some 5, some 6, some 7, some 8, some 9, some 10, some 11, some 12, some 13, some 14, some 15, some 16, some 17, some 18, some 19, some 20, some 21, some 22, some 23, some 24, some 25, some 26, some 27, some 28, some 29, some 30, some 31, some 32, some 33, some 34, some 35, some 36, some 37, some 38, some 39, some 40, none] [[], [], [1], [0, 2], [], [4], [3, 5, 3], [], [], [8], [7, 9, 6], [], [11], [10, 12, 10], [], [], [15], [14, 16, 13], [], [18], [17, 19, 17], [], [], [22], [21, 23, 20], [], [25], [24, 26, 24], [], [], [29], [28, 30, 27], [], [32], [31, 33, 31]] (by kernel_rfl) (by kernel_rfl) (by kernel_rfl) (by kernel_rfl) (by kernel_rfl) (base := W2.heap.size) (Nat.le_refl _) [Ivr.MP.rowJ impK W1 W2 [], Ivr.MP.is W2.heap.size (.pointer (some ⟨w.heap.size, 0, none⟩)), Ivr.MP.is W2.heap.size (.slice q0 a0.length k0), Ivr.MP.rowJ impK W1 W2 a0, Ivr.MP.is W2.heap.size (.pointer (some ⟨w.heap.size + 1, 0, none⟩)), Ivr.MP.is W2.heap.size (.slice r0 b0.length j0), Ivr.MP.rowJ impK W1 W2 (a0 ++ b0), Ivr.MP.rowJ tydK W1 W2 [], Ivr.MP.is W2.heap.size (.pointer (some ⟨w.heap.size, 1, none⟩)), Ivr.MP.is W2.heap.size (.slice q1 a1.length k1), Ivr.MP.rowJ tydK W1 W2 a1, Ivr.MP.is W2.heap.size (.pointer (some ⟨w.heap.size + 1, 1, none⟩)), Ivr.MP.is W2.heap.size (.slice r1 b1.length j1), Ivr.MP.rowJ tydK W1 W2 (a1 ++ b1), Ivr.MP.rowJ aliK W1 W2 [], Ivr.MP.is W2.heap.size (.pointer (some ⟨w.heap.size, 2, none⟩)), Ivr.MP.is W2.heap.size (.slice q2 a2.length k2), Ivr.MP.rowJ aliK W1 W2 a2, Ivr.MP.is W2.heap.size (.pointer (some ⟨w.heap.size + 1, 2, none⟩)), Ivr.MP.is W2.heap.size (.slice r2 b2.length j2), Ivr.MP.rowJ aliK W1 W2 (a2 ++ b2), Ivr.MP.rowJ letIK W1 W2 [], Ivr.MP.is W2.heap.size (.pointer (some ⟨w.heap.size, 3, none⟩)), Ivr.MP.is W2.heap.size (.slice q3 a3.length k3), Ivr.MP.rowJ letIK W1 W2 a3, Ivr.MP.is W2.heap.size (.pointer (some ⟨w.heap.size + 1, 3, none⟩)), Ivr.MP.is W2.heap.size (.slice r3 b3.length j3), Ivr.MP.rowJ letIK W1 W2 (a3 ++ b3), Ivr.MP.rowJ expK W1 W2 [], Ivr.MP.is W2.heap.size (.pointer (some ⟨w.heap.size, 4, none⟩)), Ivr.MP.is W2.heap.size (.slice q4 a4.length k4), Ivr.MP.rowJ expK W1 W2 a4, Ivr.MP.is W2.heap.size (.pointer (some ⟨w.heap.size + 1, 4, none⟩)), Ivr.MP.is W2.heap.size (.slice r4 b4.length j4), Ivr.MP.rowJ expK W1 W2 (a4 ++ b4)] [none, none, none, some 62, none, none, some 62, none, none, none, some 66, none, none, some 66, none, none, none, some 72, none, none, some 72, none, none, none, some 74, none, none, some 74, none, none, none, some 76, none, none, some 76, none, none] [62, 0, 0, 62, 0, 0, 62, 66, 0, 0, 66, 0, 0, 66, 72, 0, 0, 72, 0, 0, 72, 74, 0, 0, 74, 0, 0, 74, 76, 0, 0, 76, 0, 0, 76, 0, 0] rfl (by kernel_rfl) _ (by kernel_rfl) ⟨?_, ?_, ?_, ?_, ?_, ?_, ?_, ?_, ?_, ?_, ?_, ?_, ?_, ?_, ?_, ?_, ?_, ?_, ?_, ?_, ?_, ?_, ?_, ?_, ?_, ?_, ?_, ?_, ?_, ?_, ?_, ?_, ?_, ?_, ?_, trivial⟩ (fun vs wq hbq hv => ?_)
  · intro vs w' hb hv K hK
    clear hv
    have hK2 := hK.out
    clear hK
    simp only [Ivr.putD, Ivr.dst, List.foldl_cons, List.foldl_nil, List.getD_cons_zero, List.getD_cons_succ, Act.put, List.setIfInBounds_toArray, List.set_cons_zero, List.set_cons_succ, List.filterMap_cons, List.filterMap_nil, List.getElem?_toArray, List.getElem?_cons_zero, List.getElem?_cons_succ] at hK2 ⊢
    have hK := Lib.hid hK2
    clear hK2
    simp only [Region.wanted, Ivr.yieldedD, Ivr.dst, List.getD_cons_zero, List.getD_cons_succ]
    go_simp
    refine hK.out _ _ (rowJ_empty hb.size) (.of_below (below_alloc _ _))
  · intro vs w' hb hv K hK
    clear hv
    have hK2 := hK.out
    clear hK
    simp only [Ivr.putD, Ivr.dst, List.foldl_cons, List.foldl_nil, List.getD_cons_zero, List.getD_cons_succ, Act.put, List.setIfInBounds_toArray, List.set_cons_zero, List.set_cons_succ, List.filterMap_cons, List.filterMap_nil, List.getElem?_toArray, List.getElem?_cons_zero, List.getElem?_cons_succ] at hK2 ⊢
    have hK := Lib.hid hK2
    clear hK2
    simp only [Region.wanted, Ivr.yieldedD, Ivr.dst, List.getD_cons_zero, List.getD_cons_succ]
    go_simp
    refine hK.out _ _ (Eq.refl _) (.of_below (Below.refl _ _))
  · intro vs w' hb hv K hK
    have h1 : (Ivr.MP.is W2.heap.size (.pointer (some ⟨w.heap.size, 0, none⟩))).p (vs 1) w' := hv 1 (by simp)
    clear hv
    have hK2 := hK.out
    clear hK
    simp only [Ivr.putD, Ivr.dst, List.foldl_cons, List.foldl_nil, List.getD_cons_zero, List.getD_cons_succ, Act.put, List.setIfInBounds_toArray, List.set_cons_zero, List.set_cons_succ, List.filterMap_cons, List.filterMap_nil, List.getElem?_toArray, List.getElem?_cons_zero, List.getElem?_cons_succ] at hK2 ⊢
    have hK := Lib.hid hK2
    clear hK2
    generalize vs 1 = y1 at *
    have h1 : y1 = _ := h1
    subst h1
    have xx := hb.cell (p := ⟨w.heap.size, 0, none⟩) (by simp; omega)
    rw [xa0] at xx
    simp only [Region.wanted, Ivr.yieldedD, Ivr.dst, List.getD_cons_zero, List.getD_cons_succ]
    go_simp
    refine hK.out _ _ (Eq.refl _) (.of_below (Below.refl _ _))
  · intro vs w' hb hv K hK
    have h0 : RowJ impK W2.heap.size W1 w' (vs 0) [] := hv 0 (by simp)
    have h2 : (Ivr.MP.is W2.heap.size (.slice q0 a0.length k0)).p (vs 2) w' := hv 2 (by simp)
    clear hv
    have hK2 := hK.out
    clear hK
    simp only [Ivr.putD, Ivr.dst, List.foldl_cons, List.foldl_nil, List.getD_cons_zero, List.getD_cons_succ, Act.put, List.setIfInBounds_toArray, List.set_cons_zero, List.set_cons_succ, List.filterMap_cons, List.filterMap_nil, List.getElem?_toArray, List.getElem?_cons_zero, List.getElem?_cons_succ] at hK2 ⊢
    have hK := Lib.hid hK2
    clear hK2
    generalize vs 0 = y0 at *
    generalize vs 2 = y2 at *
    have h2 : y2 = _ := h2
    subst h2
    simp only [Region.wanted, if_true]
    obtain ⟨v2, w2, hr2, ho2, hc2⟩ := rowJ_append h0 (HB12.out.trans (hb.mono HB12.out.size)) hb.size P0.out (by first | omega | simp) (by omega)
    refine operT_append (T := 23) (.tmp 5) (.tmp 7) rfl rfl rfl rfl hr2 ?_
    exact hK.out _ _ ho2 hc2
  · intro vs w' hb hv K hK
    clear hv
    have hK2 := hK.out
    clear hK
    simp only [Ivr.putD, Ivr.dst, List.foldl_cons, List.foldl_nil, List.getD_cons_zero, List.getD_cons_succ, Act.put, List.setIfInBounds_toArray, List.set_cons_zero, List.set_cons_succ, List.filterMap_cons, List.filterMap_nil, List.getElem?_toArray, List.getElem?_cons_zero, List.getElem?_cons_succ] at hK2 ⊢
    have hK := Lib.hid hK2
    clear hK2
    simp only [Region.wanted, Ivr.yieldedD, Ivr.dst, List.getD_cons_zero, List.getD_cons_succ]
    go_simp
    refine hK.out _ _ (Eq.refl _) (.of_below (Below.refl _ _))
  · intro vs w' hb hv K hK
    have h4 : (Ivr.MP.is W2.heap.size (.pointer (some ⟨w.heap.size + 1, 0, none⟩))).p (vs 4) w' := hv 4 (by simp)
    clear hv
    have hK2 := hK.out
    clear hK
    simp only [Ivr.putD, Ivr.dst, List.foldl_cons, List.foldl_nil, List.getD_cons_zero, List.getD_cons_succ, Act.put, List.setIfInBounds_toArray, List.set_cons_zero, List.set_cons_succ, List.filterMap_cons, List.filterMap_nil, List.getElem?_toArray, List.getElem?_cons_zero, List.getElem?_cons_succ] at hK2 ⊢
    have hK := Lib.hid hK2
    clear hK2
    generalize vs 4 = y4 at *
    have h4 : y4 = _ := h4
    subst h4
    have xx := hb.cell (p := ⟨w.heap.size + 1, 0, none⟩) (by simp; omega)
    rw [xb0] at xx
    simp only [Region.wanted, Ivr.yieldedD, Ivr.dst, List.getD_cons_zero, List.getD_cons_succ]
    go_simp
    refine hK.out _ _ (Eq.refl _) (.of_below (Below.refl _ _))
  · intro vs w' hb hv K hK
    have h3 : RowJ impK W2.heap.size W1 w' (vs 3) a0 := hv 3 (by simp)
    have h5 : (Ivr.MP.is W2.heap.size (.slice r0 b0.length j0)).p (vs 5) w' := hv 5 (by simp)
    clear hv
    have hK2 := hK.out
    clear hK
    simp only [Ivr.putD, Ivr.dst, List.foldl_cons, List.foldl_nil, List.getD_cons_zero, List.getD_cons_succ, Act.put, List.setIfInBounds_toArray, List.set_cons_zero, List.set_cons_succ, List.filterMap_cons, List.filterMap_nil, List.getElem?_toArray, List.getElem?_cons_zero, List.getElem?_cons_succ] at hK2 ⊢
    have hK := Lib.hid hK2
    clear hK2
    generalize vs 3 = y3 at *
    generalize vs 5 = y5 at *
    have h5 : y5 = _ := h5
    subst h5
    simp only [Region.wanted, if_true]
    obtain ⟨v2, w2, hr2, ho2, hc2⟩ := rowJ_append h3 (HB12.out.trans (hb.mono HB12.out.size)) hb.size Q0.out (by first | omega | simp) (by omega)
    refine operT_append (T := 23) (.tmp 8) (.tmp 10) rfl rfl rfl rfl hr2 ?_
    exact hK.out _ _ ho2 hc2
  · intro vs w' hb hv K hK
    clear hv
    have hK2 := hK.out
    clear hK
    simp only [Ivr.putD, Ivr.dst, List.foldl_cons, List.foldl_nil, List.getD_cons_zero, List.getD_cons_succ, Act.put, List.setIfInBounds_toArray, List.set_cons_zero, List.set_cons_succ, List.filterMap_cons, List.filterMap_nil, List.getElem?_toArray, List.getElem?_cons_zero, List.getElem?_cons_succ] at hK2 ⊢
    have hK := Lib.hid hK2
    clear hK2
    simp only [Region.wanted, Ivr.yieldedD, Ivr.dst, List.getD_cons_zero, List.getD_cons_succ]
    go_simp
    refine hK.out _ _ (rowJ_empty hb.size) (.of_below (below_alloc _ _))
  · intro vs w' hb hv K hK
    clear hv
    have hK2 := hK.out
    clear hK
    simp only [Ivr.putD, Ivr.dst, List.foldl_cons, List.foldl_nil, List.getD_cons_zero, List.getD_cons_succ, Act.put, List.setIfInBounds_toArray, List.set_cons_zero, List.set_cons_succ, List.filterMap_cons, List.filterMap_nil, List.getElem?_toArray, List.getElem?_cons_zero, List.getElem?_cons_succ] at hK2 ⊢
    have hK := Lib.hid hK2
    clear hK2
    simp only [Region.wanted, Ivr.yieldedD, Ivr.dst, List.getD_cons_zero, List.getD_cons_succ]
    go_simp
    refine hK.out _ _ (Eq.refl _) (.of_below (Below.refl _ _))
  · intro vs w' hb hv K hK
    have h8 : (Ivr.MP.is W2.heap.size (.pointer (some ⟨w.heap.size, 1, none⟩))).p (vs 8) w' := hv 8 (by simp)
    clear hv
    have hK2 := hK.out
    clear hK
    simp only [Ivr.putD, Ivr.dst, List.foldl_cons, List.foldl_nil, List.getD_cons_zero, List.getD_cons_succ, Act.put, List.setIfInBounds_toArray, List.set_cons_zero, List.set_cons_succ, List.filterMap_cons, List.filterMap_nil, List.getElem?_toArray, List.getElem?_cons_zero, List.getElem?_cons_succ] at hK2 ⊢
    have hK := Lib.hid hK2
    clear hK2
    generalize vs 8 = y8 at *
    have h8 : y8 = _ := h8
    subst h8
    have xx := hb.cell (p := ⟨w.heap.size, 1, none⟩) (by simp; omega)
    rw [xa1] at xx
    simp only [Region.wanted, Ivr.yieldedD, Ivr.dst, List.getD_cons_zero, List.getD_cons_succ]
    go_simp
    refine hK.out _ _ (Eq.refl _) (.of_below (Below.refl _ _))
  · intro vs w' hb hv K hK
    have h7 : RowJ tydK W2.heap.size W1 w' (vs 7) [] := hv 7 (by simp)
    have h9 : (Ivr.MP.is W2.heap.size (.slice q1 a1.length k1)).p (vs 9) w' := hv 9 (by simp)
    clear hv
    have hK2 := hK.out
    clear hK
    simp only [Ivr.putD, Ivr.dst, List.foldl_cons, List.foldl_nil, List.getD_cons_zero, List.getD_cons_succ, Act.put, List.setIfInBounds_toArray, List.set_cons_zero, List.set_cons_succ, List.filterMap_cons, List.filterMap_nil, List.getElem?_toArray, List.getElem?_cons_zero, List.getElem?_cons_succ] at hK2 ⊢
    have hK := Lib.hid hK2
    clear hK2
    generalize vs 6 = y6 at *
    generalize vs 7 = y7 at *
    generalize vs 9 = y9 at *
    have h9 : y9 = _ := h9
    subst h9
    simp only [Region.wanted, if_true]
    obtain ⟨v2, w2, hr2, ho2, hc2⟩ := rowJ_append h7 (HB12.out.trans (hb.mono HB12.out.size)) hb.size P1.out (by first | omega | simp) (by omega)
    refine operT_append (T := 24) (.tmp 12) (.tmp 14) rfl rfl rfl rfl hr2 ?_
    exact hK.out _ _ ho2 hc2
  · intro vs w' hb hv K hK
    clear hv
    have hK2 := hK.out
    clear hK
    simp only [Ivr.putD, Ivr.dst, List.foldl_cons, List.foldl_nil, List.getD_cons_zero, List.getD_cons_succ, Act.put, List.setIfInBounds_toArray, List.set_cons_zero, List.set_cons_succ, List.filterMap_cons, List.filterMap_nil, List.getElem?_toArray, List.getElem?_cons_zero, List.getElem?_cons_succ] at hK2 ⊢
    have hK := Lib.hid hK2
    clear hK2
    simp only [Region.wanted, Ivr.yieldedD, Ivr.dst, List.getD_cons_zero, List.getD_cons_succ]
    go_simp
    refine hK.out _ _ (Eq.refl _) (.of_below (Below.refl _ _))
  · intro vs w' hb hv K hK
    have h11 : (Ivr.MP.is W2.heap.size (.pointer (some ⟨w.heap.size + 1, 1, none⟩))).p (vs 11) w' := hv 11 (by simp)
    clear hv
    have hK2 := hK.out
    clear hK
    simp only [Ivr.putD, Ivr.dst, List.foldl_cons, List.foldl_nil, List.getD_cons_zero, List.getD_cons_succ, Act.put, List.setIfInBounds_toArray, List.set_cons_zero, List.set_cons_succ, List.filterMap_cons, List.filterMap_nil, List.getElem?_toArray, List.getElem?_cons_zero, List.getElem?_cons_succ] at hK2 ⊢
    have hK := Lib.hid hK2
    clear hK2
    generalize vs 11 = y11 at *
    have h11 : y11 = _ := h11
    subst h11
    have xx := hb.cell (p := ⟨w.heap.size + 1, 1, none⟩) (by simp; omega)
    rw [xb1] at xx
    simp only [Region.wanted, Ivr.yieldedD, Ivr.dst, List.getD_cons_zero, List.getD_cons_succ]
    go_simp
    refine hK.out _ _ (Eq.refl _) (.of_below (Below.refl _ _))
  · intro vs w' hb hv K hK
    have h10 : RowJ tydK W2.heap.size W1 w' (vs 10) a1 := hv 10 (by simp)
    have h12 : (Ivr.MP.is W2.heap.size (.slice r1 b1.length j1)).p (vs 12) w' := hv 12 (by simp)
    clear hv
    have hK2 := hK.out
    clear hK
    simp only [Ivr.putD, Ivr.dst, List.foldl_cons, List.foldl_nil, List.getD_cons_zero, List.getD_cons_succ, Act.put, List.setIfInBounds_toArray, List.set_cons_zero, List.set_cons_succ, List.filterMap_cons, List.filterMap_nil, List.getElem?_toArray, List.getElem?_cons_zero, List.getElem?_cons_succ] at hK2 ⊢
    have hK := Lib.hid hK2
    clear hK2
    generalize vs 10 = y10 at *
    generalize vs 12 = y12 at *
    have h12 : y12 = _ := h12
    subst h12
    simp only [Region.wanted, if_true]
    obtain ⟨v2, w2, hr2, ho2, hc2⟩ := rowJ_append h10 (HB12.out.trans (hb.mono HB12.out.size)) hb.size Q1.out (by first | omega | simp) (by omega)
    refine operT_append (T := 24) (.tmp 15) (.tmp 17) rfl rfl rfl rfl hr2 ?_
    exact hK.out _ _ ho2 hc2
  · intro vs w' hb hv K hK
    clear hv
    have hK2 := hK.out
    clear hK
    simp only [Ivr.putD, Ivr.dst, List.foldl_cons, List.foldl_nil, List.getD_cons_zero, List.getD_cons_succ, Act.put, List.setIfInBounds_toArray, List.set_cons_zero, List.set_cons_succ, List.filterMap_cons, List.filterMap_nil, List.getElem?_toArray, List.getElem?_cons_zero, List.getElem?_cons_succ] at hK2 ⊢
    have hK := Lib.hid hK2
    clear hK2
    simp only [Region.wanted, Ivr.yieldedD, Ivr.dst, List.getD_cons_zero, List.getD_cons_succ]
    go_simp
    refine hK.out _ _ (rowJ_empty hb.size) (.of_below (below_alloc _ _))
  · intro vs w' hb hv K hK
    clear hv
    have hK2 := hK.out
    clear hK
    simp only [Ivr.putD, Ivr.dst, List.foldl_cons, List.foldl_nil, List.getD_cons_zero, List.getD_cons_succ, Act.put, List.setIfInBounds_toArray, List.set_cons_zero, List.set_cons_succ, List.filterMap_cons, List.filterMap_nil, List.getElem?_toArray, List.getElem?_cons_zero, List.getElem?_cons_succ] at hK2 ⊢
    have hK := Lib.hid hK2
    clear hK2
    simp only [Region.wanted, Ivr.yieldedD, Ivr.dst, List.getD_cons_zero, List.getD_cons_succ]
    go_simp
    refine hK.out _ _ (Eq.refl _) (.of_below (Below.refl _ _))
  · intro vs w' hb hv K hK
    have h15 : (Ivr.MP.is W2.heap.size (.pointer (some ⟨w.heap.size, 2, none⟩))).p (vs 15) w' := hv 15 (by simp)
    clear hv
    have hK2 := hK.out
    clear hK
    simp only [Ivr.putD, Ivr.dst, List.foldl_cons, List.foldl_nil, List.getD_cons_zero, List.getD_cons_succ, Act.put, List.setIfInBounds_toArray, List.set_cons_zero, List.set_cons_succ, List.filterMap_cons, List.filterMap_nil, List.getElem?_toArray, List.getElem?_cons_zero, List.getElem?_cons_succ] at hK2 ⊢
    have hK := Lib.hid hK2
    clear hK2
    generalize vs 15 = y15 at *
    have h15 : y15 = _ := h15
    subst h15
    have xx := hb.cell (p := ⟨w.heap.size, 2, none⟩) (by simp; omega)
    rw [xa2] at xx
    simp only [Region.wanted, Ivr.yieldedD, Ivr.dst, List.getD_cons_zero, List.getD_cons_succ]
    go_simp
    refine hK.out _ _ (Eq.refl _) (.of_below (Below.refl _ _))
  · intro vs w' hb hv K hK
    have h14 : RowJ aliK W2.heap.size W1 w' (vs 14) [] := hv 14 (by simp)
    have h16 : (Ivr.MP.is W2.heap.size (.slice q2 a2.length k2)).p (vs 16) w' := hv 16 (by simp)
    clear hv
    have hK2 := hK.out
    clear hK
    simp only [Ivr.putD, Ivr.dst, List.foldl_cons, List.foldl_nil, List.getD_cons_zero, List.getD_cons_succ, Act.put, List.setIfInBounds_toArray, List.set_cons_zero, List.set_cons_succ, List.filterMap_cons, List.filterMap_nil, List.getElem?_toArray, List.getElem?_cons_zero, List.getElem?_cons_succ] at hK2 ⊢
    have hK := Lib.hid hK2
    clear hK2
    generalize vs 13 = y13 at *
    generalize vs 14 = y14 at *
    generalize vs 16 = y16 at *
    have h16 : y16 = _ := h16
    subst h16
    simp only [Region.wanted, if_true]
    obtain ⟨v2, w2, hr2, ho2, hc2⟩ := rowJ_append h14 (HB12.out.trans (hb.mono HB12.out.size)) hb.size P2.out (by first | omega | simp) (by omega)
    refine operT_append (T := 25) (.tmp 19) (.tmp 21) rfl rfl rfl rfl hr2 ?_
    exact hK.out _ _ ho2 hc2
  · intro vs w' hb hv K hK
    clear hv
    have hK2 := hK.out
    clear hK
    simp only [Ivr.putD, Ivr.dst, List.foldl_cons, List.foldl_nil, List.getD_cons_zero, List.getD_cons_succ, Act.put, List.setIfInBounds_toArray, List.set_cons_zero, List.set_cons_succ, List.filterMap_cons, List.filterMap_nil, List.getElem?_toArray, List.getElem?_cons_zero, List.getElem?_cons_succ] at hK2 ⊢
    have hK := Lib.hid hK2
    clear hK2
    simp only [Region.wanted, Ivr.yieldedD, Ivr.dst, List.getD_cons_zero, List.getD_cons_succ]
    go_simp
    refine hK.out _ _ (Eq.refl _) (.of_below (Below.refl _ _))
  · intro vs w' hb hv K hK
    have h18 : (Ivr.MP.is W2.heap.size (.pointer (some ⟨w.heap.size + 1, 2, none⟩))).p (vs 18) w' := hv 18 (by simp)
    clear hv
    have hK2 := hK.out
    clear hK
    simp only [Ivr.putD, Ivr.dst, List.foldl_cons, List.foldl_nil, List.getD_cons_zero, List.getD_cons_succ, Act.put, List.setIfInBounds_toArray, List.set_cons_zero, List.set_cons_succ, List.filterMap_cons, List.filterMap_nil, List.getElem?_toArray, List.getElem?_cons_zero, List.getElem?_cons_succ] at hK2 ⊢
    have hK := Lib.hid hK2
    clear hK2
    generalize vs 18 = y18 at *
    have h18 : y18 = _ := h18
    subst h18
    have xx := hb.cell (p := ⟨w.heap.size + 1, 2, none⟩) (by simp; omega)
    rw [xb2] at xx
    simp only [Region.wanted, Ivr.yieldedD, Ivr.dst, List.getD_cons_zero, List.getD_cons_succ]
    go_simp
    refine hK.out _ _ (Eq.refl _) (.of_below (Below.refl _ _))
  · intro vs w' hb hv K hK
    have h17 : RowJ aliK W2.heap.size W1 w' (vs 17) a2 := hv 17 (by simp)
    have h19 : (Ivr.MP.is W2.heap.size (.slice r2 b2.length j2)).p (vs 19) w' := hv 19 (by simp)
    clear hv
    have hK2 := hK.out
    clear hK
    simp only [Ivr.putD, Ivr.dst, List.foldl_cons, List.foldl_nil, List.getD_cons_zero, List.getD_cons_succ, Act.put, List.setIfInBounds_toArray, List.set_cons_zero, List.set_cons_succ, List.filterMap_cons, List.filterMap_nil, List.getElem?_toArray, List.getElem?_cons_zero, List.getElem?_cons_succ] at hK2 ⊢
    have hK := Lib.hid hK2
    clear hK2
    generalize vs 17 = y17 at *
    generalize vs 19 = y19 at *
    have h19 : y19 = _ := h19
    subst h19
    simp only [Region.wanted, if_true]
    obtain ⟨v2, w2, hr2, ho2, hc2⟩ := rowJ_append h17 (HB12.out.trans (hb.mono HB12.out.size)) hb.size Q2.out (by first | omega | simp) (by omega)
    refine operT_append (T := 25) (.tmp 22) (.tmp 24) rfl rfl rfl rfl hr2 ?_
    exact hK.out _ _ ho2 hc2
  · intro vs w' hb hv K hK
    clear hv
    have hK2 := hK.out
    clear hK
    simp only [Ivr.putD, Ivr.dst, List.foldl_cons, List.foldl_nil, List.getD_cons_zero, List.getD_cons_succ, Act.put, List.setIfInBounds_toArray, List.set_cons_zero, List.set_cons_succ, List.filterMap_cons, List.filterMap_nil, List.getElem?_toArray, List.getElem?_cons_zero, List.getElem?_cons_succ] at hK2 ⊢
    have hK := Lib.hid hK2
    clear hK2
    simp only [Region.wanted, Ivr.yieldedD, Ivr.dst, List.getD_cons_zero, List.getD_cons_succ]
    go_simp
    refine hK.out _ _ (rowJ_empty hb.size) (.of_below (below_alloc _ _))
  · intro vs w' hb hv K hK
    clear hv
    have hK2 := hK.out
    clear hK
    simp only [Ivr.putD, Ivr.dst, List.foldl_cons, List.foldl_nil, List.getD_cons_zero, List.getD_cons_succ, Act.put, List.setIfInBounds_toArray, List.set_cons_zero, List.set_cons_succ, List.filterMap_cons, List.filterMap_nil, List.getElem?_toArray, List.getElem?_cons_zero, List.getElem?_cons_succ] at hK2 ⊢
    have hK := Lib.hid hK2
    clear hK2
    simp only [Region.wanted, Ivr.yieldedD, Ivr.dst, List.getD_cons_zero, List.getD_cons_succ]
    go_simp
    refine hK.out _ _ (Eq.refl _) (.of_below (Below.refl _ _))
  · intro vs w' hb hv K hK
    have h22 : (Ivr.MP.is W2.heap.size (.pointer (some ⟨w.heap.size, 3, none⟩))).p (vs 22) w' := hv 22 (by simp)
    clear hv
    have hK2 := hK.out
    clear hK
    simp only [Ivr.putD, Ivr.dst, List.foldl_cons, List.foldl_nil, List.getD_cons_zero, List.getD_cons_succ, Act.put, List.setIfInBounds_toArray, List.set_cons_zero, List.set_cons_succ, List.filterMap_cons, List.filterMap_nil, List.getElem?_toArray, List.getElem?_cons_zero, List.getElem?_cons_succ] at hK2 ⊢
    have hK := Lib.hid hK2
    clear hK2
    generalize vs 22 = y22 at *
    have h22 : y22 = _ := h22
    subst h22
    have xx := hb.cell (p := ⟨w.heap.size, 3, none⟩) (by simp; omega)
    rw [xa3] at xx
    simp only [Region.wanted, Ivr.yieldedD, Ivr.dst, List.getD_cons_zero, List.getD_cons_succ]
    go_simp
    refine hK.out _ _ (Eq.refl _) (.of_below (Below.refl _ _))
  · intro vs w' hb hv K hK
    have h21 : RowJ letIK W2.heap.size W1 w' (vs 21) [] := hv 21 (by simp)
    have h23 : (Ivr.MP.is W2.heap.size (.slice q3 a3.length k3)).p (vs 23) w' := hv 23 (by simp)
    clear hv
    have hK2 := hK.out
    clear hK
    simp only [Ivr.putD, Ivr.dst, List.foldl_cons, List.foldl_nil, List.getD_cons_zero, List.getD_cons_succ, Act.put, List.setIfInBounds_toArray, List.set_cons_zero, List.set_cons_succ, List.filterMap_cons, List.filterMap_nil, List.getElem?_toArray, List.getElem?_cons_zero, List.getElem?_cons_succ] at hK2 ⊢
    have hK := Lib.hid hK2
    clear hK2
    generalize vs 20 = y20 at *
    generalize vs 21 = y21 at *
    generalize vs 23 = y23 at *
    have h23 : y23 = _ := h23
    subst h23
    simp only [Region.wanted, if_true]
    obtain ⟨v2, w2, hr2, ho2, hc2⟩ := rowJ_append h21 (HB12.out.trans (hb.mono HB12.out.size)) hb.size P3.out (by first | omega | simp) (by omega)
    refine operT_append (T := 26) (.tmp 26) (.tmp 28) rfl rfl rfl rfl hr2 ?_
    exact hK.out _ _ ho2 hc2
  · intro vs w' hb hv K hK
    clear hv
    have hK2 := hK.out
    clear hK
    simp only [Ivr.putD, Ivr.dst, List.foldl_cons, List.foldl_nil, List.getD_cons_zero, List.getD_cons_succ, Act.put, List.setIfInBounds_toArray, List.set_cons_zero, List.set_cons_succ, List.filterMap_cons, List.filterMap_nil, List.getElem?_toArray, List.getElem?_cons_zero, List.getElem?_cons_succ] at hK2 ⊢
    have hK := Lib.hid hK2
    clear hK2
    simp only [Region.wanted, Ivr.yieldedD, Ivr.dst, List.getD_cons_zero, List.getD_cons_succ]
    go_simp
    refine hK.out _ _ (Eq.refl _) (.of_below (Below.refl _ _))
  · intro vs w' hb hv K hK
    have h25 : (Ivr.MP.is W2.heap.size (.pointer (some ⟨w.heap.size + 1, 3, none⟩))).p (vs 25) w' := hv 25 (by simp)
    clear hv
    have hK2 := hK.out
    clear hK
    simp only [Ivr.putD, Ivr.dst, List.foldl_cons, List.foldl_nil, List.getD_cons_zero, List.getD_cons_succ, Act.put, List.setIfInBounds_toArray, List.set_cons_zero, List.set_cons_succ, List.filterMap_cons, List.filterMap_nil, List.getElem?_toArray, List.getElem?_cons_zero, List.getElem?_cons_succ] at hK2 ⊢
    have hK := Lib.hid hK2
    clear hK2
    generalize vs 25 = y25 at *
    have h25 : y25 = _ := h25
    subst h25
    have xx := hb.cell (p := ⟨w.heap.size + 1, 3, none⟩) (by simp; omega)
    rw [xb3] at xx
    simp only [Region.wanted, Ivr.yieldedD, Ivr.dst, List.getD_cons_zero, List.getD_cons_succ]
    go_simp
    refine hK.out _ _ (Eq.refl _) (.of_below (Below.refl _ _))
  · intro vs w' hb hv K hK
    have h24 : RowJ letIK W2.heap.size W1 w' (vs 24) a3 := hv 24 (by simp)
    have h26 : (Ivr.MP.is W2.heap.size (.slice r3 b3.length j3)).p (vs 26) w' := hv 26 (by simp)
    clear hv
    have hK2 := hK.out
    clear hK
    simp only [Ivr.putD, Ivr.dst, List.foldl_cons, List.foldl_nil, List.getD_cons_zero, List.getD_cons_succ, Act.put, List.setIfInBounds_toArray, List.set_cons_zero, List.set_cons_succ, List.filterMap_cons, List.filterMap_nil, List.getElem?_toArray, List.getElem?_cons_zero, List.getElem?_cons_succ] at hK2 ⊢
    have hK := Lib.hid hK2
    clear hK2
    generalize vs 24 = y24 at *
    generalize vs 26 = y26 at *
    have h26 : y26 = _ := h26
    subst h26
    simp only [Region.wanted, if_true]
    obtain ⟨v2, w2, hr2, ho2, hc2⟩ := rowJ_append h24 (HB12.out.trans (hb.mono HB12.out.size)) hb.size Q3.out (by first | omega | simp) (by omega)
    refine operT_append (T := 26) (.tmp 29) (.tmp 31) rfl rfl rfl rfl hr2 ?_
    exact hK.out _ _ ho2 hc2
  · intro vs w' hb hv K hK
    clear hv
    have hK2 := hK.out
    clear hK
    simp only [Ivr.putD, Ivr.dst, List.foldl_cons, List.foldl_nil, List.getD_cons_zero, List.getD_cons_succ, Act.put, List.setIfInBounds_toArray, List.set_cons_zero, List.set_cons_succ, List.filterMap_cons, List.filterMap_nil, List.getElem?_toArray, List.getElem?_cons_zero, List.getElem?_cons_succ] at hK2 ⊢
    have hK := Lib.hid hK2
    clear hK2
    simp only [Region.wanted, Ivr.yieldedD, Ivr.dst, List.getD_cons_zero, List.getD_cons_succ]
    go_simp
    refine hK.out _ _ (rowJ_empty hb.size) (.of_below (below_alloc _ _))
  · intro vs w' hb hv K hK
    clear hv
    have hK2 := hK.out
    clear hK
    simp only [Ivr.putD, Ivr.dst, List.foldl_cons, List.foldl_nil, List.getD_cons_zero, List.getD_cons_succ, Act.put, List.setIfInBounds_toArray, List.set_cons_zero, List.set_cons_succ, List.filterMap_cons, List.filterMap_nil, List.getElem?_toArray, List.getElem?_cons_zero, List.getElem?_cons_succ] at hK2 ⊢
    have hK := Lib.hid hK2
    clear hK2
    simp only [Region.wanted, Ivr.yieldedD, Ivr.dst, List.getD_cons_zero, List.getD_cons_succ]
    go_simp
    refine hK.out _ _ (Eq.refl _) (.of_below (Below.refl _ _))
  · intro vs w' hb hv K hK
    have h29 : (Ivr.MP.is W2.heap.size (.pointer (some ⟨w.heap.size, 4, none⟩))).p (vs 29) w' := hv 29 (by simp)
    clear hv
    have hK2 := hK.out
    clear hK
    simp only [Ivr.putD, Ivr.dst, List.foldl_cons, List.foldl_nil, List.getD_cons_zero, List.getD_cons_succ, Act.put, List.setIfInBounds_toArray, List.set_cons_zero, List.set_cons_succ, List.filterMap_cons, List.filterMap_nil, List.getElem?_toArray, List.getElem?_cons_zero, List.getElem?_cons_succ] at hK2 ⊢
    have hK := Lib.hid hK2
    clear hK2
    generalize vs 29 = y29 at *
    have h29 : y29 = _ := h29
    subst h29
    have xx := hb.cell (p := ⟨w.heap.size, 4, none⟩) (by simp; omega)
    rw [xa4] at xx
    simp only [Region.wanted, Ivr.yieldedD, Ivr.dst, List.getD_cons_zero, List.getD_cons_succ]
    go_simp
    refine hK.out _ _ (Eq.refl _) (.of_below (Below.refl _ _))
  · intro vs w' hb hv K hK
    have h28 : RowJ expK W2.heap.size W1 w' (vs 28) [] := hv 28 (by simp)
    have h30 : (Ivr.MP.is W2.heap.size (.slice q4 a4.length k4)).p (vs 30) w' := hv 30 (by simp)
    clear hv
    have hK2 := hK.out
    clear hK
    simp only [Ivr.putD, Ivr.dst, List.foldl_cons, List.foldl_nil, List.getD_cons_zero, List.getD_cons_succ, Act.put, List.setIfInBounds_toArray, List.set_cons_zero, List.set_cons_succ, List.filterMap_cons, List.filterMap_nil, List.getElem?_toArray, List.getElem?_cons_zero, List.getElem?_cons_succ] at hK2 ⊢
    have hK := Lib.hid hK2
    clear hK2
    generalize vs 27 = y27 at *
    generalize vs 28 = y28 at *
    generalize vs 30 = y30 at *
    have h30 : y30 = _ := h30
    subst h30
    simp only [Region.wanted, if_true]
    obtain ⟨v2, w2, hr2, ho2, hc2⟩ := rowJ_append h28 (HB12.out.trans (hb.mono HB12.out.size)) hb.size P4.out (by first | omega | simp) (by omega)
    refine operT_append (T := 27) (.tmp 33) (.tmp 35) rfl rfl rfl rfl hr2 ?_
    exact hK.out _ _ ho2 hc2
  · intro vs w' hb hv K hK
    clear hv
    have hK2 := hK.out
    clear hK
    simp only [Ivr.putD, Ivr.dst, List.foldl_cons, List.foldl_nil, List.getD_cons_zero, List.getD_cons_succ, Act.put, List.setIfInBounds_toArray, List.set_cons_zero, List.set_cons_succ, List.filterMap_cons, List.filterMap_nil, List.getElem?_toArray, List.getElem?_cons_zero, List.getElem?_cons_succ] at hK2 ⊢
    have hK := Lib.hid hK2
    clear hK2
    simp only [Region.wanted, Ivr.yieldedD, Ivr.dst, List.getD_cons_zero, List.getD_cons_succ]
    go_simp
    refine hK.out _ _ (Eq.refl _) (.of_below (Below.refl _ _))
  · intro vs w' hb hv K hK
    have h32 : (Ivr.MP.is W2.heap.size (.pointer (some ⟨w.heap.size + 1, 4, none⟩))).p (vs 32) w' := hv 32 (by simp)
    clear hv
    have hK2 := hK.out
    clear hK
    simp only [Ivr.putD, Ivr.dst, List.foldl_cons, List.foldl_nil, List.getD_cons_zero, List.getD_cons_succ, Act.put, List.setIfInBounds_toArray, List.set_cons_zero, List.set_cons_succ, List.filterMap_cons, List.filterMap_nil, List.getElem?_toArray, List.getElem?_cons_zero, List.getElem?_cons_succ] at hK2 ⊢
    have hK := Lib.hid hK2
    clear hK2
    generalize vs 32 = y32 at *
    have h32 : y32 = _ := h32
    subst h32
    have xx := hb.cell (p := ⟨w.heap.size + 1, 4, none⟩) (by simp; omega)
    rw [xb4] at xx
    simp only [Region.wanted, Ivr.yieldedD, Ivr.dst, List.getD_cons_zero, List.getD_cons_succ]
    go_simp
    refine hK.out _ _ (Eq.refl _) (.of_below (Below.refl _ _))
  · intro vs w' hb hv K hK
    have h31 : RowJ expK W2.heap.size W1 w' (vs 31) a4 := hv 31 (by simp)
    have h33 : (Ivr.MP.is W2.heap.size (.slice r4 b4.length j4)).p (vs 33) w' := hv 33 (by simp)
    clear hv
    have hK2 := hK.out
    clear hK
    simp only [Ivr.putD, Ivr.dst, List.foldl_cons, List.foldl_nil, List.getD_cons_zero, List.getD_cons_succ, Act.put, List.setIfInBounds_toArray, List.set_cons_zero, List.set_cons_succ, List.filterMap_cons, List.filterMap_nil, List.getElem?_toArray, List.getElem?_cons_zero, List.getElem?_cons_succ] at hK2 ⊢
    have hK := Lib.hid hK2
    clear hK2
    generalize vs 31 = y31 at *
    generalize vs 33 = y33 at *
    have h33 : y33 = _ := h33
    subst h33
    simp only [Region.wanted, if_true]
    obtain ⟨v2, w2, hr2, ho2, hc2⟩ := rowJ_append h31 (HB12.out.trans (hb.mono HB12.out.size)) hb.size Q4.out (by first | omega | simp) (by omega)
    refine operT_append (T := 27) (.tmp 36) (.tmp 38) rfl rfl rfl rfl hr2 ?_
    exact hK.out _ _ ho2 hc2
  · have h0 : RowJ impK W2.heap.size W1 wq (vs 6) (a0 ++ b0) := hv 6 (by simp) (by kernel_rfl)
    have h1 : RowJ tydK W2.heap.size W1 wq (vs 13) (a1 ++ b1) := hv 13 (by simp) (by kernel_rfl)
    have h2 : RowJ aliK W2.heap.size W1 wq (vs 20) (a2 ++ b2) := hv 20 (by simp) (by kernel_rfl)
    have h3 : RowJ letIK W2.heap.size W1 wq (vs 27) (a3 ++ b3) := hv 27 (by simp) (by kernel_rfl)
    have h4 : RowJ expK W2.heap.size W1 wq (vs 34) (a4 ++ b4) := hv 34 (by simp) (by kernel_rfl)
    clear hv
    simp only [Ivr.putD, Ivr.dst, List.foldl_cons, List.foldl_nil, List.getD_cons_zero, List.getD_cons_succ, Act.put, List.setIfInBounds_toArray, List.set_cons_zero, List.set_cons_succ, List.filterMap_cons, List.filterMap_nil, List.getElem?_toArray, List.getElem?_cons_zero, List.getElem?_cons_succ]
    generalize vs 0 = yy0 at *
    generalize vs 1 = yy1 at *
    generalize vs 2 = yy2 at *
    generalize vs 3 = yy3 at *
    generalize vs 4 = yy4 at *
    generalize vs 5 = yy5 at *
    generalize vs 6 = yy6 at *
    generalize vs 7 = yy7 at *
    generalize vs 8 = yy8 at *
    generalize vs 9 = yy9 at *
    generalize vs 10 = yy10 at *
    generalize vs 11 = yy11 at *
    generalize vs 12 = yy12 at *
    generalize vs 13 = yy13 at *
    generalize vs 14 = yy14 at *
    generalize vs 15 = yy15 at *
    generalize vs 16 = yy16 at *
    generalize vs 17 = yy17 at *
    generalize vs 18 = yy18 at *
    generalize vs 19 = yy19 at *
    generalize vs 20 = yy20 at *
    generalize vs 21 = yy21 at *
    generalize vs 22 = yy22 at *
    generalize vs 23 = yy23 at *
    generalize vs 24 = yy24 at *
    generalize vs 25 = yy25 at *
    generalize vs 26 = yy26 at *
    generalize vs 27 = yy27 at *
    generalize vs 28 = yy28 at *
    generalize vs 29 = yy29 at *
    generalize vs 30 = yy30 at *
    generalize vs 31 = yy31 at *
    generalize vs 32 = yy32 at *
    generalize vs 33 = yy33 at *
    generalize vs 34 = yy34 at *
    obtain ⟨s0, u0c, hs0⟩ := h0.shape
    subst hs0
    obtain ⟨s1, u1c, hs1⟩ := h1.shape
    subst hs1
    obtain ⟨s2, u2c, hs2⟩ := h2.shape
    subst hs2
    obtain ⟨s3, u3c, hs3⟩ := h3.shape
    subst hs3
    obtain ⟨s4, u4c, hs4⟩ := h4.shape
    subst hs4
    have H0 := Lib.hid h0
    have H1 := Lib.hid h1
    have H2 := Lib.hid h2
    have H3 := Lib.hid h3
    have H4 := Lib.hid h4
    have hbx := hb_below K4.out hbq (by omega)
    have HBQ := Lib.hid hbq
    clear h0 h1 h2 h3 h4 hbq
    obtain ⟨e0, e1, e2, e3, e4, g0, g1, g2, g3, g4⟩ := box5 hbx
    have HBX := Lib.hid hbx
    clear hbx
    go_wp2
    rw [← List.length_append, ← List.length_append, ← List.length_append, ← List.length_append, ← List.length_append]
    refine bodyPost_ret (v := .agg #[.slice s0 (a0 ++ b0).length u0c, .slice s1 (a1 ++ b1).length u1c, .slice s2 (a2 ++ b2).length u2c, .slice s3 (a3 ++ b3).length u3c, .slice s4 (a4 ++ b4).length u4c]) (res_join rfl (set5 HBX.out _ _ _ _ _)) rfl ?_
    have hbc := HB12.out.trans (HBQ.out.mono HB12.out.size)
    have hother : ∀ b, b ≠ w.heap.size + 2 → (((((wq.setCell ⟨w.heap.size + 2, 0, none⟩ (.slice s0 (a0 ++ b0).length u0c)).setCell ⟨w.heap.size + 2, 1, none⟩ (.slice s1 (a1 ++ b1).length u1c)).setCell ⟨w.heap.size + 2, 2, none⟩ (.slice s2 (a2 ++ b2).length u2c)).setCell ⟨w.heap.size + 2, 3, none⟩ (.slice s3 (a3 ++ b3).length u3c)).setCell ⟨w.heap.size + 2, 4, none⟩ (.slice s4 (a4 ++ b4).length u4c)).heap[b]? = wq.heap[b]? := fun b hne => by
      rw [Below.heap_setCell _ _ _ _ (by simpa using hne), Below.heap_setCell _ _ _ _ (by simpa using hne), Below.heap_setCell _ _ _ _ (by simpa using hne), Below.heap_setCell _ _ _ _ (by simpa using hne), Below.heap_setCell _ _ _ _ (by simpa using hne)]
    have hfin : Below w.heap.size w (((((wq.setCell ⟨w.heap.size + 2, 0, none⟩ (.slice s0 (a0 ++ b0).length u0c)).setCell ⟨w.heap.size + 2, 1, none⟩ (.slice s1 (a1 ++ b1).length u1c)).setCell ⟨w.heap.size + 2, 2, none⟩ (.slice s2 (a2 ++ b2).length u2c)).setCell ⟨w.heap.size + 2, 3, none⟩ (.slice s3 (a3 ++ b3).length u3c)).setCell ⟨w.heap.size + 2, 4, none⟩ (.slice s4 (a4 ++ b4).length u4c)) := (((((HBA.out.trans (HBQ.out.mono HBA.out.size)).setCell (Nat.le_add_right _ 2) _).setCell (Nat.le_add_right _ 2) _).setCell (Nat.le_add_right _ 2) _).setCell (Nat.le_add_right _ 2) _).setCell (Nat.le_add_right _ 2) _
    generalize (((((wq.setCell ⟨w.heap.size + 2, 0, none⟩ (.slice s0 (a0 ++ b0).length u0c)).setCell ⟨w.heap.size + 2, 1, none⟩ (.slice s1 (a1 ++ b1).length u1c)).setCell ⟨w.heap.size + 2, 2, none⟩ (.slice s2 (a2 ++ b2).length u2c)).setCell ⟨w.heap.size + 2, 3, none⟩ (.slice s3 (a3 ++ b3).length u3c)).setCell ⟨w.heap.size + 2, 4, none⟩ (.slice s4 (a4 ++ b4).length u4c)) = WF at *
    exact ⟨_, rfl, ⟨s0, u0c, s1, u1c, s2, u2c, s3, u3c, s4, u4c, rfl, H0.out.toS hbc hother (by omega) (by omega), H1.out.toS hbc hother (by omega) (by omega), H2.out.toS hbc hother (by omega) (by omega), H3.out.toS hbc hother (by omega) (by omega), H4.out.toS hbc hother (by omega) (by omega), by simp [joinM]; omega, by simp [joinM]; omega, by simp [joinM]; omega, by simp [joinM]; omega, by simp [joinM]; omega⟩, hfin⟩
end Go.Proofs.YtlbnaddgdgbckaaGreatDoor
/- ParseJoins: the walk. -/
namespace Go.Proofs.YtlbnaddgdgbckaaGreatDoor
open Go.RowKit
set_option linter.unusedSimpArgs false
set_option linter.unusedVariables false
theorem ModS.shape {w : World} {v : Value} {m : Mod} (h : ModS w v m) : ∃ q0 n0 k0 q1 n1 k1 q2 n2 k2 q3 n3 k3 q4 n4 k4, v = .agg #[.slice q0 n0 k0, .slice q1 n1 k1, .slice q2 n2 k2, .slice q3 n3 k3, .slice q4 n4 k4] := by
  obtain ⟨q0, k0, q1, k1, q2, k2, q3, k3, q4, k4, h0, _⟩ := h
  exact ⟨_, _, _, _, _, _, _, _, _, _, _, _, _, _, _, h0⟩
theorem ModV.few {w w' : World} {v : Value} {m : Mod} (h : ModV w w' v m) : m.im.length ≤ 7000 ∧ m.ty.length ≤ 7000 ∧ m.al.length ≤ 7000 ∧ m.le.length ≤ 7000 ∧ m.ex.length ≤ 7000 := by
  obtain ⟨q0, k0, q1, k1, q2, k2, q3, k3, q4, k4, h0, h1, h2, h3, h4, h5, h6⟩ := h
  exact h6
theorem ModV.below {w w1 w2 : World} {v : Value} {m : Mod} (h : ModV w w1 v m) (hb : Below w1.heap.size w1 w2) : ModV w w2 v m := h.move fun b _ hl => hb.block b hl
/-- The reader's answer: what it read, and the number of its fault. -/
def ModZ (z : Int) (X : Except (Nat × Nat) Mod) (w : World) (e : Ending) (w' : World) : Prop := ∃ (q0 : Option Addr) (n0 k0 : Nat) (q1 : Option Addr) (n1 k1 : Nat) (q2 : Option Addr) (n2 k2 : Nat) (q3 : Option Addr) (n3 k3 : Nat) (q4 : Option Addr) (n4 k4 : Nat) (a : Nat), e = .returned (.tuple #[.agg #[.slice q0 n0 k0, .slice q1 n1 k1, .slice q2 n2 k2, .slice q3 n3 k3, .slice q4 n4 k4], .int .i64 a, .int .i64 z]) ∧ Below w.heap.size w w' ∧ (∀ m, X = .ok m → ModV w w' (.agg #[.slice q0 n0 k0, .slice q1 n1 k1, .slice q2 n2 k2, .slice q3 n3 k3, .slice q4 n4 k4]) m)
theorem moduleR_z {s : ByteArray} {z : Int} (hz : ((errOf (modM s) : Nat) : Int) = z) (hm : s.size ≤ 4194304) (w : World) (hw : EscW w) : Calls Tryz.prog 8 #[.string s] w (ModZ z (modM s) w) := by
  refine (moduleR_any s hm w hw).mono ?_
  rintro e w' ⟨hb, h2⟩
  subst hz
  cases h : modM s with
  | ok t =>
    rw [h] at h2
    obtain ⟨v, rfl, hV⟩ := h2
    obtain ⟨q0, n0, k0, q1, n1, k1, q2, n2, k2, q3, n3, k3, q4, n4, k4, rfl⟩ := hV.toS.shape
    exact ⟨q0, n0, k0, q1, n1, k1, q2, n2, k2, q3, n3, k3, q4, n4, k4, 0, rfl, hb, fun t' e => by cases e; exact hV⟩
  | error y =>
    rw [h] at h2
    exact ⟨none, 0, 0, none, 0, 0, none, 0, 0, none, 0, 0, none, 0, 0, y.1, h2, hb, fun t' e => by cases e⟩
theorem modM_err {s : ByteArray} {y : Nat × Nat} (h : modM s = .error y) : ((errOf (modM s) : Nat) : Int) ≠ 0 := by
  have h1 := readM_err (one := modP) (fun E ts p hp => modP_e E ts p hp) h
  rw [h]
  show ((y.2 : Nat) : Int) ≠ 0
  omega
/-- What the three answers may be. -/
def Joined (n : Nat) (z1 z2 z3 : Int) (X1 X2 X3 : Except (Nat × Nat) Mod) : Prop := z1 ≠ 0 ∨ (z1 = 0 ∧ z2 ≠ 0) ∨ (z1 = 0 ∧ z2 = 0 ∧ z3 = 9 ∧ 5000 < n) ∨ (z1 = 0 ∧ z2 = 0 ∧ z3 = 0 ∧ ∃ a b, X1 = .ok a ∧ X2 = .ok b ∧ X3 = .ok (joinM a b))
theorem joined_of {s t : ByteArray} (hs : s.size ≤ 6000) (ht : t.size ≤ 6000) : Joined (s.size + t.size) (errOf (modM s) : Nat) (errOf (modM t) : Nat) (errOf (modM (s ++ ⟨#[10]⟩ ++ t)) : Nat) (modM s) (modM t) (modM (s ++ ⟨#[10]⟩ ++ t)) := by
  cases h1 : modM s with
  | error y => exact .inl (by have := modM_err h1; rw [h1] at this; exact this)
  | ok a =>
    cases h2 : modM t with
    | error y => exact .inr (.inl ⟨rfl, by have := modM_err h2; rw [h2] at this; exact this⟩)
    | ok b =>
      rcases join_read (c := s ++ ⟨#[10]⟩ ++ t) hs ht (by simp [ByteArray.data_append]) h1 h2 with h3 | ⟨⟨p, h3⟩, h4⟩
      · rw [h3]; exact .inr (.inr (.inr ⟨rfl, rfl, rfl, a, b, rfl, rfl, rfl⟩))
      · rw [h3]; exact .inr (.inr (.inl ⟨rfl, rfl, rfl, h4⟩))
set_option maxRecDepth 100000 in
set_option maxHeartbeats 8000000 in
theorem joins_walk (s t : ByteArray) (w : World) (hw : EscW w) : Calls Tryz.prog 3 #[.string s, .string t] w fun e w' => e = .returned (.bool true) ∧ Below w.heap.size w w' := by
  have hpos : 0 < w.heap.size := hw.pos
  have HE := Lib.hid hw
  have HB0 := Lib.hid (Below.refl w.heap.size w)
  clear hw
  by_cases hz : s.size ≤ 6000 ∧ t.size ≤ 6000
  · obtain ⟨hs, ht⟩ := hz
    have hd1 : decide ((6000 : Int) < (s.size : Int)) = false := decide_eq_false (by omega)
    have hd2 : decide ((6000 : Int) < (t.size : Int)) = false := decide_eq_false (by omega)
    have hJ := joined_of hs ht
    have hcz : (s ++ ⟨#[10]⟩ ++ t).size = s.size + t.size + 1 := by
      rw [ByteArray.size_append, ByteArray.size_append]
      show s.size + 1 + t.size = _
      omega
    have C1 := Lib.hid (fun W hW => moduleR_z (s := s) rfl (by omega) W hW)
    have C2 := Lib.hid (fun W hW => moduleR_z (s := t) rfl (by omega) W hW)
    have C3 := Lib.hid (fun W hW => moduleR_z (s := s ++ ⟨#[10]⟩ ++ t) rfl (by omega) W hW)
    generalize ((errOf (modM s) : Nat) : Int) = z1 at *
    generalize ((errOf (modM t) : Nat) : Int) = z2 at *
    generalize ((errOf (modM (s ++ ⟨#[10]⟩ ++ t)) : Nat) : Int) = z3 at *
    generalize modM s = X1 at *
    generalize modM t = X2 at *
    generalize modM (s ++ ⟨#[10]⟩ ++ t) = X3 at *
    have HJN := Lib.hid hJ
    clear hJ hcz
    unfold ModZ at C1 C2 C3
    go_enter Tryz.func3, Tryz.ntmps3
    go_upto_region 4 with (go_at_call 8; (with_reducible refine (C1.out _ (HE.out.below HB0.out hpos)).mono ?_); rintro e w1 ⟨m10, n10, o10, m11, n11, o11, m12, n12, o12, m13, n13, o13, m14, n14, o14, ad1, rfl, hb, hv⟩; have HV1 := Lib.hid hv; have HC1 := Lib.hid hb; clear hb hv)
    have hk := hb_new w1 (.cells #[.slice m10 n10 o10, .slice m11 n11 o11, .slice m12 n12 o12, .slice m13 n13 o13, .slice m14 n14 o14] 29)
    have hb := HC1.out.trans ((below_alloc w1 (.cells #[.slice m10 n10 o10, .slice m11 n11 o11, .slice m12 n12 o12, .slice m13 n13 o13, .slice m14 n14 o14] 29)).mono HC1.out.size)
    have hv := fun t h => (HV1.out t h).below (below_alloc w1 (.cells #[.slice m10 n10 o10, .slice m11 n11 o11, .slice m12 n12 o12, .slice m13 n13 o13, .slice m14 n14 o14] 29))
    generalize hW : w1.alloc (.cells #[.slice m10 n10 o10, .slice m11 n11 o11, .slice m12 n12 o12, .slice m13 n13 o13, .slice m14 n14 o14] 29) = W1 at *
    have HB1 := Lib.hid (HB0.out.trans (hb.mono HB0.out.size))
    have K1 := Lib.hid hk
    have V1 := Lib.hid hv
    have hz1 := hb.size
    clear hW hk hb hv HV1 HC1
    go_upto_region 5 with (go_at_call 8; (with_reducible refine (C2.out _ (HE.out.below HB1.out hpos)).mono ?_); rintro e w2 ⟨m20, n20, o20, m21, n21, o21, m22, n22, o22, m23, n23, o23, m24, n24, o24, ad2, rfl, hb, hv⟩; have HV2 := Lib.hid hv; have HC2 := Lib.hid hb; clear hb hv)
    have hk := hb_new w2 (.cells #[.slice m20 n20 o20, .slice m21 n21 o21, .slice m22 n22 o22, .slice m23 n23 o23, .slice m24 n24 o24] 29)
    have hb := HC2.out.trans ((below_alloc w2 (.cells #[.slice m20 n20 o20, .slice m21 n21 o21, .slice m22 n22 o22, .slice m23 n23 o23, .slice m24 n24 o24] 29)).mono HC2.out.size)
    have hv := fun t h => (HV2.out t h).below (below_alloc w2 (.cells #[.slice m20 n20 o20, .slice m21 n21 o21, .slice m22 n22 o22, .slice m23 n23 o23, .slice m24 n24 o24] 29))
    generalize hW : w2.alloc (.cells #[.slice m20 n20 o20, .slice m21 n21 o21, .slice m22 n22 o22, .slice m23 n23 o23, .slice m24 n24 o24] 29) = W2 at *
    have HB2 := Lib.hid (HB1.out.trans (hb.mono HB1.out.size))
    have hx := hb_below K1.out hb (hb_lt K1.out)
    have hy := fun t h => (V1.out t h).below hb
    clear K1 V1
    have K1 := Lib.hid hx
    have V1 := Lib.hid hy
    clear hx hy
    have K2 := Lib.hid hk
    have V2 := Lib.hid hv
    have hz2 := hb.size
    clear hW hk hb hv HV2 HC2
    rcases HJN.out with hz1 | ⟨hz1, hz2⟩ | hrest
    · have g1 : (z1 != 0) = true := by simpa using hz1
      clear HJN
      go_wp2_with (first | (go_at_call 9; (with_reducible refine (no_any _ _).mono ?_); rintro e w8 ⟨rfl, rfl⟩) | (go_at_call 7; (with_reducible refine (alive_any _ (HE.out.below HB2.out hpos)).mono ?_); rintro e w5 ⟨rfl, hb⟩; have HB9 := Lib.hid hb; clear hb))
      all_goals
        go_ret
        exact ⟨rfl, HB2.out.trans (HB9.out.mono HB2.out.size)⟩
    · subst hz1
      have g2 : (z2 != 0) = true := by simpa using hz2
      clear HJN
      go_wp2_with (first | (go_at_call 9; (with_reducible refine (no_any _ _).mono ?_); rintro e w8 ⟨rfl, rfl⟩) | (go_at_call 7; (with_reducible refine (alive_any _ (HE.out.below HB2.out hpos)).mono ?_); rintro e w5 ⟨rfl, hb⟩; have HB9 := Lib.hid hb; clear hb))
      all_goals
        go_ret
        exact ⟨rfl, HB2.out.trans (HB9.out.mono HB2.out.size)⟩
    · have h12 : z1 = 0 ∧ z2 = 0 := by rcases hrest with ⟨h1, h2, _⟩ | ⟨h1, h2, _⟩ <;> exact ⟨h1, h2⟩
      obtain ⟨rfl, rfl⟩ := h12
      have HR := Lib.hid hrest
      clear HJN hrest
      go_upto_region 8 with (first | (go_at_call 9; (with_reducible refine (no_any _ _).mono ?_); rintro e w8 ⟨rfl, rfl⟩) | (go_at_call 8; (with_reducible refine (C3.out _ (HE.out.below HB2.out hpos)).mono ?_); rintro e w3 ⟨m30, n30, o30, m31, n31, o31, m32, n32, o32, m33, n33, o33, m34, n34, o34, ad3, rfl, hb, hv⟩; have HV3 := Lib.hid hv; have HC3 := Lib.hid hb; clear hb hv))
      have hk := hb_new w3 (.cells #[.slice m30 n30 o30, .slice m31 n31 o31, .slice m32 n32 o32, .slice m33 n33 o33, .slice m34 n34 o34] 29)
      have hb := HC3.out.trans ((below_alloc w3 (.cells #[.slice m30 n30 o30, .slice m31 n31 o31, .slice m32 n32 o32, .slice m33 n33 o33, .slice m34 n34 o34] 29)).mono HC3.out.size)
      have hv := fun t h => (HV3.out t h).below (below_alloc w3 (.cells #[.slice m30 n30 o30, .slice m31 n31 o31, .slice m32 n32 o32, .slice m33 n33 o33, .slice m34 n34 o34] 29))
      generalize hW : w3.alloc (.cells #[.slice m30 n30 o30, .slice m31 n31 o31, .slice m32 n32 o32, .slice m33 n33 o33, .slice m34 n34 o34] 29) = W3 at *
      have HB3 := Lib.hid (HB2.out.trans (hb.mono HB2.out.size))
      have hx := hb_below K1.out hb (hb_lt K1.out)
      have hy := fun t h => (V1.out t h).below hb
      clear K1 V1
      have K1 := Lib.hid hx
      have V1 := Lib.hid hy
      clear hx hy
      have hx := hb_below K2.out hb (hb_lt K2.out)
      have hy := fun t h => (V2.out t h).below hb
      clear K2 V2
      have K2 := Lib.hid hx
      have V2 := Lib.hid hy
      clear hx hy
      have K3 := Lib.hid hk
      have V3 := Lib.hid hv
      have hz3 := hb.size
      clear hW hk hb hv HV3 HC3
      rcases HR.out with ⟨_, _, rfl, hn5⟩ | ⟨_, _, rfl, a, b, e1, e2, e3⟩
      · have g5 : decide ((5000 : Int) < (s.size : Int) + (t.size : Int)) = true := decide_eq_true (by omega)
        clear HR
        go_wp2_with (first | (go_at_call 9; (with_reducible refine (no_any _ _).mono ?_); rintro e w8 ⟨rfl, rfl⟩) | (go_at_call 7; (with_reducible refine (alive_any _ (HE.out.below HB3.out hpos)).mono ?_); rintro e w5 ⟨rfl, hb⟩; have HB9 := Lib.hid hb; clear hb))
        all_goals
          go_ret
          exact ⟨rfl, HB3.out.trans (HB9.out.mono HB3.out.size)⟩
      · have HS3 := Lib.hid (V3.out _ e3).toS
        have HJ : RowKit.Hid (∀ W, Below W3.heap.size W3 W → Calls Tryz.prog 11 #[.agg #[.slice m10 n10 o10, .slice m11 n11 o11, .slice m12 n12 o12, .slice m13 n13 o13, .slice m14 n14 o14], .agg #[.slice m20 n20 o20, .slice m21 n21 o21, .slice m22 n22 o22, .slice m23 n23 o23, .slice m24 n24 o24]] W fun e w' => ∃ v, e = .returned v ∧ ModS w' v (joinM a b) ∧ Below W.heap.size W w') :=
          Lib.hid fun W hW => join_any _ _ a b W ((V1.out _ e1).toS.below hW) ((V2.out _ e2).toS.below hW) (V1.out _ e1).few (V2.out _ e2).few
        clear HR e1 e2 e3
        go_upto_region 10 with (go_at_call 9; (with_reducible refine (no_any _ _).mono ?_); rintro e w8 ⟨rfl, rfl⟩)
        refine wp_region_held_drew (S := (fun w' => RowKit.Hid (Below W3.heap.size W3 w') ∧ w'.cell? ⟨w1.heap.size, 0, none⟩ = some (.slice m10 n10 o10) ∧ w'.cell? ⟨w1.heap.size, 1, none⟩ = some (.slice m11 n11 o11) ∧ w'.cell? ⟨w1.heap.size, 2, none⟩ = some (.slice m12 n12 o12) ∧ w'.cell? ⟨w1.heap.size, 3, none⟩ = some (.slice m13 n13 o13) ∧ w'.cell? ⟨w1.heap.size, 4, none⟩ = some (.slice m14 n14 o14) ∧ w'.cell? ⟨w2.heap.size, 0, none⟩ = some (.slice m20 n20 o20) ∧ w'.cell? ⟨w2.heap.size, 1, none⟩ = some (.slice m21 n21 o21) ∧ w'.cell? ⟨w2.heap.size, 2, none⟩ = some (.slice m22 n22 o22) ∧ w'.cell? ⟨w2.heap.size, 3, none⟩ = some (.slice m23 n23 o23) ∧ w'.cell? ⟨w2.heap.size, 4, none⟩ = some (.slice m24 n24 o24) ∧ w'.cell? ⟨w3.heap.size, 0, none⟩ = some (.slice m30 n30 o30) ∧ w'.cell? ⟨w3.heap.size, 1, none⟩ = some (.slice m31 n31 o31) ∧ w'.cell? ⟨w3.heap.size, 2, none⟩ = some (.slice m32 n32 o32) ∧ w'.cell? ⟨w3.heap.size, 3, none⟩ = some (.slice m33 n33 o33) ∧ w'.cell? ⟨w3.heap.size, 4, none⟩ = some (.slice m34 n34 o34))) (by kernel_rfl) (by exact ⟨Lib.hid (below_drewN (Below.refl _ _) 1), (hb_at K1.out 0 rfl), (hb_at K1.out 1 rfl), (hb_at K1.out 2 rfl), (hb_at K1.out 3 rfl), (hb_at K1.out 4 rfl), (hb_at K2.out 0 rfl), (hb_at K2.out 1 rfl), (hb_at K2.out 2 rfl), (hb_at K2.out 3 rfl), (hb_at K2.out 4 rfl), (hb_at K3.out 0 rfl), (hb_at K3.out 1 rfl), (hb_at K3.out 2 rfl), (hb_at K3.out 3 rfl), (hb_at K3.out 4 rfl)⟩) (fun hHeld => ?_)
        refine wpAnyH_take (i := 0) (oi := ⟨some 65, _, _, _, _, _⟩) (v := ?_) rfl (by kernel_rfl) (by kernel_rfl) (by kernel_rfl) (fun _ _ _ h => h) (Or.inl ⟨by rfl, ?_⟩) (by assumption) ?_
        rotate_left
        focus (intro w hSw; (try dsimp only at hSw); go_simp; first | done | with_reducible rfl)
        try simp only [Act.put, List.setIfInBounds_toArray, List.set_cons_zero, List.set_cons_succ]
        refine wpAnyH_ready (rs := [1]) (by kernel_rfl) (by simp) ?_
        refine AllReadyH.cons (o := ⟨some 66, _, _, _, _, _⟩) rfl (fun K hK => ?_) AllReadyH.nil
        go_simp
        (with_reducible refine (no_any _ _).mono ?_); rintro e w8 ⟨rfl, rfl⟩; have hb : True := trivial
        go_wp2_with fail
        refine hK.out _ _ (by exact hHeld) (fun hNew => ?_)
        clear hK K
        clear hHeld hb; have hHeld := hNew; clear hNew
        try simp only [Act.put, List.setIfInBounds_toArray, List.set_cons_zero, List.set_cons_succ]
        refine wpAnyH_take (i := 2) (oi := ⟨some 67, _, _, _, _, _⟩) (v := ?_) rfl (by kernel_rfl) (by kernel_rfl) (by kernel_rfl) (fun _ _ _ h => h) (Or.inl ⟨by rfl, ?_⟩) (by assumption) ?_
        rotate_left
        focus (intro w hSw; (try dsimp only at hSw); go_simp; first | done | with_reducible rfl)
        try simp only [Act.put, List.setIfInBounds_toArray, List.set_cons_zero, List.set_cons_succ]
        refine wpAnyH_take (i := 3) (oi := ⟨some 68, _, _, _, _, _⟩) (v := ?_) rfl (by kernel_rfl) (by kernel_rfl) (by kernel_rfl) (fun _ _ _ h => h) (Or.inl ⟨by rfl, ?_⟩) (by assumption) ?_
        rotate_left
        focus (intro w hSw; (try dsimp only at hSw); go_simp; first | done | with_reducible rfl)
        try simp only [Act.put, List.setIfInBounds_toArray, List.set_cons_zero, List.set_cons_succ]
        refine wpAnyH_take (i := 4) (oi := ⟨some 69, _, _, _, _, _⟩) (v := ?_) rfl (by kernel_rfl) (by kernel_rfl) (by kernel_rfl) (fun _ _ _ h => h) (Or.inl ⟨by rfl, ?_⟩) (by assumption) ?_
        rotate_left
        focus (intro w hSw; (try dsimp only at hSw); go_simp; first | done | with_reducible rfl)
        try simp only [Act.put, List.setIfInBounds_toArray, List.set_cons_zero, List.set_cons_succ]
        refine wpAnyH_take (i := 5) (oi := ⟨some 70, _, _, _, _, _⟩) (v := ?_) rfl (by kernel_rfl) (by kernel_rfl) (by kernel_rfl) (fun _ _ _ h => h) (Or.inl ⟨by rfl, ?_⟩) (by assumption) ?_
        rotate_left
        focus (intro w hSw; (try dsimp only at hSw); go_simp; first | done | with_reducible rfl)
        try simp only [Act.put, List.setIfInBounds_toArray, List.set_cons_zero, List.set_cons_succ]
        refine wpAnyH_take (i := 6) (oi := ⟨some 71, _, _, _, _, _⟩) (v := ?_) rfl (by kernel_rfl) (by kernel_rfl) (by kernel_rfl) (fun _ _ _ h => h) (Or.inl ⟨by rfl, ?_⟩) (by assumption) ?_
        rotate_left
        focus (intro w hSw; (try dsimp only at hSw); go_simp; first | done | with_reducible rfl)
        try simp only [Act.put, List.setIfInBounds_toArray, List.set_cons_zero, List.set_cons_succ]
        refine wpAnyH_ready (rs := [7]) (by kernel_rfl) (by simp) ?_
        refine AllReadyH.cons (o := ⟨some 72, _, _, _, _, _⟩) rfl (fun K hK => ?_) AllReadyH.nil
        go_simp
        (with_reducible refine (HJ.out _ hHeld.1.out).mono ?_); rintro e w9 ⟨vj, rfl, hj, hb⟩; have HJV := Lib.hid hj; obtain ⟨m40, n40, o40, m41, n41, o41, m42, n42, o42, m43, n43, o43, m44, n44, o44, rfl⟩ := hj.shape; clear hj
        go_wp2_with fail
        refine hK.out _ _ (by exact ⟨Lib.hid (hHeld.1.out.trans (hb.mono hHeld.1.out.size)), keep_cell hb hHeld.2.1, keep_cell hb hHeld.2.2.1, keep_cell hb hHeld.2.2.2.1, keep_cell hb hHeld.2.2.2.2.1, keep_cell hb hHeld.2.2.2.2.2.1, keep_cell hb hHeld.2.2.2.2.2.2.1, keep_cell hb hHeld.2.2.2.2.2.2.2.1, keep_cell hb hHeld.2.2.2.2.2.2.2.2.1, keep_cell hb hHeld.2.2.2.2.2.2.2.2.2.1, keep_cell hb hHeld.2.2.2.2.2.2.2.2.2.2.1, keep_cell hb hHeld.2.2.2.2.2.2.2.2.2.2.2.1, keep_cell hb hHeld.2.2.2.2.2.2.2.2.2.2.2.2.1, keep_cell hb hHeld.2.2.2.2.2.2.2.2.2.2.2.2.2.1, keep_cell hb hHeld.2.2.2.2.2.2.2.2.2.2.2.2.2.2.1, keep_cell hb hHeld.2.2.2.2.2.2.2.2.2.2.2.2.2.2.2⟩) (fun hNew => ?_)
        clear hK K
        clear hHeld hb; have hHeld := hNew; clear hNew
        try simp only [Act.put, List.setIfInBounds_toArray, List.set_cons_zero, List.set_cons_succ]
        refine wpAnyH_ready (rs := [8]) (by kernel_rfl) (by simp) ?_
        refine AllReadyH.cons (o := ⟨some 73, _, _, _, _, _⟩) rfl (fun K hK => ?_) AllReadyH.nil
        go_simp
        (with_reducible refine (modSame_any _ _ _ _ (HS3.out.below (hHeld.1.out)) (HJV.out)).mono ?_); rintro e wa ⟨rfl, hb⟩
        go_wp2_with fail
        refine hK.out _ _ (by exact ⟨Lib.hid (hHeld.1.out.trans (hb.mono hHeld.1.out.size)), keep_cell hb hHeld.2.1, keep_cell hb hHeld.2.2.1, keep_cell hb hHeld.2.2.2.1, keep_cell hb hHeld.2.2.2.2.1, keep_cell hb hHeld.2.2.2.2.2.1, keep_cell hb hHeld.2.2.2.2.2.2.1, keep_cell hb hHeld.2.2.2.2.2.2.2.1, keep_cell hb hHeld.2.2.2.2.2.2.2.2.1, keep_cell hb hHeld.2.2.2.2.2.2.2.2.2.1, keep_cell hb hHeld.2.2.2.2.2.2.2.2.2.2.1, keep_cell hb hHeld.2.2.2.2.2.2.2.2.2.2.2.1, keep_cell hb hHeld.2.2.2.2.2.2.2.2.2.2.2.2.1, keep_cell hb hHeld.2.2.2.2.2.2.2.2.2.2.2.2.2.1, keep_cell hb hHeld.2.2.2.2.2.2.2.2.2.2.2.2.2.2.1, keep_cell hb hHeld.2.2.2.2.2.2.2.2.2.2.2.2.2.2.2⟩) (fun hNew => ?_)
        clear hK K
        clear hHeld hb; have hHeld := hNew; clear hNew
        try simp only [Act.put, List.setIfInBounds_toArray, List.set_cons_zero, List.set_cons_succ]
        refine wpAnyH_take (i := 9) (oi := ⟨some 74, _, _, _, _, _⟩) (v := ?_) rfl (by kernel_rfl) (by kernel_rfl) (by kernel_rfl) (fun _ _ _ h => h) (Or.inl ⟨by rfl, ?_⟩) (by assumption) ?_
        rotate_left
        focus (intro w hSw; (try dsimp only at hSw); go_simp; first | done | with_reducible rfl)
        try simp only [Act.put, List.setIfInBounds_toArray, List.set_cons_zero, List.set_cons_succ]
        refine wpAnyH_take (i := 10) (oi := ⟨some 75, _, _, _, _, _⟩) (v := ?_) rfl (by kernel_rfl) (by kernel_rfl) (by kernel_rfl) (fun _ _ _ h => h) (Or.inl ⟨by rfl, ?_⟩) (by assumption) ?_
        rotate_left
        focus (intro w hSw; (try dsimp only at hSw); go_simp; first | done | with_reducible rfl)
        try simp only [Act.put, List.setIfInBounds_toArray, List.set_cons_zero, List.set_cons_succ]
        refine wpAnyH_ready (rs := [11]) (by kernel_rfl) (by simp) ?_
        refine AllReadyH.cons (o := ⟨some 76, _, _, _, _, _⟩) rfl (fun K hK => ?_) AllReadyH.nil
        go_simp
        (with_reducible refine (alive_any _ (HE.out.below (HB3.out.trans (hHeld.1.out.mono HB3.out.size)) hpos)).mono ?_); rintro e w5 ⟨rfl, hb⟩
        go_wp2_with fail
        refine hK.out _ _ (by exact ⟨Lib.hid (hHeld.1.out.trans (hb.mono hHeld.1.out.size)), keep_cell hb hHeld.2.1, keep_cell hb hHeld.2.2.1, keep_cell hb hHeld.2.2.2.1, keep_cell hb hHeld.2.2.2.2.1, keep_cell hb hHeld.2.2.2.2.2.1, keep_cell hb hHeld.2.2.2.2.2.2.1, keep_cell hb hHeld.2.2.2.2.2.2.2.1, keep_cell hb hHeld.2.2.2.2.2.2.2.2.1, keep_cell hb hHeld.2.2.2.2.2.2.2.2.2.1, keep_cell hb hHeld.2.2.2.2.2.2.2.2.2.2.1, keep_cell hb hHeld.2.2.2.2.2.2.2.2.2.2.2.1, keep_cell hb hHeld.2.2.2.2.2.2.2.2.2.2.2.2.1, keep_cell hb hHeld.2.2.2.2.2.2.2.2.2.2.2.2.2.1, keep_cell hb hHeld.2.2.2.2.2.2.2.2.2.2.2.2.2.2.1, keep_cell hb hHeld.2.2.2.2.2.2.2.2.2.2.2.2.2.2.2⟩) (fun hNew => ?_)
        clear hK K
        clear hHeld hb; have hHeld := hNew; clear hNew
        try simp only [Act.put, List.setIfInBounds_toArray, List.set_cons_zero, List.set_cons_succ]
        refine wpAnyH_take (i := 12) (oi := ⟨some 77, _, _, _, _, _⟩) (v := ?_) rfl (by kernel_rfl) (by kernel_rfl) (by kernel_rfl) (fun _ _ _ h => h) (Or.inl ⟨by rfl, ?_⟩) (by assumption) ?_
        rotate_left
        focus (intro w hSw; (try dsimp only at hSw); go_simp; first | done | with_reducible rfl)
        try simp only [Act.put, List.setIfInBounds_toArray, List.set_cons_zero, List.set_cons_succ]
        refine wpAnyH_take (i := 13) (oi := ⟨some 4, _, _, _, _, _⟩) (v := ?_) rfl (by kernel_rfl) (by kernel_rfl) (by kernel_rfl) (fun _ _ _ h => h) (Or.inl ⟨by rfl, ?_⟩) (by assumption) ?_
        rotate_left
        focus (intro w hSw; (try dsimp only at hSw); go_simp; first | done | with_reducible rfl)
        try simp only [Act.put, List.setIfInBounds_toArray, List.set_cons_zero, List.set_cons_succ]
        refine wpAnyH_done (by kernel_rfl) ?_ _
        have HQ := Lib.hid (HB3.out.trans (hHeld.1.out.mono HB3.out.size))
        clear hHeld
        go_wp2
        go_ret
        exact ⟨rfl, HQ.out⟩
  · by_cases h1 : s.size ≤ 6000
    · have h2 : ¬ t.size ≤ 6000 := fun e => hz ⟨h1, e⟩
      have hd1 : decide ((6000 : Int) < (s.size : Int)) = false := decide_eq_false (by omega)
      have hd2 : decide ((6000 : Int) < (t.size : Int)) = true := decide_eq_true (by omega)
      go_enter Tryz.func3, Tryz.ntmps3
      go_wp2_with (go_at_call 7; (with_reducible refine (alive_any _ (HE.out.below HB0.out hpos)).mono ?_); rintro e w5 ⟨rfl, hb⟩; have HB9 := Lib.hid hb; clear hb)
      all_goals
        go_ret
        exact ⟨rfl, HB0.out.trans (HB9.out.mono HB0.out.size)⟩
    · have hd1 : decide ((6000 : Int) < (s.size : Int)) = true := decide_eq_true (by omega)
      go_enter Tryz.func3, Tryz.ntmps3
      go_wp2_with (go_at_call 7; (with_reducible refine (alive_any _ (HE.out.below HB0.out hpos)).mono ?_); rintro e w5 ⟨rfl, hb⟩; have HB9 := Lib.hid hb; clear hb)
      all_goals
        go_ret
        exact ⟨rfl, HB0.out.trans (HB9.out.mono HB0.out.size)⟩
end Go.Proofs.YtlbnaddgdgbckaaGreatDoor
