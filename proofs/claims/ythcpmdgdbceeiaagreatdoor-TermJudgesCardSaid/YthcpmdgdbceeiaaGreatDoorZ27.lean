/- Texts in a row: Jq Jr Js. -/
import Derived.Test.YthcpmdgdbceeiaaGreatDoorZ6
import Derived.Deep.DeepCutAuto
import Derived.Outline
import Derived.ChangeOld
import Derived.ChangeSlices
import Derived.Deep.Fields
import Derived.Deep.Slices
import Derived.LaidMore
import Derived.Lib.AppendIntMem
import Derived.Lib.LaidTab
import Derived.Lib.SmallJoins
import Derived.OpenShut
import Derived.ProofKit
import Derived.ShutString
import Derived.Stop.Joined
import Derived.Test.YthcpmdgdbceeiaaGreatDoorZ1
import Derived.Test.YthcpmdgdbceeiaaGreatDoorZ26
/- The document's Size. -/
namespace Go.Proofs.YthcpmdgdbceeiaaGreatDoor
open Go.RowKit
set_option linter.unusedSimpArgs false
set_option linter.unusedVariables false
set_option maxRecDepth 100000 in
set_option maxHeartbeats 2000000 in
theorem sizeD_any (d : Nat) : ∀ (va : Value) (ta : Tm) (w : World), IsT w d va ta → Calls Tryz.prog 16 #[va] w (SizeR d ta w) := by
  induction d with
  | zero => intro va ta w h; cases h
  | succ d ih =>
    intro va ta w ha
    obtain ⟨d1, k1, p1, n1, N1, s1, l1, e1, rfl, rfl, hp1, hn1, hk1⟩ := ha.open
    obtain rfl : d = d1 := by omega
    obtain ⟨q1, c1, hs1, hm1, hr1⟩ := hk1
    subst hs1
    have HR1 := Lib.hid hr1
    clear ha e1 hr1 hp1 hn1
    unfold maxLen at hm1
    have HIH := Lib.hid ih
    clear ih
    go_enter Tryz.func16, Tryz.ntmps16
    go_wp2
    have hBW : Below w.heap.size w (w.alloc (.cells #[.int .i64 k1, .string p1, .string n1, .int .i64 N1, .slice q1 l1.length c1] 24)) := below_alloc w _
    have hnew := hb_new w (.cells #[.int .i64 k1, .string p1, .string n1, .int .i64 N1, .slice q1 l1.length c1] 24)
    generalize hW1 : w.alloc (.cells #[.int .i64 k1, .string p1, .string n1, .int .i64 N1, .slice q1 l1.length c1] 24) = W1 at *
    have HBW := Lib.hid hBW
    have HK := Lib.hid hnew
    clear hW1 hBW hnew
    go_loopw [3, 4] (fun n i wr => ∃ k : Nat, k ≤ l1.length ∧ i = .int .i64 k ∧ n = .int .i64 (szTo d k l1) ∧ Below w.heap.size w wr ∧ wr.heap[w.heap.size]? = some (.cells #[.int .i64 k1, .string p1, .string n1, .int .i64 N1, .slice q1 l1.length c1] 24)) (fun _ i _ => l1.length - (intOf i).toNat)
    case atStart => exact ⟨0, Nat.zero_le _, rfl, rfl, HBW.out, HK.out⟩
    case round =>
      obtain ⟨k, hk, rfl, rfl, hB, hkb⟩ := hrel
      have hzr := hB.size
      have HB := Lib.hid hB
      have HKB := Lib.hid hkb
      have m4 := hb_at hkb 4 rfl
      clear hkb
      by_cases hlt : k < l1.length
      · have hki : (k : Int) < (l1.length : Int) := by omega
        have hx1 := List.getElem?_eq_getElem hlt
        have HN := Lib.hid (szTo_next (d := d) hlt)
        generalize l1[k] = x at *
        obtain ⟨b1, o1, k1', p1', n1', N1', s1', hq1, ha1, ht1⟩ := HR1.out k x hx1
        subst hq1
        obtain ⟨q3, l3, c3, hs3⟩ := ht1.spell
        subst hs3
        obtain ⟨x0, x1, x2, x3, x4⟩ := ha1.below hB ha1.lt
        have HC : RowKit.Hid (Calls Tryz.prog 16 #[tv k1' p1' n1' N1' (.slice q3 l3 c3)] wr (SizeR d x wr)) :=
          Lib.hid (HIH.out _ _ wr (ht1.below hB))
        clear hx1 ht1 ha1 hB
        generalize szTo d k l1 = m at *
        go_wp2_with (go_at_call 16; ((with_reducible refine HC.out.mono ?_); rintro e w3 ⟨rfl, hb⟩))
        have HQ := Lib.hid (HB.out.trans (hb.mono hzr))
        have HKQ := Lib.hid (hb_below HKB.out hb (hb_lt HKB.out))
        first
        | (go_roundw
           case rel => exact ⟨k + 1, by omega, by go_num, by rw [HN.out], HQ.out, HKQ.out⟩
           case measure => simp [intOf]; omega)
        | exact ⟨⟨k + 1, by omega, by go_num, by rw [HN.out], HQ.out, HKQ.out⟩, by simp [intOf]; omega⟩
      · have hki : ¬ (k : Int) < (l1.length : Int) := by omega
        obtain rfl : k = l1.length := by omega
        go_wp2
        go_ret
        exact ⟨ret_int szTo_all, HB.out⟩
end Go.Proofs.YthcpmdgdbceeiaaGreatDoor
/- A term by value, its numbers being ints. -/
namespace Go.Proofs.YthcpmdgdbceeiaaGreatDoor
open Go.ChangeShapes Go.WideShapes Go.ChangeAt Go.RowKit Go.Joins Go.Deep
set_option linter.unusedSimpArgs false
set_option linter.unusedVariables false
/-- All numbers are ints. -/
def Nf : Nat → Tm → Prop
  | 0, _ => True
  | d + 1, .mk _ _ _ N kids => (-9223372036854775808 ≤ N ∧ N ≤ 9223372036854775807) ∧ ∀ x ∈ kids, Nf d x
theorem gd_of : ∀ (d : Nat) (t : Tm), Nm d t → Nf d t → Gd d t := by
  intro d
  induction d with
  | zero => intro t _ _; trivial
  | succ d ih =>
    intro t h1 h2
    obtain ⟨k, p, n, N, kids⟩ := t
    obtain ⟨a1, a2, a3⟩ := h1
    obtain ⟨b1, b2⟩ := h2
    exact ⟨a1, a2, b1, fun x hx => ih x (a3 x hx) (b2 x hx)⟩
section
set_option maxRecDepth 100000
variable {H : Type} {enc : TypeId × Value → H} {W : World} {base : Nat} {v : Value} {d : DataW H} {p : List MemPlace}
theorem trod_term2 : ∀ (fuel : Nat) (cs : List Value) (x : DataW H × List MemPlace), DataW.trod enc Tryz.prog W 0 (fun _ => true) true fuel 24 cs = some x →
    ∃ (k : Int) (p n : ByteArray) (N : Int) (s : Value) (t : Tm), cs = [.int .i64 k, .string p, .string n, .int .i64 N, s] ∧ IsT W fuel (tv k p n N s) t ∧ ∀ D, Nf D t := by
  intro fuel
  induction fuel using Nat.strongRecOn with
  | _ fuel ih =>
    intro cs x h
    obtain ⟨xs, m, rfl, _, hl, hx5, hf⟩ := DataW.trod_struct Tryz.underlying24 h
    rw [cells24] at hl
    match cs, hl with
    | [c0, c1, c2, c3, c4], _ =>
      have hx5' : xs.length = 5 := hx5
      have g0 : DataW.trod enc Tryz.prog W 0 (fun _ => true) true m 3 (([c0, c1, c2, c3, c4].drop 0).take (Tryz.prog.cellsOf 3)) = xs[0]? := hf 0 _ rfl
      have g1 : DataW.trod enc Tryz.prog W 0 (fun _ => true) true m 9 (([c0, c1, c2, c3, c4].drop 1).take (Tryz.prog.cellsOf 9)) = xs[1]? := hf 1 _ rfl
      have g2 : DataW.trod enc Tryz.prog W 0 (fun _ => true) true m 9 (([c0, c1, c2, c3, c4].drop 2).take (Tryz.prog.cellsOf 9)) = xs[2]? := hf 2 _ rfl
      have g3 : DataW.trod enc Tryz.prog W 0 (fun _ => true) true m 3 (([c0, c1, c2, c3, c4].drop 3).take (Tryz.prog.cellsOf 3)) = xs[3]? := hf 3 _ rfl
      have g4 : DataW.trod enc Tryz.prog W 0 (fun _ => true) true m 22 (([c0, c1, c2, c3, c4].drop 4).take (Tryz.prog.cellsOf 22)) = xs[4]? := hf 4 _ rfl
      rw [cells3, List.getElem?_eq_getElem (by omega)] at g0 g3
      rw [cells9, List.getElem?_eq_getElem (by omega)] at g1 g2
      rw [cells22, List.getElem?_eq_getElem (by omega)] at g4
      obtain ⟨k, e0, _, _⟩ := DataW.trod_int Tryz.underlying3 g0
      obtain ⟨p, e1, _, hp⟩ := DataW.trod_string Tryz.underlying9 g1
      obtain ⟨n, e2, _, hn⟩ := DataW.trod_string Tryz.underlying9 g2
      obtain ⟨N, e3, _, w3⟩ := DataW.trod_int Tryz.underlying3 g3
      have b3 := bounds_i64 w3
      simp at e0 e1 e2 e3
      subst e0 e1 e2 e3
      suffices hk : ∃ kids, KidsT W m c4 kids ∧ ∀ x ∈ kids, ∀ D, Nf D x by
        obtain ⟨kids, hk, hnf⟩ := hk
        refine ⟨k, p, n, N, c4, .mk k p n N kids, rfl, IsT.shut hp hn hk, fun D => ?_⟩
        cases D with
        | zero => trivial
        | succ D => exact ⟨b3, fun x hx => hnf x hx D⟩
      rcases DataW.trod_slice Tryz.underlying22 g4 with ⟨hcs, _⟩ | ⟨a, len, cap, elems, rest, n', hm', hcs, _, _, hl2, hm, hlen, hel, _, _⟩
      · simp at hcs
        subst hcs
        exact ⟨[], ⟨none, 0, rfl, Nat.zero_le _, fun i y hy => by simp at hy⟩, fun x hx => by simp at hx⟩
      · simp at hcs
        subst hcs
        by_cases hz : len = 0
        · subst hz
          exact ⟨[], ⟨some a, cap, rfl, Nat.zero_le _, fun i y hy => by simp at hy⟩, fun x hx => by simp at hx⟩
        have hi : ∀ i, i < len → ∃ cs' y, W.cells? 0 (a.add (i * 5)) 5 = some cs' ∧ DataW.trod enc Tryz.prog W 0 (fun _ => true) true n' 24 cs' = some y := fun i hi => by
          have he := hel i hi
          rw [cells24, List.getElem?_eq_getElem (by omega)] at he
          obtain ⟨cs', h1, h2⟩ := Option.bind_eq_some_iff.1 he
          exact ⟨cs', _, h1, h2⟩
        obtain ⟨b1, o1, rfl⟩ : ∃ b1 o1, a = ⟨b1, o1, none⟩ := by
          obtain ⟨cs, _, hc, _⟩ := hi 0 (by omega)
          obtain ⟨_, hcl, hat⟩ := World.cells?_some hc
          have h0 := hat 0 (by omega)
          rw [List.getElem?_eq_getElem (by omega)] at h0
          have h1 := World.cell?_spot h0
          obtain ⟨b1, o1, sp⟩ := a
          have h2 : sp = none := by simpa [Addr.add] using h1
          exact ⟨b1, o1, by rw [h2]⟩
        obtain ⟨l, hll, hpl⟩ := pick_list (P := fun i (t : Tm) => ∃ k' p' n2 N' s', TAt W b1 (o1 + i * 5) k' p' n2 N' s' ∧ IsT W m (tv k' p' n2 N' s') t ∧ ∀ D, Nf D t) len (fun i hi2 => by
          obtain ⟨cs, y, hc, ht⟩ := hi i hi2
          obtain ⟨_, hcl, hat⟩ := World.cells?_some hc
          obtain ⟨k', p', n2, N', s', t, rfl, ht2, hnf2⟩ := ih n' (by omega) cs _ ht
          have a0 := hat 0 (by omega)
          have a1 := hat 1 (by omega)
          have a2 := hat 2 (by omega)
          have a3 := hat 3 (by omega)
          have a4 := hat 4 (by omega)
          simp only [Addr.add_lit, Nat.add_zero] at a0 a1 a2 a3 a4
          exact ⟨t, k', p', n2, N', s', ⟨a0, a1, a2, a3, a4⟩, ht2.more (by omega), hnf2⟩)
        refine ⟨l, ⟨some ⟨b1, o1, none⟩, cap, by rw [hll], by omega, fun i y hy => ?_⟩, fun x hx => ?_⟩
        · obtain ⟨k', p', n2, N', s', h1, h2, _⟩ := hpl i y hy
          exact ⟨b1, o1, k', p', n2, N', s', rfl, h1, h2⟩
        · obtain ⟨i, hi', he⟩ := List.getElem_of_mem hx
          obtain ⟨k', p', n2, N', s', h1, h2, h3⟩ := hpl i x (by rw [List.getElem?_eq_getElem hi', he])
          exact h3
theorem arg_t2 (hval : Value.okWide Tryz.prog W .any base 24 v) (h : DataW.Trod enc Tryz.prog W 0 (fun _ => true) true 24 v d p) : ∃ (m : Nat) (t : Tm), IsT W m v t ∧ ∀ D, Nf D t := by
  obtain ⟨cs, rfl, hsz⟩ := okWide_struct Tryz.underlying24 hval
  obtain ⟨fuel, hf⟩ := h
  obtain ⟨k, p', n, N, s, t, e, ht⟩ := trod_term2 fuel _ _ hf
  obtain ⟨l⟩ := cs
  simp [Value.cells] at e
  subst e
  exact ⟨fuel, t, ht⟩
end
end Go.Proofs.YthcpmdgdbceeiaaGreatDoor
/- TermJudges, walked. -/
namespace Go.Proofs.YthcpmdgdbceeiaaGreatDoor
open Go.RowKit
set_option linter.unusedSimpArgs false
set_option linter.unusedVariables false
set_option maxRecDepth 100000 in
set_option maxHeartbeats 16000000 in
theorem judges_walk (d : Nat) (va : Value) (ta : Tm) (w : World) (ha : IsT w d va ta) (hnf : ∀ D, Nf D ta) (hw : LxW w) : Calls Tryz.prog 3 #[va] w fun e w' => e = .returned (.bool true) ∧ Below w.heap.size w w' := by
  obtain ⟨d1, k, p, n, NN, s, kids, e1, eta, rfl, _, _, hk⟩ := ha.open
  obtain ⟨q, c, rfl, _, _⟩ := hk
  have HT := Lib.hid ha
  have HNF := Lib.hid (hnf d)
  have HW := Lib.hid hw
  generalize kids.length = ln at *
  clear e1 eta ha hw hnf
  have HF := Lib.hid (few3_any d _ ta _ (HT.out.below (below_alloc w (.cells #[.int .i64 k, .string p, .string n, .int .i64 NN, .slice q ln c] 24))))
  have hnew := hb_new w (.cells #[.int .i64 k, .string p, .string n, .int .i64 NN, .slice q ln c] 24)
  have K0 := Lib.hid hnew
  clear hnew
  go_enter Tryz.func3, Tryz.ntmps3
  go_upto_region 1 with (fail)
  go_wp2_with fail
  go_at_call 7
  with_reducible refine HF.out.mono ?_
  rintro e w3 ⟨r, rfl, hr, hb⟩
  have HR := Lib.hid hr
  have HB3 := Lib.hid ((below_alloc w (.cells #[.int .i64 k, .string p, .string n, .int .i64 NN, .slice q ln c] 24)).trans (hb.mono (by simp)))
  have hk3 := hb_below K0.out hb (by simp)
  have x0 := hb_at hk3 0 rfl
  have x1 := hb_at hk3 1 rfl
  have x2 := hb_at hk3 2 rfl
  have x3 := hb_at hk3 3 rfl
  have x4 := hb_at hk3 4 rfl
  clear hr hb hk3
  cases r
  · go_wp2_with (go_at_call 8; ((with_reducible refine (alive_ok _).mono ?_); rintro e w4 ⟨rfl, hb⟩))
    go_ret
    exact ⟨rfl, HB3.out.trans (hb.mono HB3.out.size)⟩
  · have hG := gd_of d ta (HR.out rfl) HNF.out
    have H9 := Lib.hid (fun W (hb : Below w.heap.size w W) => type_any d _ ta W (HT.out.below hb) hG (HW.out.below hb))
    have H10 := Lib.hid (fun W (hb : Below w.heap.size w W) => typeD_any d _ ta W (HT.out.below hb) hG (HW.out.below hb))
    have H11 := Lib.hid (fun W (hb : Below w.heap.size w W) => pat_any d _ ta W (HT.out.below hb) hG (HW.out.below hb))
    have H12 := Lib.hid (fun W (hb : Below w.heap.size w W) => patD_any d _ ta W (HT.out.below hb) hG (HW.out.below hb))
    have H13 := Lib.hid (fun W (hb : Below w.heap.size w W) => expr_any d _ ta W (HT.out.below hb) hG (HW.out.below hb))
    have H14 := Lib.hid (fun W (hb : Below w.heap.size w W) => exprD_any d _ ta W (HT.out.below hb) hG (HW.out.below hb))
    have H15 := Lib.hid (fun W (hb : Below w.heap.size w W) => size_any d _ ta W (HT.out.below hb))
    have H16 := Lib.hid (fun W (hb : Below w.heap.size w W) => sizeD_any d _ ta W (HT.out.below hb))
    unfold SizeR at H15 H16
    generalize typeB d ta = b1 at *
    generalize patB d ta = b2 at *
    generalize exprB d ta = b3 at *
    generalize sz d ta = b4 at *
    clear hG
    have g1 : (b1 == b1) = true := by simp
    have g2 : (b2 == b2) = true := by simp
    have g3 : (b3 == b3) = true := by simp
    have g4 : (b4 == b4) = true := by simp
    go_wp2_with fail
    refine wp_region_held_drew (S := (fun w' => RowKit.Hid (Below w3.heap.size w3 w') ∧ w'.cell? ⟨w.heap.size, 0, none⟩ = some (.int .i64 k) ∧ w'.cell? ⟨w.heap.size, 1, none⟩ = some (.string p) ∧ w'.cell? ⟨w.heap.size, 2, none⟩ = some (.string n) ∧ w'.cell? ⟨w.heap.size, 3, none⟩ = some (.int .i64 NN) ∧ w'.cell? ⟨w.heap.size, 4, none⟩ = some (.slice q ln c))) (by kernel_rfl) (by exact ⟨Lib.hid (below_drewN (Below.refl _ _) 1), x0, x1, x2, x3, x4⟩) (fun hHeld => ?_)
    refine wpAnyH_take (i := 0) (oi := ⟨some 7, _, _, _, _, _⟩) (v := ?_) rfl (by kernel_rfl) (by kernel_rfl) (by kernel_rfl) (fun _ _ _ h => h) (Or.inl ⟨by rfl, ?_⟩) (by assumption) ?_
    rotate_left
    focus (intro w hSw; (try dsimp only at hSw); go_simp; first | done | with_reducible rfl)
    try simp only [Act.put, List.setIfInBounds_toArray, List.set_cons_zero, List.set_cons_succ]
    refine wpAnyH_take (i := 2) (oi := ⟨some 9, _, _, _, _, _⟩) (v := ?_) rfl (by kernel_rfl) (by kernel_rfl) (by kernel_rfl) (fun _ _ _ h => h) (Or.inl ⟨by rfl, ?_⟩) (by assumption) ?_
    rotate_left
    focus (intro w hSw; (try dsimp only at hSw); go_simp; first | done | with_reducible rfl)
    try simp only [Act.put, List.setIfInBounds_toArray, List.set_cons_zero, List.set_cons_succ]
    refine wpAnyH_ready (rs := [1]) (by kernel_rfl) (by simp) ?_
    refine AllReadyH.cons (o := ⟨some 8, _, _, _, _, _⟩) rfl (fun K hK => ?_) AllReadyH.nil
    go_simp
    (with_reducible refine (H9.out _ (HB3.out.trans (hHeld.1.out.mono HB3.out.size))).mono ?_); rintro e v1 ⟨rfl, hb⟩
    go_wp2_with fail
    refine hK.out _ _ (by exact ⟨Lib.hid (hHeld.1.out.trans (hb.mono hHeld.1.out.size)), keep_cell hb hHeld.2.1, keep_cell hb hHeld.2.2.1, keep_cell hb hHeld.2.2.2.1, keep_cell hb hHeld.2.2.2.2.1, keep_cell hb hHeld.2.2.2.2.2⟩) (fun hNew => ?_)
    clear hK K
    clear hHeld hb; have hHeld := hNew; clear hNew
    try simp only [Act.put, List.setIfInBounds_toArray, List.set_cons_zero, List.set_cons_succ]
    refine wpAnyH_ready (rs := [3]) (by kernel_rfl) (by simp) ?_
    refine AllReadyH.cons (o := ⟨some 10, _, _, _, _, _⟩) rfl (fun K hK => ?_) AllReadyH.nil
    go_simp
    (with_reducible refine (H10.out _ (HB3.out.trans (hHeld.1.out.mono HB3.out.size))).mono ?_); rintro e v2 ⟨rfl, hb⟩
    go_wp2_with fail
    refine hK.out _ _ (by exact ⟨Lib.hid (hHeld.1.out.trans (hb.mono hHeld.1.out.size)), keep_cell hb hHeld.2.1, keep_cell hb hHeld.2.2.1, keep_cell hb hHeld.2.2.2.1, keep_cell hb hHeld.2.2.2.2.1, keep_cell hb hHeld.2.2.2.2.2⟩) (fun hNew => ?_)
    clear hK K
    clear hHeld hb; have hHeld := hNew; clear hNew
    try simp only [Act.put, List.setIfInBounds_toArray, List.set_cons_zero, List.set_cons_succ]
    refine wpAnyH_take (i := 4) (oi := ⟨some 11, _, _, _, _, _⟩) (v := .bool true) rfl (by kernel_rfl) (by kernel_rfl) (by kernel_rfl) (fun _ _ _ h => h) (Or.inl ⟨by rfl, ?_⟩) (by assumption) ?_
    focus (intro w hSw; (try dsimp only at hSw); go_simp; first | done | rfl | (rw [show (b1 == b1) = true from by simp]; done) | (rw [show (b1 == b1) = true from by simp]; rfl) | simp)
    try simp only [Act.put, List.setIfInBounds_toArray, List.set_cons_zero, List.set_cons_succ]
    refine wpAnyH_take (i := 5) (oi := ⟨some 12, _, _, _, _, _⟩) (v := ?_) rfl (by kernel_rfl) (by kernel_rfl) (by kernel_rfl) (fun _ _ _ h => h) (Or.inl ⟨by rfl, ?_⟩) (by assumption) ?_
    rotate_left
    focus (intro w hSw; (try dsimp only at hSw); go_simp; first | done | with_reducible rfl)
    try simp only [Act.put, List.setIfInBounds_toArray, List.set_cons_zero, List.set_cons_succ]
    refine wpAnyH_take (i := 6) (oi := ⟨some 13, _, _, _, _, _⟩) (v := ?_) rfl (by kernel_rfl) (by kernel_rfl) (by kernel_rfl) (fun _ _ _ h => h) (Or.inl ⟨by rfl, ?_⟩) (by assumption) ?_
    rotate_left
    focus (intro w hSw; (try dsimp only at hSw); go_simp; first | done | with_reducible rfl)
    try simp only [Act.put, List.setIfInBounds_toArray, List.set_cons_zero, List.set_cons_succ]
    refine wpAnyH_take (i := 8) (oi := ⟨some 15, _, _, _, _, _⟩) (v := ?_) rfl (by kernel_rfl) (by kernel_rfl) (by kernel_rfl) (fun _ _ _ h => h) (Or.inl ⟨by rfl, ?_⟩) (by assumption) ?_
    rotate_left
    focus (intro w hSw; (try dsimp only at hSw); go_simp; first | done | with_reducible rfl)
    try simp only [Act.put, List.setIfInBounds_toArray, List.set_cons_zero, List.set_cons_succ]
    refine wpAnyH_ready (rs := [7]) (by kernel_rfl) (by simp) ?_
    refine AllReadyH.cons (o := ⟨some 14, _, _, _, _, _⟩) rfl (fun K hK => ?_) AllReadyH.nil
    go_simp
    (with_reducible refine (H11.out _ (HB3.out.trans (hHeld.1.out.mono HB3.out.size))).mono ?_); rintro e v3 ⟨rfl, hb⟩
    go_wp2_with fail
    refine hK.out _ _ (by exact ⟨Lib.hid (hHeld.1.out.trans (hb.mono hHeld.1.out.size)), keep_cell hb hHeld.2.1, keep_cell hb hHeld.2.2.1, keep_cell hb hHeld.2.2.2.1, keep_cell hb hHeld.2.2.2.2.1, keep_cell hb hHeld.2.2.2.2.2⟩) (fun hNew => ?_)
    clear hK K
    clear hHeld hb; have hHeld := hNew; clear hNew
    try simp only [Act.put, List.setIfInBounds_toArray, List.set_cons_zero, List.set_cons_succ]
    refine wpAnyH_ready (rs := [9]) (by kernel_rfl) (by simp) ?_
    refine AllReadyH.cons (o := ⟨some 16, _, _, _, _, _⟩) rfl (fun K hK => ?_) AllReadyH.nil
    go_simp
    (with_reducible refine (H12.out _ (HB3.out.trans (hHeld.1.out.mono HB3.out.size))).mono ?_); rintro e v4 ⟨rfl, hb⟩
    go_wp2_with fail
    refine hK.out _ _ (by exact ⟨Lib.hid (hHeld.1.out.trans (hb.mono hHeld.1.out.size)), keep_cell hb hHeld.2.1, keep_cell hb hHeld.2.2.1, keep_cell hb hHeld.2.2.2.1, keep_cell hb hHeld.2.2.2.2.1, keep_cell hb hHeld.2.2.2.2.2⟩) (fun hNew => ?_)
    clear hK K
    clear hHeld hb; have hHeld := hNew; clear hNew
    try simp only [Act.put, List.setIfInBounds_toArray, List.set_cons_zero, List.set_cons_succ]
    refine wpAnyH_take (i := 10) (oi := ⟨some 17, _, _, _, _, _⟩) (v := .bool true) rfl (by kernel_rfl) (by kernel_rfl) (by kernel_rfl) (fun _ _ _ h => h) (Or.inl ⟨by rfl, ?_⟩) (by assumption) ?_
    focus (intro w hSw; (try dsimp only at hSw); go_simp; first | done | rfl | (rw [show (b2 == b2) = true from by simp]; done) | (rw [show (b2 == b2) = true from by simp]; rfl) | simp)
    try simp only [Act.put, List.setIfInBounds_toArray, List.set_cons_zero, List.set_cons_succ]
    refine wpAnyH_take (i := 11) (oi := ⟨some 18, _, _, _, _, _⟩) (v := ?_) rfl (by kernel_rfl) (by kernel_rfl) (by kernel_rfl) (fun _ _ _ h => h) (Or.inl ⟨by rfl, ?_⟩) (by assumption) ?_
    rotate_left
    focus (intro w hSw; (try dsimp only at hSw); go_simp; first | done | with_reducible rfl)
    try simp only [Act.put, List.setIfInBounds_toArray, List.set_cons_zero, List.set_cons_succ]
    refine wpAnyH_take (i := 12) (oi := ⟨some 19, _, _, _, _, _⟩) (v := ?_) rfl (by kernel_rfl) (by kernel_rfl) (by kernel_rfl) (fun _ _ _ h => h) (Or.inl ⟨by rfl, ?_⟩) (by assumption) ?_
    rotate_left
    focus (intro w hSw; (try dsimp only at hSw); go_simp; first | done | with_reducible rfl)
    try simp only [Act.put, List.setIfInBounds_toArray, List.set_cons_zero, List.set_cons_succ]
    refine wpAnyH_take (i := 13) (oi := ⟨some 20, _, _, _, _, _⟩) (v := ?_) rfl (by kernel_rfl) (by kernel_rfl) (by kernel_rfl) (fun _ _ _ h => h) (Or.inl ⟨by rfl, ?_⟩) (by assumption) ?_
    rotate_left
    focus (intro w hSw; (try dsimp only at hSw); go_simp; first | done | with_reducible rfl)
    try simp only [Act.put, List.setIfInBounds_toArray, List.set_cons_zero, List.set_cons_succ]
    refine wpAnyH_take (i := 15) (oi := ⟨some 22, _, _, _, _, _⟩) (v := ?_) rfl (by kernel_rfl) (by kernel_rfl) (by kernel_rfl) (fun _ _ _ h => h) (Or.inl ⟨by rfl, ?_⟩) (by assumption) ?_
    rotate_left
    focus (intro w hSw; (try dsimp only at hSw); go_simp; first | done | with_reducible rfl)
    try simp only [Act.put, List.setIfInBounds_toArray, List.set_cons_zero, List.set_cons_succ]
    refine wpAnyH_ready (rs := [14]) (by kernel_rfl) (by simp) ?_
    refine AllReadyH.cons (o := ⟨some 21, _, _, _, _, _⟩) rfl (fun K hK => ?_) AllReadyH.nil
    go_simp
    (with_reducible refine (H13.out _ (HB3.out.trans (hHeld.1.out.mono HB3.out.size))).mono ?_); rintro e v5 ⟨rfl, hb⟩
    go_wp2_with fail
    refine hK.out _ _ (by exact ⟨Lib.hid (hHeld.1.out.trans (hb.mono hHeld.1.out.size)), keep_cell hb hHeld.2.1, keep_cell hb hHeld.2.2.1, keep_cell hb hHeld.2.2.2.1, keep_cell hb hHeld.2.2.2.2.1, keep_cell hb hHeld.2.2.2.2.2⟩) (fun hNew => ?_)
    clear hK K
    clear hHeld hb; have hHeld := hNew; clear hNew
    try simp only [Act.put, List.setIfInBounds_toArray, List.set_cons_zero, List.set_cons_succ]
    refine wpAnyH_ready (rs := [16]) (by kernel_rfl) (by simp) ?_
    refine AllReadyH.cons (o := ⟨some 23, _, _, _, _, _⟩) rfl (fun K hK => ?_) AllReadyH.nil
    go_simp
    (with_reducible refine (H14.out _ (HB3.out.trans (hHeld.1.out.mono HB3.out.size))).mono ?_); rintro e v6 ⟨rfl, hb⟩
    go_wp2_with fail
    refine hK.out _ _ (by exact ⟨Lib.hid (hHeld.1.out.trans (hb.mono hHeld.1.out.size)), keep_cell hb hHeld.2.1, keep_cell hb hHeld.2.2.1, keep_cell hb hHeld.2.2.2.1, keep_cell hb hHeld.2.2.2.2.1, keep_cell hb hHeld.2.2.2.2.2⟩) (fun hNew => ?_)
    clear hK K
    clear hHeld hb; have hHeld := hNew; clear hNew
    try simp only [Act.put, List.setIfInBounds_toArray, List.set_cons_zero, List.set_cons_succ]
    refine wpAnyH_take (i := 17) (oi := ⟨some 24, _, _, _, _, _⟩) (v := .bool true) rfl (by kernel_rfl) (by kernel_rfl) (by kernel_rfl) (fun _ _ _ h => h) (Or.inl ⟨by rfl, ?_⟩) (by assumption) ?_
    focus (intro w hSw; (try dsimp only at hSw); go_simp; first | done | rfl | (rw [show (b3 == b3) = true from by simp]; done) | (rw [show (b3 == b3) = true from by simp]; rfl) | simp)
    try simp only [Act.put, List.setIfInBounds_toArray, List.set_cons_zero, List.set_cons_succ]
    refine wpAnyH_take (i := 18) (oi := ⟨some 25, _, _, _, _, _⟩) (v := ?_) rfl (by kernel_rfl) (by kernel_rfl) (by kernel_rfl) (fun _ _ _ h => h) (Or.inl ⟨by rfl, ?_⟩) (by assumption) ?_
    rotate_left
    focus (intro w hSw; (try dsimp only at hSw); go_simp; first | done | with_reducible rfl)
    try simp only [Act.put, List.setIfInBounds_toArray, List.set_cons_zero, List.set_cons_succ]
    refine wpAnyH_take (i := 19) (oi := ⟨some 26, _, _, _, _, _⟩) (v := ?_) rfl (by kernel_rfl) (by kernel_rfl) (by kernel_rfl) (fun _ _ _ h => h) (Or.inl ⟨by rfl, ?_⟩) (by assumption) ?_
    rotate_left
    focus (intro w hSw; (try dsimp only at hSw); go_simp; first | done | with_reducible rfl)
    try simp only [Act.put, List.setIfInBounds_toArray, List.set_cons_zero, List.set_cons_succ]
    refine wpAnyH_take (i := 20) (oi := ⟨some 27, _, _, _, _, _⟩) (v := ?_) rfl (by kernel_rfl) (by kernel_rfl) (by kernel_rfl) (fun _ _ _ h => h) (Or.inl ⟨by rfl, ?_⟩) (by assumption) ?_
    rotate_left
    focus (intro w hSw; (try dsimp only at hSw); go_simp; first | done | with_reducible rfl)
    try simp only [Act.put, List.setIfInBounds_toArray, List.set_cons_zero, List.set_cons_succ]
    refine wpAnyH_take (i := 22) (oi := ⟨some 29, _, _, _, _, _⟩) (v := ?_) rfl (by kernel_rfl) (by kernel_rfl) (by kernel_rfl) (fun _ _ _ h => h) (Or.inl ⟨by rfl, ?_⟩) (by assumption) ?_
    rotate_left
    focus (intro w hSw; (try dsimp only at hSw); go_simp; first | done | with_reducible rfl)
    try simp only [Act.put, List.setIfInBounds_toArray, List.set_cons_zero, List.set_cons_succ]
    refine wpAnyH_ready (rs := [21]) (by kernel_rfl) (by simp) ?_
    refine AllReadyH.cons (o := ⟨some 28, _, _, _, _, _⟩) rfl (fun K hK => ?_) AllReadyH.nil
    go_simp
    (with_reducible refine (H15.out _ (HB3.out.trans (hHeld.1.out.mono HB3.out.size))).mono ?_); rintro e v7 ⟨rfl, hb⟩
    go_wp2_with fail
    refine hK.out _ _ (by exact ⟨Lib.hid (hHeld.1.out.trans (hb.mono hHeld.1.out.size)), keep_cell hb hHeld.2.1, keep_cell hb hHeld.2.2.1, keep_cell hb hHeld.2.2.2.1, keep_cell hb hHeld.2.2.2.2.1, keep_cell hb hHeld.2.2.2.2.2⟩) (fun hNew => ?_)
    clear hK K
    clear hHeld hb; have hHeld := hNew; clear hNew
    try simp only [Act.put, List.setIfInBounds_toArray, List.set_cons_zero, List.set_cons_succ]
    refine wpAnyH_ready (rs := [23]) (by kernel_rfl) (by simp) ?_
    refine AllReadyH.cons (o := ⟨some 30, _, _, _, _, _⟩) rfl (fun K hK => ?_) AllReadyH.nil
    go_simp
    (with_reducible refine (H16.out _ (HB3.out.trans (hHeld.1.out.mono HB3.out.size))).mono ?_); rintro e v8 ⟨rfl, hb⟩
    go_wp2_with fail
    refine hK.out _ _ (by exact ⟨Lib.hid (hHeld.1.out.trans (hb.mono hHeld.1.out.size)), keep_cell hb hHeld.2.1, keep_cell hb hHeld.2.2.1, keep_cell hb hHeld.2.2.2.1, keep_cell hb hHeld.2.2.2.2.1, keep_cell hb hHeld.2.2.2.2.2⟩) (fun hNew => ?_)
    clear hK K
    clear hHeld hb; have hHeld := hNew; clear hNew
    try simp only [Act.put, List.setIfInBounds_toArray, List.set_cons_zero, List.set_cons_succ]
    refine wpAnyH_take (i := 24) (oi := ⟨some 31, _, _, _, _, _⟩) (v := .bool true) rfl (by kernel_rfl) (by kernel_rfl) (by kernel_rfl) (fun _ _ _ h => h) (Or.inl ⟨by rfl, ?_⟩) (by assumption) ?_
    focus (intro w hSw; (try dsimp only at hSw); go_simp; first | done | rfl | (rw [show (b4 == b4) = true from by simp]; done) | (rw [show (b4 == b4) = true from by simp]; rfl) | simp)
    try simp only [Act.put, List.setIfInBounds_toArray, List.set_cons_zero, List.set_cons_succ]
    refine wpAnyH_take (i := 25) (oi := ⟨some 32, _, _, _, _, _⟩) (v := ?_) rfl (by kernel_rfl) (by kernel_rfl) (by kernel_rfl) (fun _ _ _ h => h) (Or.inl ⟨by rfl, ?_⟩) (by assumption) ?_
    rotate_left
    focus (intro w hSw; (try dsimp only at hSw); go_simp; first | done | with_reducible rfl)
    try simp only [Act.put, List.setIfInBounds_toArray, List.set_cons_zero, List.set_cons_succ]
    refine wpAnyH_take (i := 26) (oi := ⟨some 33, _, _, _, _, _⟩) (v := ?_) rfl (by kernel_rfl) (by kernel_rfl) (by kernel_rfl) (fun _ _ _ h => h) (Or.inl ⟨by rfl, ?_⟩) (by assumption) ?_
    rotate_left
    focus (intro w hSw; (try dsimp only at hSw); go_simp; first | done | with_reducible rfl)
    try simp only [Act.put, List.setIfInBounds_toArray, List.set_cons_zero, List.set_cons_succ]
    refine wpAnyH_ready (rs := [27]) (by kernel_rfl) (by simp) ?_
    refine AllReadyH.cons (o := ⟨some 34, _, _, _, _, _⟩) rfl (fun K hK => ?_) AllReadyH.nil
    go_simp
    (with_reducible refine (alive_ok _).mono ?_); rintro e v9 ⟨rfl, hb⟩
    go_wp2_with fail
    refine hK.out _ _ (by exact ⟨Lib.hid (hHeld.1.out.trans (hb.mono hHeld.1.out.size)), keep_cell hb hHeld.2.1, keep_cell hb hHeld.2.2.1, keep_cell hb hHeld.2.2.2.1, keep_cell hb hHeld.2.2.2.2.1, keep_cell hb hHeld.2.2.2.2.2⟩) (fun hNew => ?_)
    clear hK K
    clear hHeld hb; have hHeld := hNew; clear hNew
    try simp only [Act.put, List.setIfInBounds_toArray, List.set_cons_zero, List.set_cons_succ]
    refine wpAnyH_take (i := 28) (oi := ⟨some 35, _, _, _, _, _⟩) (v := ?_) rfl (by kernel_rfl) (by kernel_rfl) (by kernel_rfl) (fun _ _ _ h => h) (Or.inl ⟨by rfl, ?_⟩) (by assumption) ?_
    rotate_left
    focus (intro w hSw; (try dsimp only at hSw); go_simp; first | done | with_reducible rfl)
    try simp only [Act.put, List.setIfInBounds_toArray, List.set_cons_zero, List.set_cons_succ]
    refine wpAnyH_take (i := 29) (oi := ⟨some 2, _, _, _, _, _⟩) (v := ?_) rfl (by kernel_rfl) (by kernel_rfl) (by kernel_rfl) (fun _ _ _ h => h) (Or.inl ⟨by rfl, ?_⟩) (by assumption) ?_
    rotate_left
    focus (intro w hSw; (try dsimp only at hSw); go_simp; first | done | with_reducible rfl)
    try simp only [Act.put, List.setIfInBounds_toArray, List.set_cons_zero, List.set_cons_succ]
    refine wpAnyH_done (by kernel_rfl) ?_ _
    have HQ := Lib.hid hHeld.1.out
    clear hHeld
    go_wp2
    go_ret
    exact ⟨rfl, HB3.out.trans (HQ.out.mono HB3.out.size)⟩
end Go.Proofs.YthcpmdgdbceeiaaGreatDoor
