/- Texts in a row: U9 Oa Pf. -/
import Derived.Test.YtncebhddcokkoaaDoorZT20
import Derived.Test.YtncebhddcokkoaaDoorZT23
import Derived.Test.YtncebhddcokkoaaDoorZT21
import Derived.Deep.QuietTactic
import Derived.BigQuiet
import Derived.Deep.DeepCutAuto
import Derived.Outline
import Derived.Test.YtncebhddcokkoaaDoorZT19
import Derived.Laws.MakeOwn
import Derived.Test.YtncebhddcokkoaaDoorZT11
import Derived.Test.YtncebhddcokkoaaDoorZT24
/- The document's Size; what is put behind one another is what is put at once. -/
namespace Go.Proofs.YtncebhddcokkoaaDoor
open Go.RowKit
set_option maxRecDepth 100000 in
set_option maxHeartbeats 2000000 in
theorem rsize_any (d : Nat) : ∀ (va : Value) (ta : Tm) (w : World), IsT w d va ta → Calls Tryd.prog 16 #[va] w (SizeR d ta w) := by
  induction d with
  | zero => intro va ta w h; cases h
  | succ d ih =>
    intro va ta w ha
    obtain ⟨d1, k1, p1, n1, N1, s1, l1, e1, rfl, rfl, hp1, hn1, hk1⟩ := ha.open
    obtain rfl : d = d1 := by omega
    obtain ⟨q1, c1, hs1, hm1, hr1⟩ := hk1
    subst hs1
    have HR1 := Lib.hid hr1
    clear ha e1 hr1 hp1 hn1
    unfold maxLen at hm1
    have HIH := Lib.hid ih
    clear ih
    go_enter Tryd.func16, Tryd.ntmps16
    go_wp2
    have hBW : Below w.heap.size w (w.alloc (.cells #[.int .i64 k1, .string p1, .string n1, .int .i64 N1, .slice q1 l1.length c1] 36)) := below_alloc w _
    have hbx := hb_new w (.cells #[.int .i64 k1, .string p1, .string n1, .int .i64 N1, .slice q1 l1.length c1] 36)
    generalize hW1 : w.alloc (.cells #[.int .i64 k1, .string p1, .string n1, .int .i64 N1, .slice q1 l1.length c1] 36) = W1 at *
    have HBW := Lib.hid hBW
    have hzw : w.heap.size ≤ W1.heap.size := hBW.size
    have HBX := Lib.hid hbx
    clear hW1 hBW hbx
    go_loopw [3, 4] (fun n i wr => ∃ k : Nat, k ≤ l1.length ∧ i = .int .i64 k ∧ n = .int .i64 (szTo d k l1) ∧ Below W1.heap.size W1 wr) (fun _ i _ => l1.length - (intOf i).toNat)
    case atStart => exact ⟨0, Nat.zero_le _, rfl, rfl, Below.refl _ _⟩
    case round =>
      obtain ⟨k, hk, rfl, rfl, hB⟩ := hrel
      have hzr := hB.size
      have HB := Lib.hid hB
      have xk := hb_at (hb_below HBX.out hB (hb_lt HBX.out)) 4 rfl
      by_cases hlt : k < l1.length
      · have hx1 := List.getElem?_eq_getElem hlt
        have HN := Lib.hid (szTo_next (d := d) hlt)
        generalize l1[k] = x at *
        obtain ⟨b1, o1, k1', p1', n1', N1', s1', hq1, ha1, ht1⟩ := HR1.out k x hx1
        subst hq1
        obtain ⟨q3, l3, c3, hs3⟩ := ht1.spell
        subst hs3
        have hBR : Below w.heap.size w wr := HBW.out.trans (hB.mono (by omega))
        obtain ⟨x0, x1, x2, x3, x4⟩ := ha1.below hBR ha1.lt
        have HC : RowKit.Hid (∀ W, Below wr.heap.size wr W → Calls Tryd.prog 16 #[tv k1' p1' n1' N1' (.slice q3 l3 c3)] W (SizeR d x W)) :=
          Lib.hid fun W hW => HIH.out _ _ W ((ht1.below hBR).below hW)
        clear hx1 ht1 ha1 hB hBR
        generalize szTo d k l1 = m at *
        go_wp2_with (go_at_call 16; ((with_reducible refine (HC.out _ (Below.refl _ _)).mono ?_); rintro e w3 ⟨rfl, hb⟩))
        have HQ := Lib.hid (HB.out.trans (hb.mono hzr))
        go_roundw
        case rel => exact ⟨k + 1, by omega, by go_num, by rw [HN.out], HQ.out⟩
        case measure => simp [intOf]; omega
      · obtain rfl : k = l1.length := by omega
        go_wp2
        go_ret
        exact ⟨ret_int szTo_all, HBW.out.trans (HB.out.mono (by omega))⟩
theorem wrap64_small {n : Int} (h0 : 0 ≤ n) (h1 : n ≤ 2000000) : wrap64 n = n := by unfold wrap64; omega
theorem sz_eq : ∀ (d : Nat) (t : Tm), tszN d t ≤ 1000000 → sz d t = ((tszN d t : Nat) : Int) := by
  intro d
  induction d with
  | zero => intro t _; rfl
  | succ d ih =>
    intro t h
    obtain ⟨k, p, n, N, kids⟩ := t
    have key : ∀ (l : List Tm) (a : Nat), l.foldl (fun n t => n + tszN d t) a ≤ 1000000 → l.foldl (fun n t => wrap64 (n + sz d t)) (a : Int) = ((l.foldl (fun n t => n + tszN d t) a : Nat) : Int) := by
      intro l
      induction l with
      | nil => intro a _; rfl
      | cons x l ih2 =>
        intro a ha
        rw [List.foldl_cons] at ha
        have h2 := ha
        rw [foldl_add (tszN d)] at h2
        rw [List.foldl_cons, List.foldl_cons, ih x (by omega), wrap64_small (by omega) (by omega)]
        have := ih2 (a + tszN d x) ha
        simpa using this
    exact key kids 1 h
end Go.Proofs.YtncebhddcokkoaaDoor
/- SchemeOrder's calls, as it uses them; boxes and ties. -/
namespace Go.Proofs.YtncebhddcokkoaaDoor
open Go.RowKit
set_option linter.unusedVariables false
def BoolR (r : Bool) (w : World) (e : Ending) (w' : World) : Prop := e = .returned (.bool r) ∧ Below w.heap.size w w'
theorem Gd.two {w : World} {d d1 d2 z1 v1 z2 v2 : Nat} {va vb : Value} {ta tb : Tm} (ha : Gd d1 ta z1 v1) (hb : Gd d2 tb z2 v2) (ia : IsT w d1 va ta) (ib : IsT w d2 vb tb) (h1 : d1 ≤ d) (h2 : d2 ≤ d) (hz1 : z1 ≤ 30000) (hz2 : z2 ≤ 30000) : Two w d va vb ta tb :=
  ⟨ia.more h1, ib.more h2, (ha.more h1 hz1 (Nat.le_refl _)).sm, (hb.more h2 hz2 (Nat.le_refl _)).sm, (ha.more h1 hz1 (Nat.le_refl _)).sz, (hb.more h2 hz2 (Nat.le_refl _)).sz⟩
def Inr.MP.row (xs : List ByteArray) : Inr.MP := ⟨fun v w => SRowO w v xs, fun v w w' h hb => h.below hb⟩
def Inr.MP.term (d : Nat) (t : Tm) : Inr.MP := ⟨fun v w => IsT w d v t, fun v w w' h hb => h.below hb⟩
def Inr.MP.kids (B0 d : Nat) (l : List Tm) : Inr.MP := ⟨fun v w => KidsE (fun b => b < B0) w d v l, fun v w w' h hb => h.below hb⟩
def Inr.MP.box (base : Nat) : Inr.MP := ⟨fun v w => ∃ g, v = .pointer (some ⟨g, 0, none⟩) ∧ base ≤ g ∧ w.heap[g]? = some (.cells #[.int .i64 0, .string ⟨#[]⟩, .string ⟨#[]⟩, .int .i64 0, .slice none 0 0] 36 (0, 0)),
  fun v w w' ⟨g, h1, h2, h3⟩ hb => ⟨g, h1, h2, hb_below h3 hb (hb_lt h3)⟩⟩
/-- A term whose lists don't lie in a box. -/
def Inr.Tie.apart (a b d : Nat) (t : Tm) : Inr.Tie := ⟨a, b, fun v u w => ∃ g, u = .pointer (some ⟨g, 0, none⟩) ∧ IsX (fun b => b ≠ g) w d v t, fun v u w w' ⟨g, h1, h2⟩ hb => ⟨g, h1, h2.below hb⟩⟩
theorem SRowO.two {w : World} {g : Nat} {x y : ByteArray} (h : w.heap[g]? = some (.cells #[.string x, .string y] 9 (0, 0))) : SRowO w (.slice (some ⟨g, 0, none⟩) 2 2) [x, y] := by
  refine ⟨_, 2, rfl, fun i z hz => ⟨g, 0, rfl, ?_⟩⟩
  match i, hz with
  | 0, hz => cases hz; exact hb_at h 0 rfl
  | 1, hz => cases hz; exact hb_at h 1 rfl
  | i + 2, hz => simp at hz
theorem KidsE.two {w w0 : World} {g d : Nat} {k : Int} {p n : ByteArray} {N : Int} {s : Value} {t : Tm} {k2 : Int} {p2 n2 : ByteArray} {N2 : Int} {s2 : Value} {t2 : Tm}
    (h : w.heap[g]? = some (.cells #[.int .i64 k, .string p, .string n, .int .i64 N, s, .int .i64 k2, .string p2, .string n2, .int .i64 N2, s2] 36 (0, 0)))
    (hb : Below w0.heap.size w0 w) (h1 : IsT w0 d (tv k p n N s) t) (h2 : IsT w0 d (tv k2 p2 n2 N2 s2) t2) : KidsE (fun b => b < w0.heap.size) w d (.slice (some ⟨g, 0, none⟩) 2 2) [t, t2] := by
  refine ⟨_, 2, rfl, by show 2 ≤ maxLen; decide, fun i x hx => ?_⟩
  match i, hx with
  | 0, hx =>
    cases hx
    exact ⟨g, 0, k, p, n, N, s, rfl, trivial, ⟨hb_at h 0 rfl, hb_at h 1 rfl, hb_at h 2 rfl, hb_at h 3 rfl, hb_at h 4 rfl⟩, h1.isX.below hb⟩
  | 1, hx =>
    cases hx
    exact ⟨g, 0, k2, p2, n2, N2, s2, rfl, trivial, ⟨hb_at h 5 rfl, hb_at h 6 rfl, hb_at h 7 rfl, hb_at h 8 rfl, hb_at h 9 rfl⟩, h2.isX.below hb⟩
  | i + 2, hx => simp at hx
end Go.Proofs.YtncebhddcokkoaaDoor
/- Lists of names and terms: where a name stands; are two the same? -/
namespace Go.Proofs.YtncebhddcokkoaaDoor
open Go.RowKit
set_option linter.unusedSimpArgs false
set_option linter.unusedVariables false
set_option maxRecDepth 100000 in
set_option maxHeartbeats 4000000 in
theorem usame_any (D : Nat) (va vb : Value) (L : List NT) (w : World) (ha : VAt w D va L) (hb : VAt w D vb L) : Calls Tryd.prog 14 #[va, vb] w (BoolR true w) := by
  obtain ⟨qa, ca, rfl, hl, hA⟩ := ha
  obtain ⟨qb, cb, rfl, _, hB⟩ := hb
  have HA := Lib.hid hA
  have HB := Lib.hid hB
  clear hA hB
  generalize hlen : L.length = len at *
  have HLEN := Lib.hid hlen
  go_enter Tryd.func14, Tryd.ntmps14
  go_wp2
  go_loopw [5] (fun i wr => ∃ j : Nat, j ≤ len ∧ i = .int .i64 j ∧ Below w.heap.size w wr) (fun i _ => len - (intOf i).toNat)
  case atStart => exact ⟨0, Nat.zero_le _, rfl, Below.refl _ _⟩
  case round =>
    obtain ⟨j, hj, rfl, hBL⟩ := hrel
    have HBL := Lib.hid hBL
    by_cases hlt : (j : Int) < (len : Int)
    · have hx : L[j]? = some (L[j]'(by omega)) := List.getElem?_eq_getElem (by omega)
      obtain ⟨ga, k1, p1, n1, N1, s1, e1, e2, e3, e4, e5⟩ := HA.out j _ hx
      obtain ⟨gb, k2, p2, n2, N2, s2, f1, f2, f3, f4, f5⟩ := HB.out j _ hx
      subst e1
      subst f1
      generalize (L[j]'(by omega)) = x at *
      obtain ⟨q1, l1, c1, rfl⟩ := e5.spell
      obtain ⟨q2, l2, c2, rfl⟩ := f5.spell
      have E2 := Lib.hid (keep_cell hBL e2)
      have F2 := Lib.hid (keep_cell hBL f2)
      have E4 := Lib.hid (e4.below hBL e4.lt)
      have F4 := Lib.hid (f4.below hBL f4.lt)
      have E5 := Lib.hid (e5.below hBL)
      have F5 := Lib.hid (f5.below hBL)
      clear hx e2 e3 e4 e5 f2 f3 f4 f5
      generalize x.1 = xn at *
      generalize x.2 = xt at *
      have hxx : (xn.toList == xn.toList) = true := by simp
      go_upto_region 6 with fail
      refine Inr.region (by kernel_rfl) 25 [some 17, some 18, some 19, some 20, some 21, some 22, some 23, some 24, some 25, some 26, some 27, some 28, some 29, some 30, some 31, some 32, some 33, some 34, some 35, some 36, some 37, some 38, some 39, some 40, some 41] [[], [], [0, 1], [2], [3], [], [], [5, 6], [7], [8], [4, 9], [10], [11], [11], [12, 13, 11], [14, 11], [15, 11], [11], [11], [17, 18, 11], [19, 11], [20, 11], [16, 21, 11, 11], [22, 11], [11, 23]] (by kernel_rfl) (by kernel_rfl) (by kernel_rfl) (by kernel_rfl) [Inr.MP.is (.slice (some ⟨ga, 0, none⟩) len ca), Inr.MP.is (.int .i64 j), Inr.MP.is (.pointer (some ⟨ga, j * 6, none⟩)), Inr.MP.is (.pointer (some ⟨ga, j * 6, none⟩)), Inr.MP.is (.string xn), Inr.MP.is (.slice (some ⟨gb, 0, none⟩) len cb), Inr.MP.is (.int .i64 j), Inr.MP.is (.pointer (some ⟨gb, j * 6, none⟩)), Inr.MP.is (.pointer (some ⟨gb, j * 6, none⟩)), Inr.MP.is (.string xn), Inr.MP.is (.bool false), Inr.MP.is (.bool false), Inr.MP.is (.slice (some ⟨ga, 0, none⟩) len ca), Inr.MP.is (.int .i64 j), Inr.MP.is (.pointer (some ⟨ga, j * 6, none⟩)), Inr.MP.is (.pointer (some ⟨ga, j * 6 + 1, none⟩)), Inr.MP.is (tv k1 p1 n1 N1 (.slice q1 l1 c1)), Inr.MP.is (.slice (some ⟨gb, 0, none⟩) len cb), Inr.MP.is (.int .i64 j), Inr.MP.is (.pointer (some ⟨gb, j * 6, none⟩)), Inr.MP.is (.pointer (some ⟨gb, j * 6 + 1, none⟩)), Inr.MP.is (tv k2 p2 n2 N2 (.slice q2 l2 c2)), Inr.MP.is (.bool true), Inr.MP.is (.bool false), Inr.MP.is (.bool false)] [] (by intro x hx; cases hx) ⟨?_, ?_, ?_, ?_, ?_, ?_, ?_, ?_, ?_, ?_, ?_, ?_, ?_, ?_, ?_, ?_, ?_, ?_, ?_, ?_, ?_, ?_, ?_, ?_, ?_, trivial⟩ (fun vs wq hbq hv htie => ?_)
      · intro vs w' hb hv K hK
        clear hv
        have hK2 := hK.out
        clear hK
        simp only [Inr.putD, Inr.dst, List.foldl_cons, List.foldl_nil, List.getD_cons_zero, List.getD_cons_succ, Act.put, List.setIfInBounds_toArray, List.set_cons_zero, List.set_cons_succ] at hK2 ⊢
        have hK := Lib.hid hK2
        clear hK2
        simp only [Region.wanted, Inr.yieldedD, Inr.dst, List.getD_cons_zero, List.getD_cons_succ]
        go_simp
        refine hK.out _ _ (Eq.refl _) (Below.refl _ _) (Inr.noTies _ _ _ _ _)
      · intro vs w' hb hv K hK
        clear hv
        have hK2 := hK.out
        clear hK
        simp only [Inr.putD, Inr.dst, List.foldl_cons, List.foldl_nil, List.getD_cons_zero, List.getD_cons_succ, Act.put, List.setIfInBounds_toArray, List.set_cons_zero, List.set_cons_succ] at hK2 ⊢
        have hK := Lib.hid hK2
        clear hK2
        simp only [Region.wanted, Inr.yieldedD, Inr.dst, List.getD_cons_zero, List.getD_cons_succ]
        go_simp
        refine hK.out _ _ (Eq.refl _) (Below.refl _ _) (Inr.noTies _ _ _ _ _)
      · intro vs w' hb hv K hK
        have h0 : (Inr.MP.is (.slice (some ⟨ga, 0, none⟩) len ca)).p (vs 0) w' := hv 0 (by simp)
        have h1 : (Inr.MP.is (.int .i64 j)).p (vs 1) w' := hv 1 (by simp)
        clear hv
        have hK2 := hK.out
        clear hK
        simp only [Inr.putD, Inr.dst, List.foldl_cons, List.foldl_nil, List.getD_cons_zero, List.getD_cons_succ, Act.put, List.setIfInBounds_toArray, List.set_cons_zero, List.set_cons_succ] at hK2 ⊢
        have hK := Lib.hid hK2
        clear hK2
        generalize vs 0 = y0 at *
        generalize vs 1 = y1 at *
        have h0 : y0 = _ := h0
        subst h0
        have h1 : y1 = _ := h1
        subst h1
        simp only [Region.wanted, Inr.yieldedD, Inr.dst, List.getD_cons_zero, List.getD_cons_succ]
        go_simp
        refine hK.out _ _ (Eq.refl _) (Below.refl _ _) (Inr.noTies _ _ _ _ _)
      · intro vs w' hb hv K hK
        have h2 : (Inr.MP.is (.pointer (some ⟨ga, j * 6, none⟩))).p (vs 2) w' := hv 2 (by simp)
        clear hv
        have hK2 := hK.out
        clear hK
        simp only [Inr.putD, Inr.dst, List.foldl_cons, List.foldl_nil, List.getD_cons_zero, List.getD_cons_succ, Act.put, List.setIfInBounds_toArray, List.set_cons_zero, List.set_cons_succ] at hK2 ⊢
        have hK := Lib.hid hK2
        clear hK2
        generalize vs 2 = y2 at *
        have h2 : y2 = _ := h2
        subst h2
        simp only [Region.wanted, Inr.yieldedD, Inr.dst, List.getD_cons_zero, List.getD_cons_succ]
        go_simp
        refine hK.out _ _ (Eq.refl _) (Below.refl _ _) (Inr.noTies _ _ _ _ _)
      · intro vs w' hb hv K hK
        have h3 : (Inr.MP.is (.pointer (some ⟨ga, j * 6, none⟩))).p (vs 3) w' := hv 3 (by simp)
        clear hv
        have hK2 := hK.out
        clear hK
        simp only [Inr.putD, Inr.dst, List.foldl_cons, List.foldl_nil, List.getD_cons_zero, List.getD_cons_succ, Act.put, List.setIfInBounds_toArray, List.set_cons_zero, List.set_cons_succ] at hK2 ⊢
        have hK := Lib.hid hK2
        clear hK2
        generalize vs 3 = y3 at *
        have h3 : y3 = _ := h3
        subst h3
        have hcx := keep_cell hb E2.out
        simp only [Region.wanted, Inr.yieldedD, Inr.dst, List.getD_cons_zero, List.getD_cons_succ]
        go_simp
        refine hK.out _ _ (Eq.refl _) (Below.refl _ _) (Inr.noTies _ _ _ _ _)
      · intro vs w' hb hv K hK
        clear hv
        have hK2 := hK.out
        clear hK
        simp only [Inr.putD, Inr.dst, List.foldl_cons, List.foldl_nil, List.getD_cons_zero, List.getD_cons_succ, Act.put, List.setIfInBounds_toArray, List.set_cons_zero, List.set_cons_succ] at hK2 ⊢
        have hK := Lib.hid hK2
        clear hK2
        simp only [Region.wanted, Inr.yieldedD, Inr.dst, List.getD_cons_zero, List.getD_cons_succ]
        go_simp
        refine hK.out _ _ (Eq.refl _) (Below.refl _ _) (Inr.noTies _ _ _ _ _)
      · intro vs w' hb hv K hK
        clear hv
        have hK2 := hK.out
        clear hK
        simp only [Inr.putD, Inr.dst, List.foldl_cons, List.foldl_nil, List.getD_cons_zero, List.getD_cons_succ, Act.put, List.setIfInBounds_toArray, List.set_cons_zero, List.set_cons_succ] at hK2 ⊢
        have hK := Lib.hid hK2
        clear hK2
        simp only [Region.wanted, Inr.yieldedD, Inr.dst, List.getD_cons_zero, List.getD_cons_succ]
        go_simp
        refine hK.out _ _ (Eq.refl _) (Below.refl _ _) (Inr.noTies _ _ _ _ _)
      · intro vs w' hb hv K hK
        have h5 : (Inr.MP.is (.slice (some ⟨gb, 0, none⟩) len cb)).p (vs 5) w' := hv 5 (by simp)
        have h6 : (Inr.MP.is (.int .i64 j)).p (vs 6) w' := hv 6 (by simp)
        clear hv
        have hK2 := hK.out
        clear hK
        simp only [Inr.putD, Inr.dst, List.foldl_cons, List.foldl_nil, List.getD_cons_zero, List.getD_cons_succ, Act.put, List.setIfInBounds_toArray, List.set_cons_zero, List.set_cons_succ] at hK2 ⊢
        have hK := Lib.hid hK2
        clear hK2
        generalize vs 5 = y5 at *
        generalize vs 6 = y6 at *
        have h5 : y5 = _ := h5
        subst h5
        have h6 : y6 = _ := h6
        subst h6
        simp only [Region.wanted, Inr.yieldedD, Inr.dst, List.getD_cons_zero, List.getD_cons_succ]
        go_simp
        refine hK.out _ _ (Eq.refl _) (Below.refl _ _) (Inr.noTies _ _ _ _ _)
      · intro vs w' hb hv K hK
        have h7 : (Inr.MP.is (.pointer (some ⟨gb, j * 6, none⟩))).p (vs 7) w' := hv 7 (by simp)
        clear hv
        have hK2 := hK.out
        clear hK
        simp only [Inr.putD, Inr.dst, List.foldl_cons, List.foldl_nil, List.getD_cons_zero, List.getD_cons_succ, Act.put, List.setIfInBounds_toArray, List.set_cons_zero, List.set_cons_succ] at hK2 ⊢
        have hK := Lib.hid hK2
        clear hK2
        generalize vs 7 = y7 at *
        have h7 : y7 = _ := h7
        subst h7
        simp only [Region.wanted, Inr.yieldedD, Inr.dst, List.getD_cons_zero, List.getD_cons_succ]
        go_simp
        refine hK.out _ _ (Eq.refl _) (Below.refl _ _) (Inr.noTies _ _ _ _ _)
      · intro vs w' hb hv K hK
        have h8 : (Inr.MP.is (.pointer (some ⟨gb, j * 6, none⟩))).p (vs 8) w' := hv 8 (by simp)
        clear hv
        have hK2 := hK.out
        clear hK
        simp only [Inr.putD, Inr.dst, List.foldl_cons, List.foldl_nil, List.getD_cons_zero, List.getD_cons_succ, Act.put, List.setIfInBounds_toArray, List.set_cons_zero, List.set_cons_succ] at hK2 ⊢
        have hK := Lib.hid hK2
        clear hK2
        generalize vs 8 = y8 at *
        have h8 : y8 = _ := h8
        subst h8
        have hcx := keep_cell hb F2.out
        simp only [Region.wanted, Inr.yieldedD, Inr.dst, List.getD_cons_zero, List.getD_cons_succ]
        go_simp
        refine hK.out _ _ (Eq.refl _) (Below.refl _ _) (Inr.noTies _ _ _ _ _)
      · intro vs w' hb hv K hK
        have h4 : (Inr.MP.is (.string xn)).p (vs 4) w' := hv 4 (by simp)
        have h9 : (Inr.MP.is (.string xn)).p (vs 9) w' := hv 9 (by simp)
        clear hv
        have hK2 := hK.out
        clear hK
        simp only [Inr.putD, Inr.dst, List.foldl_cons, List.foldl_nil, List.getD_cons_zero, List.getD_cons_succ, Act.put, List.setIfInBounds_toArray, List.set_cons_zero, List.set_cons_succ] at hK2 ⊢
        have hK := Lib.hid hK2
        clear hK2
        generalize vs 4 = y4 at *
        generalize vs 9 = y9 at *
        have h4 : y4 = _ := h4
        subst h4
        have h9 : y9 = _ := h9
        subst h9
        simp only [Region.wanted, Inr.yieldedD, Inr.dst, List.getD_cons_zero, List.getD_cons_succ]
        go_simp
        refine hK.out _ _ (Eq.refl _) (Below.refl _ _) (Inr.noTies _ _ _ _ _)
      · intro vs w' hb hv K hK
        have h10 : (Inr.MP.is (.bool false)).p (vs 10) w' := hv 10 (by simp)
        clear hv
        have hK2 := hK.out
        clear hK
        simp only [Inr.putD, Inr.dst, List.foldl_cons, List.foldl_nil, List.getD_cons_zero, List.getD_cons_succ, Act.put, List.setIfInBounds_toArray, List.set_cons_zero, List.set_cons_succ] at hK2 ⊢
        have hK := Lib.hid hK2
        clear hK2
        generalize vs 10 = y10 at *
        have h10 : y10 = _ := h10
        subst h10
        simp only [Region.wanted, Inr.yieldedD, Inr.dst, List.getD_cons_zero, List.getD_cons_succ]
        go_simp
        refine hK.out _ _ (Eq.refl _) (Below.refl _ _) (Inr.noTies _ _ _ _ _)
      · intro vs w' hb hv K hK
        have h11 : (Inr.MP.is (.bool false)).p (vs 11) w' := hv 11 (by simp)
        clear hv
        have hK2 := hK.out
        clear hK
        simp only [Inr.putD, Inr.dst, List.foldl_cons, List.foldl_nil, List.getD_cons_zero, List.getD_cons_succ, Act.put, List.setIfInBounds_toArray, List.set_cons_zero, List.set_cons_succ] at hK2 ⊢
        have hK := Lib.hid hK2
        clear hK2
        generalize vs 11 = y11 at *
        have h11 : y11 = _ := h11
        subst h11
        simp only [Region.wanted, Inr.yieldedD, Inr.dst, List.getD_cons_zero, List.getD_cons_succ]
        go_simp
        refine hK.out _ _ (Eq.refl _) (Below.refl _ _) (Inr.noTies _ _ _ _ _)
      · intro vs w' hb hv K hK
        have h11 : (Inr.MP.is (.bool false)).p (vs 11) w' := hv 11 (by simp)
        clear hv
        have hK2 := hK.out
        clear hK
        simp only [Inr.putD, Inr.dst, List.foldl_cons, List.foldl_nil, List.getD_cons_zero, List.getD_cons_succ, Act.put, List.setIfInBounds_toArray, List.set_cons_zero, List.set_cons_succ] at hK2 ⊢
        have hK := Lib.hid hK2
        clear hK2
        generalize vs 11 = y11 at *
        have h11 : y11 = _ := h11
        subst h11
        simp only [Region.wanted, Inr.yieldedD, Inr.dst, List.getD_cons_zero, List.getD_cons_succ]
        go_simp
        refine hK.out _ _ (Eq.refl _) (Below.refl _ _) (Inr.noTies _ _ _ _ _)
      · intro vs w' hb hv K hK
        have h11 : (Inr.MP.is (.bool false)).p (vs 11) w' := hv 11 (by simp)
        have h12 : (Inr.MP.is (.slice (some ⟨ga, 0, none⟩) len ca)).p (vs 12) w' := hv 12 (by simp)
        have h13 : (Inr.MP.is (.int .i64 j)).p (vs 13) w' := hv 13 (by simp)
        clear hv
        have hK2 := hK.out
        clear hK
        simp only [Inr.putD, Inr.dst, List.foldl_cons, List.foldl_nil, List.getD_cons_zero, List.getD_cons_succ, Act.put, List.setIfInBounds_toArray, List.set_cons_zero, List.set_cons_succ] at hK2 ⊢
        have hK := Lib.hid hK2
        clear hK2
        generalize vs 11 = y11 at *
        generalize vs 12 = y12 at *
        generalize vs 13 = y13 at *
        have h11 : y11 = _ := h11
        subst h11
        have h12 : y12 = _ := h12
        subst h12
        have h13 : y13 = _ := h13
        subst h13
        simp only [Region.wanted, Inr.yieldedD, Inr.dst, List.getD_cons_zero, List.getD_cons_succ]
        go_simp
        refine hK.out _ _ (Eq.refl _) (Below.refl _ _) (Inr.noTies _ _ _ _ _)
      · intro vs w' hb hv K hK
        have h11 : (Inr.MP.is (.bool false)).p (vs 11) w' := hv 11 (by simp)
        have h14 : (Inr.MP.is (.pointer (some ⟨ga, j * 6, none⟩))).p (vs 14) w' := hv 14 (by simp)
        clear hv
        have hK2 := hK.out
        clear hK
        simp only [Inr.putD, Inr.dst, List.foldl_cons, List.foldl_nil, List.getD_cons_zero, List.getD_cons_succ, Act.put, List.setIfInBounds_toArray, List.set_cons_zero, List.set_cons_succ] at hK2 ⊢
        have hK := Lib.hid hK2
        clear hK2
        generalize vs 11 = y11 at *
        generalize vs 14 = y14 at *
        have h11 : y11 = _ := h11
        subst h11
        have h14 : y14 = _ := h14
        subst h14
        simp only [Region.wanted, Inr.yieldedD, Inr.dst, List.getD_cons_zero, List.getD_cons_succ]
        go_simp
        refine hK.out _ _ (Eq.refl _) (Below.refl _ _) (Inr.noTies _ _ _ _ _)
      · intro vs w' hb hv K hK
        have h11 : (Inr.MP.is (.bool false)).p (vs 11) w' := hv 11 (by simp)
        have h15 : (Inr.MP.is (.pointer (some ⟨ga, j * 6 + 1, none⟩))).p (vs 15) w' := hv 15 (by simp)
        clear hv
        have hK2 := hK.out
        clear hK
        simp only [Inr.putD, Inr.dst, List.foldl_cons, List.foldl_nil, List.getD_cons_zero, List.getD_cons_succ, Act.put, List.setIfInBounds_toArray, List.set_cons_zero, List.set_cons_succ] at hK2 ⊢
        have hK := Lib.hid hK2
        clear hK2
        generalize vs 11 = y11 at *
        generalize vs 15 = y15 at *
        have h11 : y11 = _ := h11
        subst h11
        have h15 : y15 = _ := h15
        subst h15
        obtain ⟨z0, z1, z2, z3, z4⟩ := E4.out.below hb E4.out.lt
        simp only [Region.wanted, Inr.yieldedD, Inr.dst, List.getD_cons_zero, List.getD_cons_succ]
        go_simp
        refine hK.out _ _ (Eq.refl _) (Below.refl _ _) (Inr.noTies _ _ _ _ _)
      · intro vs w' hb hv K hK
        have h11 : (Inr.MP.is (.bool false)).p (vs 11) w' := hv 11 (by simp)
        clear hv
        have hK2 := hK.out
        clear hK
        simp only [Inr.putD, Inr.dst, List.foldl_cons, List.foldl_nil, List.getD_cons_zero, List.getD_cons_succ, Act.put, List.setIfInBounds_toArray, List.set_cons_zero, List.set_cons_succ] at hK2 ⊢
        have hK := Lib.hid hK2
        clear hK2
        generalize vs 11 = y11 at *
        have h11 : y11 = _ := h11
        subst h11
        simp only [Region.wanted, Inr.yieldedD, Inr.dst, List.getD_cons_zero, List.getD_cons_succ]
        go_simp
        refine hK.out _ _ (Eq.refl _) (Below.refl _ _) (Inr.noTies _ _ _ _ _)
      · intro vs w' hb hv K hK
        have h11 : (Inr.MP.is (.bool false)).p (vs 11) w' := hv 11 (by simp)
        clear hv
        have hK2 := hK.out
        clear hK
        simp only [Inr.putD, Inr.dst, List.foldl_cons, List.foldl_nil, List.getD_cons_zero, List.getD_cons_succ, Act.put, List.setIfInBounds_toArray, List.set_cons_zero, List.set_cons_succ] at hK2 ⊢
        have hK := Lib.hid hK2
        clear hK2
        generalize vs 11 = y11 at *
        have h11 : y11 = _ := h11
        subst h11
        simp only [Region.wanted, Inr.yieldedD, Inr.dst, List.getD_cons_zero, List.getD_cons_succ]
        go_simp
        refine hK.out _ _ (Eq.refl _) (Below.refl _ _) (Inr.noTies _ _ _ _ _)
      · intro vs w' hb hv K hK
        have h11 : (Inr.MP.is (.bool false)).p (vs 11) w' := hv 11 (by simp)
        have h17 : (Inr.MP.is (.slice (some ⟨gb, 0, none⟩) len cb)).p (vs 17) w' := hv 17 (by simp)
        have h18 : (Inr.MP.is (.int .i64 j)).p (vs 18) w' := hv 18 (by simp)
        clear hv
        have hK2 := hK.out
        clear hK
        simp only [Inr.putD, Inr.dst, List.foldl_cons, List.foldl_nil, List.getD_cons_zero, List.getD_cons_succ, Act.put, List.setIfInBounds_toArray, List.set_cons_zero, List.set_cons_succ] at hK2 ⊢
        have hK := Lib.hid hK2
        clear hK2
        generalize vs 11 = y11 at *
        generalize vs 17 = y17 at *
        generalize vs 18 = y18 at *
        have h11 : y11 = _ := h11
        subst h11
        have h17 : y17 = _ := h17
        subst h17
        have h18 : y18 = _ := h18
        subst h18
        simp only [Region.wanted, Inr.yieldedD, Inr.dst, List.getD_cons_zero, List.getD_cons_succ]
        go_simp
        refine hK.out _ _ (Eq.refl _) (Below.refl _ _) (Inr.noTies _ _ _ _ _)
      · intro vs w' hb hv K hK
        have h11 : (Inr.MP.is (.bool false)).p (vs 11) w' := hv 11 (by simp)
        have h19 : (Inr.MP.is (.pointer (some ⟨gb, j * 6, none⟩))).p (vs 19) w' := hv 19 (by simp)
        clear hv
        have hK2 := hK.out
        clear hK
        simp only [Inr.putD, Inr.dst, List.foldl_cons, List.foldl_nil, List.getD_cons_zero, List.getD_cons_succ, Act.put, List.setIfInBounds_toArray, List.set_cons_zero, List.set_cons_succ] at hK2 ⊢
        have hK := Lib.hid hK2
        clear hK2
        generalize vs 11 = y11 at *
        generalize vs 19 = y19 at *
        have h11 : y11 = _ := h11
        subst h11
        have h19 : y19 = _ := h19
        subst h19
        simp only [Region.wanted, Inr.yieldedD, Inr.dst, List.getD_cons_zero, List.getD_cons_succ]
        go_simp
        refine hK.out _ _ (Eq.refl _) (Below.refl _ _) (Inr.noTies _ _ _ _ _)
      · intro vs w' hb hv K hK
        have h11 : (Inr.MP.is (.bool false)).p (vs 11) w' := hv 11 (by simp)
        have h20 : (Inr.MP.is (.pointer (some ⟨gb, j * 6 + 1, none⟩))).p (vs 20) w' := hv 20 (by simp)
        clear hv
        have hK2 := hK.out
        clear hK
        simp only [Inr.putD, Inr.dst, List.foldl_cons, List.foldl_nil, List.getD_cons_zero, List.getD_cons_succ, Act.put, List.setIfInBounds_toArray, List.set_cons_zero, List.set_cons_succ] at hK2 ⊢
        have hK := Lib.hid hK2
        clear hK2
        generalize vs 11 = y11 at *
        generalize vs 20 = y20 at *
        have h11 : y11 = _ := h11
        subst h11
        have h20 : y20 = _ := h20
        subst h20
        obtain ⟨z0, z1, z2, z3, z4⟩ := F4.out.below hb F4.out.lt
        simp only [Region.wanted, Inr.yieldedD, Inr.dst, List.getD_cons_zero, List.getD_cons_succ]
        go_simp
        refine hK.out _ _ (Eq.refl _) (Below.refl _ _) (Inr.noTies _ _ _ _ _)
      · intro vs w' hb hv K hK
        have h11 : (Inr.MP.is (.bool false)).p (vs 11) w' := hv 11 (by simp)
        have h16 : (Inr.MP.is (tv k1 p1 n1 N1 (.slice q1 l1 c1))).p (vs 16) w' := hv 16 (by simp)
        have h21 : (Inr.MP.is (tv k2 p2 n2 N2 (.slice q2 l2 c2))).p (vs 21) w' := hv 21 (by simp)
        clear hv
        have hK2 := hK.out
        clear hK
        simp only [Inr.putD, Inr.dst, List.foldl_cons, List.foldl_nil, List.getD_cons_zero, List.getD_cons_succ, Act.put, List.setIfInBounds_toArray, List.set_cons_zero, List.set_cons_succ] at hK2 ⊢
        have hK := Lib.hid hK2
        clear hK2
        generalize vs 11 = y11 at *
        generalize vs 16 = y16 at *
        generalize vs 21 = y21 at *
        have h11 : y11 = _ := h11
        subst h11
        have h16 : y16 = _ := h16
        subst h16
        have h21 : y21 = _ := h21
        subst h21
        simp only [Region.wanted, Inr.yieldedD, Inr.dst, List.getD_cons_zero, List.getD_cons_succ]
        go_simp
        ((with_reducible refine (refSame_any D _ _ xt xt w' (E5.out.below hb) (F5.out.below hb)).mono ?_); rintro e w3 ⟨rfl, hb3⟩)
        go_wp2_with fail
        refine hK.out _ _ (show Value.bool _ = Value.bool _ from congrArg Value.bool (same_self xt)) hb3 (Inr.noTies _ _ _ _ _)
      · intro vs w' hb hv K hK
        have h11 : (Inr.MP.is (.bool false)).p (vs 11) w' := hv 11 (by simp)
        have h22 : (Inr.MP.is (.bool true)).p (vs 22) w' := hv 22 (by simp)
        clear hv
        have hK2 := hK.out
        clear hK
        simp only [Inr.putD, Inr.dst, List.foldl_cons, List.foldl_nil, List.getD_cons_zero, List.getD_cons_succ, Act.put, List.setIfInBounds_toArray, List.set_cons_zero, List.set_cons_succ] at hK2 ⊢
        have hK := Lib.hid hK2
        clear hK2
        generalize vs 11 = y11 at *
        generalize vs 22 = y22 at *
        have h11 : y11 = _ := h11
        subst h11
        have h22 : y22 = _ := h22
        subst h22
        simp only [Region.wanted, Inr.yieldedD, Inr.dst, List.getD_cons_zero, List.getD_cons_succ]
        go_simp
        refine hK.out _ _ (Eq.refl _) (Below.refl _ _) (Inr.noTies _ _ _ _ _)
      · intro vs w' hb hv K hK
        have h11 : (Inr.MP.is (.bool false)).p (vs 11) w' := hv 11 (by simp)
        have h23 : (Inr.MP.is (.bool false)).p (vs 23) w' := hv 23 (by simp)
        clear hv
        have hK2 := hK.out
        clear hK
        simp only [Inr.putD, Inr.dst, List.foldl_cons, List.foldl_nil, List.getD_cons_zero, List.getD_cons_succ, Act.put, List.setIfInBounds_toArray, List.set_cons_zero, List.set_cons_succ] at hK2 ⊢
        have hK := Lib.hid hK2
        clear hK2
        generalize vs 11 = y11 at *
        generalize vs 23 = y23 at *
        have h11 : y11 = _ := h11
        subst h11
        have h23 : y23 = _ := h23
        subst h23
        simp only [Region.wanted, Inr.yieldedD, Inr.dst, List.getD_cons_zero, List.getD_cons_succ]
        go_simp
        refine hK.out _ _ (Eq.refl _) (Below.refl _ _) (Inr.noTies _ _ _ _ _)
      · have hl9 : vs 24 = .bool false := hv 24 (by omega)
        clear hv
        simp only [List.range, List.range.loop, Inr.putD, Inr.dst, List.foldl_cons, List.foldl_nil, List.getD_cons_zero, List.getD_cons_succ, Act.put, List.setIfInBounds_toArray, List.set_cons_zero, List.set_cons_succ]
        simp only [List.drop_succ_cons, List.drop_zero]
        generalize vs 0 = yy0 at *
        generalize vs 1 = yy1 at *
        generalize vs 2 = yy2 at *
        generalize vs 3 = yy3 at *
        generalize vs 4 = yy4 at *
        generalize vs 5 = yy5 at *
        generalize vs 6 = yy6 at *
        generalize vs 7 = yy7 at *
        generalize vs 8 = yy8 at *
        generalize vs 9 = yy9 at *
        generalize vs 10 = yy10 at *
        generalize vs 11 = yy11 at *
        generalize vs 12 = yy12 at *
        generalize vs 13 = yy13 at *
        generalize vs 14 = yy14 at *
        generalize vs 15 = yy15 at *
        generalize vs 16 = yy16 at *
        generalize vs 17 = yy17 at *
        generalize vs 18 = yy18 at *
        generalize vs 19 = yy19 at *
        generalize vs 20 = yy20 at *
        generalize vs 21 = yy21 at *
        generalize vs 22 = yy22 at *
        generalize vs 23 = yy23 at *
        generalize vs 24 = yy24 at *
        subst hl9
        have HQ := Lib.hid (HBL.out.trans (hbq.mono HBL.out.size))
        clear hbq hBL
        go_wp2
        go_roundw
        case rel => exact ⟨j + 1, by omega, by go_num, HQ.out⟩
        case measure => simp [intOf]; omega
    · obtain rfl : j = len := by omega
      go_wp2
      go_ret
      exact ⟨rfl, hBL⟩
end Go.Proofs.YtncebhddcokkoaaDoor
