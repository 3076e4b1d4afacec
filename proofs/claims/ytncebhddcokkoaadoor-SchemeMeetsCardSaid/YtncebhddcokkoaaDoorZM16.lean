/- Texts in a row: U9 Oa Ka. -/
import Derived.Test.YtncebhddcokkoaaDoorZM10
import Derived.Test.YtncebhddcokkoaaDoorZM15
import Derived.Test.YtncebhddcokkoaaDoorZM14
import Derived.Test.YtncebhddcokkoaaDoorZM13
import Derived.Deep.QuietTactic
import Derived.BigQuiet
import Derived.Deep.DeepCutAuto
import Derived.Outline
import Derived.Test.YtncebhddcokkoaaDoorZM1
import Derived.Test.YtncebhddcokkoaaDoorZM2
/- The document's Size; what is put behind one another is what is put at once. -/
namespace Go.Proofs.YtncebhddcokkoaaDoor
open Go.RowKit
set_option maxRecDepth 100000 in
set_option maxHeartbeats 2000000 in
theorem rsize_any (d : Nat) : ∀ (va : Value) (ta : Tm) (w : World), IsT w d va ta → Calls Tryd.prog 16 #[va] w (SizeR d ta w) := by
  induction d with
  | zero => intro va ta w h; cases h
  | succ d ih =>
    intro va ta w ha
    obtain ⟨d1, k1, p1, n1, N1, s1, l1, e1, rfl, rfl, hp1, hn1, hk1⟩ := ha.open
    obtain rfl : d = d1 := by omega
    obtain ⟨q1, c1, hs1, hm1, hr1⟩ := hk1
    subst hs1
    have HR1 := Lib.hid hr1
    clear ha e1 hr1 hp1 hn1
    unfold maxLen at hm1
    have HIH := Lib.hid ih
    clear ih
    go_enter Tryd.func16, Tryd.ntmps16
    go_wp2
    have hBW : Below w.heap.size w (w.alloc (.cells #[.int .i64 k1, .string p1, .string n1, .int .i64 N1, .slice q1 l1.length c1] 36)) := below_alloc w _
    have hbx := hb_new w (.cells #[.int .i64 k1, .string p1, .string n1, .int .i64 N1, .slice q1 l1.length c1] 36)
    generalize hW1 : w.alloc (.cells #[.int .i64 k1, .string p1, .string n1, .int .i64 N1, .slice q1 l1.length c1] 36) = W1 at *
    have HBW := Lib.hid hBW
    have hzw : w.heap.size ≤ W1.heap.size := hBW.size
    have HBX := Lib.hid hbx
    clear hW1 hBW hbx
    go_loopw [3, 4] (fun n i wr => ∃ k : Nat, k ≤ l1.length ∧ i = .int .i64 k ∧ n = .int .i64 (szTo d k l1) ∧ Below W1.heap.size W1 wr) (fun _ i _ => l1.length - (intOf i).toNat)
    case atStart => exact ⟨0, Nat.zero_le _, rfl, rfl, Below.refl _ _⟩
    case round =>
      obtain ⟨k, hk, rfl, rfl, hB⟩ := hrel
      have hzr := hB.size
      have HB := Lib.hid hB
      have xk := hb_at (hb_below HBX.out hB (hb_lt HBX.out)) 4 rfl
      by_cases hlt : k < l1.length
      · have hx1 := List.getElem?_eq_getElem hlt
        have HN := Lib.hid (szTo_next (d := d) hlt)
        generalize l1[k] = x at *
        obtain ⟨b1, o1, k1', p1', n1', N1', s1', hq1, ha1, ht1⟩ := HR1.out k x hx1
        subst hq1
        obtain ⟨q3, l3, c3, hs3⟩ := ht1.spell
        subst hs3
        have hBR : Below w.heap.size w wr := HBW.out.trans (hB.mono (by omega))
        obtain ⟨x0, x1, x2, x3, x4⟩ := ha1.below hBR ha1.lt
        have HC : RowKit.Hid (∀ W, Below wr.heap.size wr W → Calls Tryd.prog 16 #[tv k1' p1' n1' N1' (.slice q3 l3 c3)] W (SizeR d x W)) :=
          Lib.hid fun W hW => HIH.out _ _ W ((ht1.below hBR).below hW)
        clear hx1 ht1 ha1 hB hBR
        generalize szTo d k l1 = m at *
        go_wp2_with (go_at_call 16; ((with_reducible refine (HC.out _ (Below.refl _ _)).mono ?_); rintro e w3 ⟨rfl, hb⟩))
        have HQ := Lib.hid (HB.out.trans (hb.mono hzr))
        go_roundw
        case rel => exact ⟨k + 1, by omega, by go_num, by rw [HN.out], HQ.out⟩
        case measure => simp [intOf]; omega
      · obtain rfl : k = l1.length := by omega
        go_wp2
        go_ret
        exact ⟨ret_int szTo_all, HBW.out.trans (HB.out.mono (by omega))⟩
theorem wrap64_small {n : Int} (h0 : 0 ≤ n) (h1 : n ≤ 2000000) : wrap64 n = n := by unfold wrap64; omega
theorem sz_eq : ∀ (d : Nat) (t : Tm), tszN d t ≤ 1000000 → sz d t = ((tszN d t : Nat) : Int) := by
  intro d
  induction d with
  | zero => intro t _; rfl
  | succ d ih =>
    intro t h
    obtain ⟨k, p, n, N, kids⟩ := t
    have key : ∀ (l : List Tm) (a : Nat), l.foldl (fun n t => n + tszN d t) a ≤ 1000000 → l.foldl (fun n t => wrap64 (n + sz d t)) (a : Int) = ((l.foldl (fun n t => n + tszN d t) a : Nat) : Int) := by
      intro l
      induction l with
      | nil => intro a _; rfl
      | cons x l ih2 =>
        intro a ha
        rw [List.foldl_cons] at ha
        have h2 := ha
        rw [foldl_add (tszN d)] at h2
        rw [List.foldl_cons, List.foldl_cons, ih x (by omega), wrap64_small (by omega) (by omega)]
        have := ih2 (a + tszN d x) ha
        simpa using this
    exact key kids 1 h
end Go.Proofs.YtncebhddcokkoaaDoor
/- SchemeOrder's calls, as it uses them; boxes and ties. -/
namespace Go.Proofs.YtncebhddcokkoaaDoor
open Go.RowKit
set_option linter.unusedVariables false
noncomputable def abB (a b : Tm) : Bool := by classical exact decide (Ab a b)
theorem abB_iff {a b : Tm} : abB a b = true ↔ Ab a b := by unfold abB; simp
theorem abB_of {a b : Tm} {r : Bool} (h : r = true ↔ Ab a b) : r = abB a b := by
  cases r with
  | true => exact (abB_iff.2 (h.1 rfl)).symm
  | false =>
    cases hx : abB a b with
    | false => rfl
    | true => exact absurd (h.2 (abB_iff.1 hx)) (by simp)
def BoolR (r : Bool) (w : World) (e : Ending) (w' : World) : Prop := e = .returned (.bool r) ∧ Below w.heap.size w w'
theorem aboveB_any (d : Nat) (va vb : Value) (ta tb : Tm) (w : World) (h : Two w d va vb ta tb) : Calls Tryd.prog 37 #[va, vb] w (BoolR (abB ta tb) w) :=
  (above_any d va vb ta tb w h).mono fun e w' ⟨r, he, hm, hb⟩ => ⟨by rw [he, abB_of (mt_iff hm)], hb⟩
theorem sameB_any (d : Nat) (va vb : Value) (ta tb : Tm) (w : World) (h : Two w d va vb ta tb) : Calls Tryd.prog 38 #[va, vb] w (BoolR (abB ta tb && abB tb ta) w) :=
  (same7_any d va vb ta tb w h).mono fun e w' ⟨r, he, hm, hb⟩ => ⟨by
    have h1 := sameM_iff hm
    have h2 : r = (abB ta tb && abB tb ta) := by
      cases r with
      | true =>
        have h3 := h1.1 rfl
        rw [abB_iff.2 h3.1, abB_iff.2 h3.2]; rfl
      | false =>
        cases hx : (abB ta tb && abB tb ta) with
        | false => rfl
        | true =>
          rw [Bool.and_eq_true, abB_iff, abB_iff] at hx
          exact absurd (h1.2 hx) (by simp)
    rw [he, h2], hb⟩
theorem Gd.two {w : World} {d d1 d2 z1 v1 z2 v2 : Nat} {va vb : Value} {ta tb : Tm} (ha : Gd d1 ta z1 v1) (hb : Gd d2 tb z2 v2) (ia : IsT w d1 va ta) (ib : IsT w d2 vb tb) (h1 : d1 ≤ d) (h2 : d2 ≤ d) (hz1 : z1 ≤ 30000) (hz2 : z2 ≤ 30000) : Two w d va vb ta tb :=
  ⟨ia.more h1, ib.more h2, (ha.more h1 hz1 (Nat.le_refl _)).sm, (hb.more h2 hz2 (Nat.le_refl _)).sm, (ha.more h1 hz1 (Nat.le_refl _)).sz, (hb.more h2 hz2 (Nat.le_refl _)).sz⟩
theorem IsT.shp {w : World} {d : Nat} {v : Value} {x : Tm} (h : IsT w d v x) : ∃ k p n N q l c, v = tv k p n N (.slice q l c) := by
  obtain ⟨_, k, p, n, N, _, l, _, _, rfl, _, _, q, c, rfl, _⟩ := h.open
  exact ⟨_, _, _, _, _, _, _, rfl⟩
def Inr.MP.row (xs : List ByteArray) : Inr.MP := ⟨fun v w => SRowO w v xs, fun v w w' h hb => h.below hb⟩
def Inr.MP.term (d : Nat) (t : Tm) : Inr.MP := ⟨fun v w => IsT w d v t, fun v w w' h hb => h.below hb⟩
def Inr.MP.kids (B0 d : Nat) (l : List Tm) : Inr.MP := ⟨fun v w => KidsE (fun b => b < B0) w d v l, fun v w w' h hb => h.below hb⟩
def Inr.MP.box (base : Nat) : Inr.MP := ⟨fun v w => ∃ g, v = .pointer (some ⟨g, 0, none⟩) ∧ base ≤ g ∧ w.heap[g]? = some (.cells #[.int .i64 0, .string ⟨#[]⟩, .string ⟨#[]⟩, .int .i64 0, .slice none 0 0] 36 (0, 0)),
  fun v w w' ⟨g, h1, h2, h3⟩ hb => ⟨g, h1, h2, hb_below h3 hb (hb_lt h3)⟩⟩
/-- A term whose lists don't lie in a box. -/
def Inr.Tie.apart (a b d : Nat) (t : Tm) : Inr.Tie := ⟨a, b, fun v u w => ∃ g, u = .pointer (some ⟨g, 0, none⟩) ∧ IsX (fun b => b ≠ g) w d v t, fun v u w w' ⟨g, h1, h2⟩ hb => ⟨g, h1, h2.below hb⟩⟩
theorem SRowO.two {w : World} {g : Nat} {x y : ByteArray} (h : w.heap[g]? = some (.cells #[.string x, .string y] 9 (0, 0))) : SRowO w (.slice (some ⟨g, 0, none⟩) 2 2) [x, y] := by
  refine ⟨_, 2, rfl, fun i z hz => ⟨g, 0, rfl, ?_⟩⟩
  match i, hz with
  | 0, hz => cases hz; exact hb_at h 0 rfl
  | 1, hz => cases hz; exact hb_at h 1 rfl
  | i + 2, hz => simp at hz
theorem KidsE.two {w w0 : World} {g d : Nat} {k : Int} {p n : ByteArray} {N : Int} {s : Value} {t : Tm} {k2 : Int} {p2 n2 : ByteArray} {N2 : Int} {s2 : Value} {t2 : Tm}
    (h : w.heap[g]? = some (.cells #[.int .i64 k, .string p, .string n, .int .i64 N, s, .int .i64 k2, .string p2, .string n2, .int .i64 N2, s2] 36 (0, 0)))
    (hb : Below w0.heap.size w0 w) (h1 : IsT w0 d (tv k p n N s) t) (h2 : IsT w0 d (tv k2 p2 n2 N2 s2) t2) : KidsE (fun b => b < w0.heap.size) w d (.slice (some ⟨g, 0, none⟩) 2 2) [t, t2] := by
  refine ⟨_, 2, rfl, by show 2 ≤ maxLen; decide, fun i x hx => ?_⟩
  match i, hx with
  | 0, hx =>
    cases hx
    exact ⟨g, 0, k, p, n, N, s, rfl, trivial, ⟨hb_at h 0 rfl, hb_at h 1 rfl, hb_at h 2 rfl, hb_at h 3 rfl, hb_at h 4 rfl⟩, h1.isX.below hb⟩
  | 1, hx =>
    cases hx
    exact ⟨g, 0, k2, p2, n2, N2, s2, rfl, trivial, ⟨hb_at h 5 rfl, hb_at h 6 rfl, hb_at h 7 rfl, hb_at h 8 rfl, hb_at h 9 rfl⟩, h2.isX.below hb⟩
  | i + 2, hx => simp at hx
end Go.Proofs.YtncebhddcokkoaaDoor
/- A store of types in memory; what is left as it was. -/
namespace Go.Proofs.YtncebhddcokkoaaDoor
open Go.RowKit
set_option linter.unusedSimpArgs false
set_option linter.unusedVariables false
/-- A type in memory. -/
structure Nd where
  i : Inf
  ks : Value
  lv : Int
  cl : Bool
  be : Int
  pl : Bool
  wk : Int
def Nd.cells (x : Nd) : List Value := [.int .i64 x.i.k, .string x.i.p, .string x.i.n, x.ks, .int .i64 x.lv, .bool x.cl, .int .i64 x.be, .bool x.pl, .int .i64 x.wk]
/-- Where a store lies, and what it says besides its types. -/
structure Cfg where
  b0 : Nat
  B : Nat
  T : TypeId
  rest : List Value
  bud : Int
  full : Bool
  wks : Int
/-- All stays but what is the store's own. -/
structure Kp (c : Cfg) (w w' : World) : Prop where
  below : Below c.b0 w w'
  size : w.heap.size ≤ w'.heap.size
  block : ∀ (k : Nat) (x : Obj), w.heap[k]? = some x → k ≠ c.B → (∀ cs fr, x ≠ .cells cs 90 fr) → w'.heap[k]? = some x
theorem Kp.refl (c : Cfg) (w : World) : Kp c w w := ⟨Below.refl _ _, Nat.le_refl _, fun _ _ h _ _ => h⟩
theorem Kp.trans {c : Cfg} {w w1 w2 : World} (h : Kp c w w1) (k : Kp c w1 w2) : Kp c w w2 :=
  ⟨h.below.trans k.below, Nat.le_trans h.size k.size, fun g x h1 h2 h3 => k.block g x (h.block g x h1 h2 h3) h2 h3⟩
theorem Kp.of_below {c : Cfg} {w w' : World} (hb : c.b0 ≤ w.heap.size) (h : Below w.heap.size w w') : Kp c w w' :=
  ⟨h.mono hb, h.size, fun g x h1 _ _ => by rw [h.block g (hb_lt h1)]; exact h1⟩
/-- Kids in memory. -/
def KI (B : Nat) (w : World) (v : Value) (l : List Nat) : Prop := ∃ q c, v = .slice q l.length c ∧ (l = [] ∨ ∃ g o cs fr, q = some ⟨g, o, none⟩ ∧ w.heap[g]? = some (.cells cs 3 fr) ∧ g ≠ B ∧ ∀ (j y : Nat), l[j]? = some y → cs[o + j]? = some (.int .i64 (y : Nat)))
theorem KI.move {c : Cfg} {w w' : World} {v : Value} {l : List Nat} (h : KI c.B w v l) (k : Kp c w w') : KI c.B w' v l := by
  obtain ⟨q, cc, h1, h2⟩ := h
  refine ⟨q, cc, h1, ?_⟩
  rcases h2 with h2 | ⟨g, o, cs, fr, e, hg, hB, hc⟩
  · exact .inl h2
  · exact .inr ⟨g, o, cs, fr, e, k.block g _ hg hB (fun cs' fr' e2 => by injection e2 with _ e3 _; exact absurd e3 (by decide)), hB, hc⟩
/-- A store's rows. -/
def Rows9 (b0 : Nat) (w : World) (v : Value) (L : List Nd) : Prop := (L = [] ∧ v = .slice none 0 0) ∨ ∃ g cap cur, v = .slice (some ⟨g, 0, none⟩) L.length cap ∧ b0 ≤ g ∧ w.heap[g]? = some (.cells cur 90 (0, 0)) ∧ L.length ≤ cap ∧ cap ≤ maxLen ∧ cur.size = cap * 9 ∧
  ∀ (i : Nat) (x : Nd) (j : Nat) (u : Value), L[i]? = some x → x.cells[j]? = some u → cur[i * 9 + j]? = some u
/-- A store. -/
structure StL (c : Cfg) (v : Value) (L : List Nd) (w : World) : Prop where
  hb : c.b0 ≤ c.B
  ne : c.T ≠ 90
  blk : w.heap[c.B]? = some (.cells (v :: .int .i64 c.bud :: .bool true :: .bool c.full :: .int .i64 c.wks :: c.rest).toArray c.T (0, 0))
  row : Rows9 c.b0 w v L
  kid : ∀ x ∈ L, KI c.B w x.ks x.i.kids
  few : L.length ≤ 100000
theorem StL.lt {c : Cfg} {v : Value} {L : List Nd} {w : World} (h : StL c v L w) : c.B < w.heap.size := hb_lt h.blk
/-- It stays where only new things come. -/
theorem StL.below {c : Cfg} {v : Value} {L : List Nd} {w w' : World} (h : StL c v L w) (k : Below w.heap.size w w') : StL c v L w' := by
  have hk : Kp c w w' := Kp.of_below (Nat.le_trans h.hb (Nat.le_of_lt h.lt)) k
  refine ⟨h.hb, h.ne, hb_below h.blk k h.lt, ?_, fun x hx => (h.kid x hx).move hk, h.few⟩
  rcases h.row with h1 | ⟨g, cap, cur, h1, h2, h3, h4⟩
  · exact .inl h1
  · exact .inr ⟨g, cap, cur, h1, h2, hb_below h3 k (hb_lt h3), h4⟩
/-- Its own cells, and those of a type. -/
theorem StL.at {c : Cfg} {v : Value} {L : List Nd} {w : World} (h : StL c v L w) {i : Nat} {x : Nd} (hx : L[i]? = some x) : ∃ g cap, v = .slice (some ⟨g, 0, none⟩) L.length cap ∧ g ≠ c.B ∧ c.b0 ≤ g ∧ L.length ≤ cap ∧ cap ≤ maxLen ∧
    w.cell? ⟨c.B, 0, none⟩ = some (.slice (some ⟨g, 0, none⟩) L.length cap) ∧ w.cell? ⟨c.B, 1, none⟩ = some (.int .i64 c.bud) ∧ w.cell? ⟨c.B, 2, none⟩ = some (.bool true) ∧ w.cell? ⟨c.B, 3, none⟩ = some (.bool c.full) ∧ w.cell? ⟨c.B, 4, none⟩ = some (.int .i64 c.wks) ∧
    w.cell? ⟨g, i * 9, none⟩ = some (.int .i64 x.i.k) ∧ w.cell? ⟨g, i * 9 + 1, none⟩ = some (.string x.i.p) ∧ w.cell? ⟨g, i * 9 + 2, none⟩ = some (.string x.i.n) ∧ w.cell? ⟨g, i * 9 + 3, none⟩ = some x.ks ∧ w.cell? ⟨g, i * 9 + 4, none⟩ = some (.int .i64 x.lv) ∧
    w.cell? ⟨g, i * 9 + 5, none⟩ = some (.bool x.cl) ∧ w.cell? ⟨g, i * 9 + 6, none⟩ = some (.int .i64 x.be) ∧ w.cell? ⟨g, i * 9 + 7, none⟩ = some (.bool x.pl) ∧ w.cell? ⟨g, i * 9 + 8, none⟩ = some (.int .i64 x.wk) ∧
    ∀ o, w.frozen? ⟨g, o, none⟩ = false := by
  rcases h.row with ⟨rfl, _⟩ | ⟨g, cap, cur, rfl, hg0, hg, hc1, hc2, hsz, hcs⟩
  · simp at hx
  · have hne : g ≠ c.B := by
      rintro rfl
      have := h.blk
      rw [hg] at this
      injection this with this
      injection this with _ e _
      exact h.ne e.symm
    have cc : ∀ j u, x.cells[j]? = some u → w.cell? ⟨g, i * 9 + j, none⟩ = some u := fun j u hu => by rw [hb_cell hg]; exact hcs i x j u hx hu
    exact ⟨g, cap, rfl, hne, hg0, hc1, hc2, hb_at h.blk 0 rfl, hb_at h.blk 1 rfl, hb_at h.blk 2 rfl, hb_at h.blk 3 rfl, hb_at h.blk 4 rfl,
      cc 0 _ rfl, cc 1 _ rfl, cc 2 _ rfl, cc 3 _ rfl, cc 4 _ rfl, cc 5 _ rfl, cc 6 _ rfl, cc 7 _ rfl, cc 8 _ rfl, fun o => hb_free hg o⟩
/-- A cell of a type is stored. -/
theorem StL.put {c : Cfg} {L : List Nd} {w : World} {g cap : Nat} (h : StL c (.slice (some ⟨g, 0, none⟩) L.length cap) L w) {i : Nat} {x y : Nd} (hx : L[i]? = some x) {f : Nat} {u : Value} (hf : f < 9) (hy : ∀ j, y.cells[j]? = if j = f then some u else x.cells[j]?) (hi : y.i = x.i) (hk : y.ks = x.ks) :
    StL c (.slice (some ⟨g, 0, none⟩) L.length cap) (L.set i y) (w.setCell ⟨g, i * 9 + f, none⟩ u) ∧ Kp c w (w.setCell ⟨g, i * 9 + f, none⟩ u) := by
  rcases h.row with ⟨rfl, _⟩ | ⟨g', cap', cur, e, hg0, hg, hc1, hc2, hsz, hcs⟩
  · simp at hx
  · injection e with e1 e2 e3
    injection e1 with e1
    injection e1 with e1
    subst e1 e3
    have hne : g ≠ c.B := by
      rintro rfl
      have := h.blk
      rw [hg] at this
      injection this with this
      injection this with _ e _
      exact h.ne e.symm
    have hil := (List.getElem?_eq_some_iff.1 hx).1
    have hK : Kp c w (w.setCell ⟨g, i * 9 + f, none⟩ u) := ⟨(Below.refl _ _).setCell hg0 _, by simp [World.setCell], fun k z h1 _ h3 => by
      refine hb_set_other h1 u ?_
      rintro rfl
      rw [hg] at h1
      cases h1
      exact h3 _ _ rfl⟩
    refine ⟨⟨h.hb, h.ne, hb_set_other h.blk u (fun e => hne e.symm), .inr ⟨g, cap, cur.setIfInBounds (i * 9 + f) u, by rw [List.length_set], hg0, hb_set_same hg _ _, by rw [List.length_set]; exact hc1, hc2, by rw [Array.size_setIfInBounds]; exact hsz, fun a z j v ha hv => ?_⟩, fun z hz => ?_, by rw [List.length_set]; exact h.few⟩, hK⟩
    · rw [List.getElem?_set] at ha
      rw [Array.getElem?_setIfInBounds]
      have hj : j < 9 := (List.getElem?_eq_some_iff.1 hv).1
      by_cases e : i = a
      · subst e
        rw [if_pos rfl, if_pos hil] at ha
        cases ha
        rw [hy] at hv
        by_cases e2 : j = f
        · subst e2
          rw [if_pos rfl] at hv
          cases hv
          rw [if_pos rfl, if_pos (by rw [hsz]; omega)]
        · rw [if_neg e2] at hv
          rw [if_neg (by omega)]
          exact hcs i x j v hx hv
      · rw [if_neg e] at ha
        rw [if_neg (by omega)]
        exact hcs a z j v ha hv
    · rcases List.mem_or_eq_of_mem_set hz with hz | rfl
      · exact (h.kid z hz).move hK
      · rw [hi, hk]; exact (h.kid x (List.mem_of_getElem? hx)).move hK
/-- What a store's memory says of its types. -/
structure Rep (rk : Nat → Nat) (L : List Nd) (A : Abs) : Prop where
  l : A.l = L.map (·.i)
  lv : ∀ i x, L[i]? = some x → A.lv i = x.lv
  be : ∀ i x, L[i]? = some x → (x.be < 0 ∧ A.r i = i) ∨ ∃ j : Nat, x.be = (j : Int) ∧ j < L.length ∧ A.r j = A.r i ∧ rk j < rk i
/-- All is the same but what types have become. -/
def SameBe (L M : List Nd) : Prop := M.length = L.length ∧ ∀ (i : Nat) (x y : Nd), L[i]? = some x → M[i]? = some y → ∃ b, y = { x with be := b }
theorem SameBe.refl (L : List Nd) : SameBe L L := ⟨rfl, fun i x y hx hy => by rw [hx] at hy; cases hy; exact ⟨x.be, rfl⟩⟩
theorem SameBe.trans {L M K : List Nd} (h : SameBe L M) (k : SameBe M K) : SameBe L K := by
  refine ⟨k.1.trans h.1, fun i x z hx hz => ?_⟩
  have hi := (List.getElem?_eq_some_iff.1 hx).1
  have hy : M[i]? = some (M[i]'(by have := h.1; omega)) := List.getElem?_eq_getElem _
  obtain ⟨b, e⟩ := h.2 i x _ hx hy
  obtain ⟨d, e2⟩ := k.2 i _ z hy hz
  exact ⟨d, by rw [e2, e]⟩
theorem SameBe.set {L : List Nd} {i : Nat} {x : Nd} (hx : L[i]? = some x) (b : Int) : SameBe L (L.set i { x with be := b }) := by
  refine ⟨List.length_set, fun j y z hy hz => ?_⟩
  rw [List.getElem?_set] at hz
  by_cases e : i = j
  · subst e
    rw [if_pos rfl, if_pos (List.getElem?_eq_some_iff.1 hx).1] at hz
    rw [hx] at hy
    cases hy; cases hz
    exact ⟨b, rfl⟩
  · rw [if_neg e, hy] at hz
    cases hz
    exact ⟨y.be, rfl⟩
/-- What a type has become is put further. -/
theorem Rep.halve {rk : Nat → Nat} {L : List Nd} {A : Abs} (h : Rep rk L A) {i j k : Nat} {x y : Nd} (hx : L[i]? = some x) (hj : x.be = (j : Int)) (hy : L[j]? = some y) (hk : y.be = (k : Int)) : Rep rk (L.set i { x with be := (k : Int) }) A := by
  have hr := h.be
  have hm : (L.set i { x with be := (k : Int) }).map (·.i) = L.map (·.i) := by
    apply List.ext_getElem?
    intro a
    rw [List.getElem?_map, List.getElem?_map, List.getElem?_set]
    split
    · rename_i e
      subst e
      split
      · rw [hx]; rfl
      · rw [List.getElem?_eq_none (by omega)]
    · rfl
  have key : ∀ a z, (L.set i { x with be := (k : Int) })[a]? = some z → (a = i ∧ z = { x with be := (k : Int) }) ∨ L[a]? = some z := by
    intro a z hz
    rw [List.getElem?_set] at hz
    split at hz
    · rename_i e
      subst e
      split at hz
      · cases hz; exact .inl ⟨rfl, rfl⟩
      · cases hz
    · exact .inr hz
  refine ⟨h.l.trans hm.symm, fun a z hz => ?_, fun a z hz => ?_⟩
  · rcases key a z hz with ⟨rfl, rfl⟩ | hz
    · exact h.lv a x hx
    · exact h.lv a z hz
  · rw [List.length_set]
    rcases key a z hz with ⟨rfl, rfl⟩ | hz
    · right
      rcases hr a x hx with ⟨h1, _⟩ | ⟨j', e1, e2, e3, e4⟩
      · omega
      · obtain rfl : j' = j := by omega
        rcases hr j' y hy with ⟨h1, _⟩ | ⟨k', f1, f2, f3, f4⟩
        · omega
        · obtain rfl : k' = k := by omega
          exact ⟨k', rfl, f2, by rw [f3, e3], by omega⟩
    · exact hr a z hz
end Go.Proofs.YtncebhddcokkoaaDoor
