/- Texts in a row: Ks Kt Ku. -/
import Derived.Test.YtncebhddcokkoaaDoorZU21
import Derived.Test.YtncebhddcokkoaaDoorZU23
import Derived.Lib.LazyBuf
/- Two types are made the same: a run's list in memory. -/
namespace Go.Proofs.YtncebhddcokkoaaDoor
open Go.RowKit
set_option linter.unusedSimpArgs false
set_option linter.unusedVariables false
namespace Abs
theorem Step.stk {A B : Abs} {l m : List Item} (h : Step A l (some (B, m))) (hI : Inv A l) (hS : Stk A l) : Stk B m := by
  cases h with
  | done h => exact hS.tail rfl fun _ _ h => h
  | @merge x y l h =>
    obtain ⟨a, b, ha, hb, h1, hal, hk⟩ := mark_top hI
    exact hS.tail rfl fun p q hpq => hpq.mrg ha hb (hI.ok.idem y) h hal.2.2.2.2 hk
  | same h => exact hS.tail rfl fun _ _ h => h
  | @bnd u v l h hv hb =>
    have hlt := hI.lt (.pr u v) (by simp)
    generalize et : A.turn (A.r u) (A.r v) = t at *
    obtain ⟨a, b⟩ := t
    obtain ⟨ra, rb, la, lb, hab, ka, hw, _⟩ := turn_spec hI.ok hlt.1 hlt.2 h hv et
    obtain ⟨x, hx, hx1⟩ := var_of ra la ka
    exact hS.tail rfl fun p q hpq => hpq.bnd hI.ok hx hx1
  | @kids u v l x y h hu hv hx hy hn => exact hS.kids hI.ok hu hn.2.2.2.2
theorem Inv.mlt {A : Abs} {l : List Item} (hI : Inv A l) : ∀ x ∈ marks l, x < A.l.length := by
  have key : ∀ (l : List Item), (∀ x ∈ l, match x with
    | .pr u v => u < A.l.length ∧ v < A.l.length
    | .mk x y => x < A.l.length ∧ y < A.l.length) → ∀ x ∈ marks l, x < A.l.length := by
    intro l
    induction l with
    | nil => intro _ x hx; cases hx
    | cons i l ih =>
      intro h x hx
      have h2 := ih fun y hy => h y (by simp [hy])
      cases i with
      | pr u v => exact h2 x hx
      | mk a b =>
        rcases List.mem_cons.1 hx with rfl | hx
        · exact (h (.mk x b) (by simp)).1
        · exact h2 x hx
  exact key l hI.lt
theorem nv_le (A : Abs) : A.nv ≤ A.l.length := by
  unfold nv
  have := List.countP_le_length (p := fun i => decide (A.r i = i) && decide (A.kd i = 1)) (l := List.range A.l.length)
  simpa using this
end Abs
/-- A pair of a run's list. -/
def code : Abs.Item → Int × Int
  | .pr u v => ((u : Int), (v : Int))
  | .mk x y => (-(x : Int) - 1, (y : Int))
abbrev pairV (p : Int × Int) : List Value := [.int .i64 p.1, .int .i64 p.2]
def PRow (base : Nat) (w : World) (v : Value) (ps : List (Int × Int)) : Prop := w.ownsRow base 78 2 v ps.length (ps.map pairV).flatten
theorem pair_len (ps : List (Int × Int)) : ∀ cs ∈ ps.map pairV, cs.length = 2 := by
  intro cs h
  obtain ⟨x, _, rfl⟩ := List.mem_map.1 h
  rfl
theorem PRow.shape {base : Nat} {w : World} {v : Value} {l : List (Int × Int)} (h : PRow base w v l) : ∃ q c, v = .slice q l.length c ∧ c ≤ maxLen ∧ l.length ≤ c := by
  rcases h.2 with ⟨rfl, h0⟩ | ⟨g, cap, cur, rfl, _, _, h1, h2, _⟩
  · exact ⟨none, 0, by rw [h0], by decide, by omega⟩
  · exact ⟨_, _, rfl, h2, h1⟩
theorem PRow.blk {base : Nat} {w : World} {v : Value} {l : List (Int × Int)} (h : PRow base w v l) : ∀ g, v.ownBlock = some g → base ≤ g ∧ ∃ cs, w.heap[g]? = some (.cells cs 78 (0, 0)) := by
  intro g hg
  rcases h.2 with ⟨rfl, h0⟩ | ⟨g', cap, cur, rfl, h3, h4, h1, h2, _⟩
  · cases hg
  · injection hg with hg
    subst hg
    exact ⟨h3, cur, h4⟩
theorem PRow.kp {base : Nat} {c : Cfg} {w w' : World} {v : Value} {l : List (Int × Int)} (h : PRow base w v l) (hk : Kp c w w') (hB : c.B < base) : PRow base w' v l := by
  refine own_kept h fun g y hg hy => hk.block g y hy ?_ ?_
  · have := (h.blk g hg).1; omega
  · intro cs fr e
    obtain ⟨_, cs', h2⟩ := h.blk g hg
    rw [h2] at hy
    cases hy
    injection e with _ e2 _
    exact absurd e2 (by decide)
theorem PRow.pop {base : Nat} {w : World} {v : Value} {T : List (Int × Int)} {t : Int × Int} (h : PRow base w v (T ++ [t])) : ∃ g cap, v = .slice (some ⟨g, 0, none⟩) (T.length + 1) cap ∧ T.length + 1 ≤ cap ∧ cap ≤ maxLen ∧ base ≤ g ∧ w.cell? ⟨g, T.length * 2, none⟩ = some (.int .i64 t.1) ∧ w.cell? ⟨g, T.length * 2 + 1, none⟩ = some (.int .i64 t.2) ∧ PRow base w (.slice (some ⟨g, 0, none⟩) T.length cap) T := by
  obtain ⟨hl, h2⟩ := h
  rw [List.length_append] at h2
  rcases h2 with ⟨rfl, h0⟩ | ⟨g, cap, cur, rfl, h3, h4, h5, h6, h7, h8⟩
  · have h9 : T.length + 1 = 0 := h0
    omega
  · have h5' : T.length + 1 ≤ cap := h5
    have hfl : (T.map pairV).flatten.length = T.length * 2 := by rw [cflat_len _ (pair_len T), List.length_map]
    have e1 : [t].length = 1 := rfl
    rw [List.map_append, List.flatten_append] at h8
    have hc : ∀ j u, (pairV t)[j]? = some u → cur[T.length * 2 + j]? = some u := by
      intro j u hu
      have hj : j < 2 := (List.getElem?_eq_some_iff.1 hu).1
      have e : (cur.toList.take ((T.length + [t].length) * 2))[T.length * 2 + j]? = ((T.map pairV).flatten ++ ([t].map pairV).flatten)[T.length * 2 + j]? := by rw [h8]
      rw [List.getElem?_take, if_pos (by rw [e1]; omega), List.getElem?_append_right (by omega), hfl] at e
      rw [← Array.getElem?_toList, e]
      have e9 : T.length * 2 + j - T.length * 2 = j := by omega
      rw [e9]
      simpa using hu
    refine ⟨g, cap, rfl, h5', h6, h3, by rw [hb_cell h4]; exact hc 0 _ rfl, by rw [hb_cell h4]; exact hc 1 _ rfl, hfl, .inr ⟨g, cap, cur, rfl, h3, h4, by omega, h6, h7, ?_⟩⟩
    have e := congrArg (List.take (T.length * 2)) h8
    rw [List.take_take] at e
    have e2 : min (T.length * 2) ((T.length + [t].length) * 2) = T.length * 2 := by rw [e1]; omega
    rw [e2] at e
    rw [e, ← hfl, List.take_left]
theorem info78 : ∃ i z, Tryd.prog.info? 78 = some i ∧ i.zero = some z ∧ i.size = 2 ∧ i.bytes = 16 ∧ z.cells.size = 2 := by
  have h : (Tryd.prog.info? 78).map (fun i => (i.zero, i.size, i.bytes)) = some (some (.agg #[.int .i64 0, .int .i64 0]), 2, 16) := by kernel_rfl
  obtain ⟨i, hi, e⟩ := Option.map_eq_some_iff.1 h
  injection e with e1 e2
  injection e2 with e2 e3
  exact ⟨i, _, hi, e1, e2, e3, rfl⟩
theorem PRow.app {base : Nat} {w : World} {v : Value} {l : List (Int × Int)} {t : Int × Int} (h : PRow base w v l) (hbase : base ≤ w.heap.size) {g cc : Nat} (h0 : w.cell? ⟨g, 0, none⟩ = some (.int .i64 t.1)) (h0' : w.cell? ⟨g, 1, none⟩ = some (.int .i64 t.2)) (h1 : l.length ≤ 1000000) :
    ∃ v' w', (Builtin.append_ #[82, 82] 82 #[v, .slice (some ⟨g, 0, none⟩) 1 cc]).run Tryd.prog w = .ok v' w' ∧ PRow base w' v' (l ++ [t]) ∧ w.grownBy w' v.ownBlock ∧ (v'.ownBlock = v.ownBlock ∨ v'.ownBlock = some w.heap.size) := by
  obtain ⟨i, z, hi, hz, hs, hby, hzc⟩ := info78
  obtain ⟨v', w', r1, r2, r3, _, r5⟩ := run_append_own_at (P := Tryd.prog) (w := w) base 82 82 78 i z 2 16 (by kernel_rfl) hi hz hs hby hzc (by decide) v l.length (l.map pairV).flatten h ⟨g, 0, none⟩ 1 cc (pairV t) rfl
    (fun j u hu => by
      rw [add_zero_none]
      match j, hu with
      | 0, hu => obtain rfl := Option.some.inj hu; exact h0
      | 1, hu => obtain rfl := Option.some.inj hu; exact h0'
      | j + 2, hu => simp at hu)
    (fun u hu => by
      simp only [List.mem_cons, List.not_mem_nil, or_false] at hu
      rcases hu with rfl | rfl <;> rfl)
    (by unfold maxLen; omega) (by omega) hbase
  refine ⟨v', w', r1, ?_, r3, r5⟩
  show w'.ownsRow base 78 2 v' (l ++ [t]).length ((l ++ [t]).map pairV).flatten
  have e : ((l ++ [t]).map pairV).flatten = (l.map pairV).flatten ++ pairV t := by simp
  rw [List.length_append, e]
  exact r2
end Go.Proofs.YtncebhddcokkoaaDoor
/- A type of others is made: its Kids are gone through, and cloned. -/
namespace Go.Proofs.YtncebhddcokkoaaDoor
open Go.RowKit
set_option linter.unusedSimpArgs false
set_option linter.unusedVariables false
/-- Is a type not plain? -/
def npl (L : List Nd) (i : Int) : Bool := match L[i.toNat]? with
  | some x => !x.pl
  | none => false
theorem make1_any (c : Cfg) (v : Value) (L : List Nd) (W : World) (bs : Nat) (i : Int) (h : StL c v L W) (hs : W.heap[bs]? = some (.cells #[.pointer (some ⟨c.B, 0, none⟩)] 51 (0, 0))) (hi : 0 ≤ i ∧ i < (L.length : Int)) :
    Calls Tryd.prog 52 #[.int .i64 i, .pointer (some ⟨bs, 0, none⟩)] W fun e W' => e = .returned (.bool (npl L i)) ∧ W' = W := by
  obtain ⟨n, rfl⟩ : ∃ n : Nat, i = (n : Int) := ⟨i.toNat, by omega⟩
  have hn : n < L.length := by omega
  have hx : L[n]? = some (L[n]) := List.getElem?_eq_getElem hn
  generalize L[n] = x at hx
  obtain ⟨g, cap, rfl, hgB, hg0, hc1, hc2, s0, s1, s2, s3, s4, x0, x1, x2, x3, x4, x5, x6, x7, x8, hfz⟩ := h.at hx
  have b0 := hb_at hs 0 rfl
  have hlt1 : (n : Int) < (L.length : Int) := by omega
  have e : npl L (n : Int) = !x.pl := by
    unfold npl
    rw [Int.toNat_natCast, hx]
  rw [e]
  clear e h hs hx s1 s2 s3 s4 x0 x1 x2 x3 x4 x5 x6 x8 hfz hi
  go_enter Tryd.func52, Tryd.ntmps52
  go_wp2
  go_ret
  exact ⟨rfl, rfl⟩
set_option maxRecDepth 100000 in
theorem index_make (c : Cfg) (v : Value) (L : List Nd) (w : World) (bs : Nat) (q : Option Addr) (l : List Int) (cc : Nat) (h : StL c v L w) (hs : w.heap[bs]? = some (.cells #[.pointer (some ⟨c.B, 0, none⟩)] 51 (0, 0))) (hl : Ints w q l) (hv : ∀ i ∈ l, 0 ≤ i ∧ i < (L.length : Int)) (hn : l.length ≤ 1000000) :
    Calls Tryd.prog 75 #[.slice q l.length cc, .func (.func 52) #[] #[.pointer (some ⟨bs, 0, none⟩)]] w fun e w' => (∃ r : Int, e = .returned (.int .i64 r) ∧ (r ≥ 0 ↔ ∃ i ∈ l, npl L i = true)) ∧ Below w.heap.size w w' := by
  have HA := Lib.hid fun (W : World) (hW : Below w.heap.size w W) (i : Int) (hi : 0 ≤ i ∧ i < (L.length : Int)) => make1_any c v L W bs i (h.below hW) (hb_below hs hW (hb_lt hs)) hi
  have HL := Lib.hid hl
  have HV := Lib.hid hv
  clear h hs hl hv
  go_enter Tryd.func75, Tryd.ntmps75
  go_wp2
  go_loopw [8] (fun t wr => ∃ k : Nat, t = .int .i64 k ∧ k ≤ l.length ∧ Below w.heap.size w wr ∧ ∀ i ∈ l.take k, npl L i = false) (fun t _ => l.length - (intOf t).toNat)
  case atStart => exact ⟨0, rfl, Nat.zero_le _, Below.refl _ _, fun i hi => by simp at hi⟩
  case round =>
    obtain ⟨k, rfl, hk, hb, hall⟩ := hrel
    have HALL := Lib.hid hall
    have HB := Lib.hid hb
    clear hall hb
    by_cases hlt : k < l.length
    · have hki : (k : Int) < (l.length : Int) := by omega
      have hy := List.getElem?_eq_getElem hlt
      generalize l[k] = y at hy
      obtain ⟨g, o, rfl, hc⟩ := (HL.out.below HB.out) k y hy
      have HA2 := Lib.hid (HA.out wr HB.out y (HV.out y (List.mem_of_getElem? hy)))
      have HY := Lib.hid hy
      clear hy
      cases hd : npl L y with
      | true =>
        rw [hd] at HA2
        have HBD := Lib.hid hd
        clear hd
        go_wp2_with (go_at_call 52; (with_reducible refine HA2.out.mono ?_); rintro e w1 ⟨rfl, rfl⟩)
        all_goals go_ret
        all_goals exact ⟨⟨k, rfl, ⟨fun _ => ⟨y, List.mem_of_getElem? HY.out, HBD.out⟩, fun _ => by omega⟩⟩, HB.out⟩
      | false =>
        rw [hd] at HA2
        have HBD := Lib.hid hd
        clear hd
        go_wp2_with (go_at_call 52; (with_reducible refine HA2.out.mono ?_); rintro e w1 ⟨rfl, rfl⟩)
        refine ⟨⟨k + 1, by go_num, by omega, HB.out, fun i hi => ?_⟩, by simp [intOf]; omega⟩
        have e : l.take (k + 1) = l.take k ++ [y] := by rw [List.take_add_one, HY.out]; rfl
        rw [e] at hi
        rcases List.mem_append.1 hi with hi | hi
        · exact HALL.out i hi
        · cases List.mem_singleton.1 hi; exact HBD.out
    · have hki : ¬ (k : Int) < (l.length : Int) := by omega
      obtain rfl : k = l.length := by omega
      rw [List.take_length] at HALL
      go_wp2
      go_ret
      exact ⟨⟨-1, rfl, ⟨fun h => by omega, fun ⟨i, hi, h⟩ => by have := HALL.out i hi; rw [h] at this; cases this⟩⟩, HB.out⟩
set_option maxRecDepth 100000 in
theorem contains_make (c : Cfg) (v : Value) (L : List Nd) (w : World) (bs : Nat) (q : Option Addr) (l : List Int) (cc : Nat) (h : StL c v L w) (hs : w.heap[bs]? = some (.cells #[.pointer (some ⟨c.B, 0, none⟩)] 51 (0, 0))) (hl : Ints w q l) (hv : ∀ i ∈ l, 0 ≤ i ∧ i < (L.length : Int)) (hn : l.length ≤ 1000000) :
    Calls Tryd.prog 51 #[.slice q l.length cc, .func (.func 52) #[] #[.pointer (some ⟨bs, 0, none⟩)]] w fun e w' => (∃ r, e = .returned (.bool r) ∧ (r = true ↔ ∃ i ∈ l, npl L i = true)) ∧ Below w.heap.size w w' := by
  have HI := Lib.hid (index_make c v L w bs q l cc h hs hl hv hn)
  clear h hs hl
  go_enter Tryd.func51, Tryd.ntmps51
  go_wp2_with (go_at_call 75; (with_reducible refine HI.out.mono ?_); rintro e w1 ⟨⟨r, rfl, hr⟩, hb⟩; have HR := Lib.hid hr; have HB := Lib.hid hb; clear hr hb)
  all_goals go_ret
  all_goals exact ⟨⟨_, rfl, by simpa using HR.out⟩, HB.out⟩
def NewQ (n : Nat) (q : Option Addr) : Prop := ∀ g o, q = some ⟨g, o, none⟩ → n ≤ g
set_option maxRecDepth 100000 in
theorem clone_any (w : World) (q : Option Addr) (l : List Nat) (cc B : Nat) (hl : Ints w q (l.map Int.ofNat)) (hn : l.length ≤ 100000) (hB : B < w.heap.size) :
    Calls Tryd.prog 53 #[.slice q l.length cc] w fun e w' => ∃ kq kc, e = .returned (.slice kq l.length kc) ∧ KI B w' (.slice kq l.length kc) l ∧ Below w.heap.size w w' ∧ NewQ w.heap.size kq := by
  have heq := fun W => run_eql_slice_nil (P := Tryd.prog) W 88 3 q l.length cc (by kernel_rfl)
  cases q with
  | none =>
    have : l = [] := by
      cases l with
      | nil => rfl
      | cons a l =>
        obtain ⟨g, o, e, _⟩ := hl 0 (Int.ofNat a) rfl
        cases e
    subst this
    clear heq
    have heq0 := fun W => run_eql_slice_nil (P := Tryd.prog) W 88 3 none 0 cc (by kernel_rfl)
    show Calls Tryd.prog 53 #[.slice none 0 cc] w _
    go_enter Tryd.func53, Tryd.ntmps53
    go_wp2
    go_ret
    exact ⟨none, 0, rfl, ⟨none, 0, rfl, .inl rfl⟩, Below.refl _ _, fun g o e => by cases e⟩
  | some a =>
    have HL := Lib.hid hl
    clear hl
    go_enter Tryd.func53, Tryd.ntmps53
    go_wp2_with ((at_builtin; refine (fun h : True → _ => h trivial) ?_))
    intro _
    have hBa := below_alloc w (.cells #[] 3)
    have hr0 : IRow w.heap.size (w.alloc (.cells #[] 3)) (.slice (some ⟨w.heap.size, 0, none⟩) 0 0) [] := ⟨rfl, .inr ⟨w.heap.size, 0, #[], rfl, Nat.le_refl _, hb_new _ _, Nat.le_refl _, by decide, rfl, rfl⟩⟩
    have hBS : B < (w.alloc (.cells #[] 3)).heap.size := by have := hBa.size; omega
    have fin : ∀ v4 w4, IRow w.heap.size w4 v4 l → (w.alloc (.cells #[] 3)).grownBy w4 (some w.heap.size) → ∃ kq kc, v4 = .slice kq l.length kc ∧ KI B w4 (.slice kq l.length kc) l ∧ Below w.heap.size w w4 ∧ NewQ w.heap.size kq := by
      intro v4 w4 hr hg
      obtain ⟨q4, c4, rfl, _, _⟩ := hr.shape
      refine ⟨q4, c4, rfl, ⟨q4, c4, rfl, ?_⟩, ⟨hBa.os ▸ hg.os, hBa.tape ▸ hg.tape, hBa.output ▸ hg.output, Nat.le_trans hBa.size hg.size, fun k hk => (hg.block k (by have := hBa.size; omega) (fun e => by cases e; omega)).trans (hBa.block k hk)⟩, fun g o e => ?_⟩
      rotate_left
      · rcases hr.2 with ⟨h0, _⟩ | ⟨g', cap, cur, e', h3, _⟩
        · rw [e] at h0; injection h0 with h0; cases h0
        · rw [e] at e'
          injection e' with e1 _ _
          injection e1 with e1
          injection e1 with e1
          subst e1
          exact h3
      rcases hr.2 with ⟨_, h0⟩ | ⟨g, cap, cur, e, h3, h4, h5, h6, h7, h8⟩
      · exact .inl (List.eq_nil_of_length_eq_zero h0)
      · injection e with e1 _ _
        refine .inr ⟨g, 0, cur, (0, 0), e1, h4, by omega, fun j y hy => ?_⟩
        rw [Nat.mul_one] at h8
        have hj := (List.getElem?_eq_some_iff.1 hy).1
        have e2 : (cur.toList.take l.length)[j]? = (l.map intV)[j]? := by rw [h8]
        rw [List.getElem?_take, if_pos hj, List.getElem?_map, hy] at e2
        rw [Nat.zero_add, ← Array.getElem?_toList, e2]
        rfl
    have FIN := Lib.hid fin
    clear fin heq
    by_cases hln : l = []
    · have e : l.length = 0 := by rw [hln]; rfl
      have hrun : (Builtin.append_ #[88, 88] 88 #[.slice (some ⟨w.heap.size, 0, none⟩) 0 0, .slice (some a) l.length cc]).run Tryd.prog (w.alloc (.cells #[] 3)) = .ok (.slice (some ⟨w.heap.size, 0, none⟩) 0 0) (w.alloc (.cells #[] 3)) := by rw [e]; exact run_app_nil _ _ _ _ (by omega) _ _
      have hf := FIN.out _ _ (by rw [hln]; exact hr0) ⟨rfl, rfl, rfl, Nat.le_refl _, fun _ _ _ => rfl⟩
      have HF := Lib.hid hf
      refine wpList_app rfl _ _ rfl rfl rfl rfl hrun ?_
      clear hrun hf hr0
      go_wp2
      go_ret
      obtain ⟨kq, kc, e1, e2, e3⟩ := HF.out
      exact ⟨kq, kc, congrArg Ending.returned e1, e2, e3⟩
    · obtain ⟨y0, hy0⟩ : ∃ y, l[0]? = some y := by
        cases l with
        | nil => exact absurd rfl hln
        | cons y l => exact ⟨y, rfl⟩
      obtain ⟨g, o, e, _⟩ := HL.out 0 (Int.ofNat y0) (by rw [List.getElem?_map, hy0]; rfl)
      cases e
      obtain ⟨v4, w4, hrun, hr4, hg4, _⟩ := hr0.app (m := l) (g := g) (o := o) (cc := cc) hBa.size (fun _ j y hy => by
        obtain ⟨g', o', e, hc⟩ := (HL.out.below hBa) j (Int.ofNat y) (by rw [List.getElem?_map, hy]; rfl)
        cases e
        exact hc) (by simp; omega)
      rw [List.nil_append] at hr4
      have hf := FIN.out v4 w4 hr4 hg4
      obtain ⟨kq, kc, rfl, e2, e3⟩ := hf
      refine wpList_app rfl _ _ rfl rfl rfl rfl hrun ?_
      have E2 := Lib.hid e2
      have E3 := Lib.hid e3
      clear hrun hr4 hg4 e2 e3 hr0 HL
      go_wp2
      go_ret
      exact ⟨kq, kc, rfl, E2.out, E3.out⟩
end Go.Proofs.YtncebhddcokkoaaDoor
/- A type of others is made. -/
namespace Go.Proofs.YtncebhddcokkoaaDoor
open Go.RowKit
set_option linter.unusedSimpArgs false
set_option linter.unusedVariables false
set_option maxRecDepth 100000 in
set_option maxHeartbeats 4000000 in
theorem make_any (c : Cfg) (v : Value) (L : List Nd) (w : World) (k : Int) (p n : ByteArray) (q : Option Addr) (l : List Nat) (cc : Nat) (h : StL c v L w) (hk : k = 2 ∨ k = 3 ∨ k = 4) (hl : Ints w q (l.map Int.ofNat)) (hv : ∀ y ∈ l, y < L.length) (hll : l.length ≤ 100000) (hn : L.length < 100000) (hf : c.full = false) (hb : (L.length : Int) < c.bud) :
    Calls Tryd.prog 26 #[.pointer (some ⟨c.B, 0, none⟩), .int .i64 k, .string p, .string n, .slice q l.length cc] w fun e w' => e = .returned (.int .i64 (L.length : Nat)) ∧
      ∃ v' ks pl, StL c v' (L ++ [⟨⟨k, p, n, l⟩, ks, 0, false, -1, pl, 0⟩]) w' ∧ Kp c w w' ∧ (pl = true → ∀ y ∈ l, ∃ x, L[y]? = some x ∧ x.pl = true) ∧ ∀ g o m cc, ks = .slice (some ⟨g, o, none⟩) m cc → w.heap.size ≤ g := by
  have hblw : c.b0 ≤ w.heap.size := Nat.le_trans h.hb (Nat.le_of_lt h.lt)
  have hb1 := below_alloc w (.cells #[.pointer (some ⟨c.B, 0, none⟩)] 51)
  have HS := Lib.hid (h.below hb1)
  have hs := hb_new w (.cells #[.pointer (some ⟨c.B, 0, none⟩)] 51)
  have HL := Lib.hid (hl.below hb1)
  have HB := Lib.hid hb1
  have b0 := hb_at hs 0 rfl
  have hml : (l.map Int.ofNat).length = l.length := by simp
  have hvi : ∀ i ∈ l.map Int.ofNat, 0 ≤ i ∧ i < (L.length : Int) := by
    intro i hi
    obtain ⟨y, hy, rfl⟩ := List.mem_map.1 hi
    have := hv y hy
    exact ⟨Int.natCast_nonneg y, by show (y : Int) < _; omega⟩
  have hBl := h.lt
  clear h hl hb1
  go_enter Tryd.func26, Tryd.ntmps26
  go_upto_region 1 with (fail)
  have hsz1 : (w.alloc (.cells #[.pointer (some ⟨c.B, 0, none⟩)] 51)).heap.size = w.heap.size + 1 := by simp
  generalize w.alloc (.cells #[.pointer (some ⟨c.B, 0, none⟩)] 51) = W1 at *
  have hHAS := has_any c v L W1 q (l.map Int.ofNat) cc HS.out HL.out (by rw [hml]; omega)
  rw [hml] at hHAS
  have HHAS := Lib.hid hHAS
  have HCM := Lib.hid fun (W : World) (hW : Below W1.heap.size W1 W) => (hml ▸ contains_make c v L W w.heap.size q (l.map Int.ofNat) cc (HS.out.below hW) (hb_below hs hW (hb_lt hs)) (HL.out.below hW) hvi (by rw [hml]; omega) : Calls Tryd.prog 51 #[.slice q l.length cc, .func (.func 52) #[] #[.pointer (some ⟨w.heap.size, 0, none⟩)]] W fun e w' => (∃ r, e = .returned (.bool r) ∧ (r = true ↔ ∃ i ∈ l.map Int.ofNat, npl L i = true)) ∧ Below W.heap.size W w')
  have HOT := Lib.hid fun (W : World) => other_any W k
  have hkd : decide (k = 2 ∨ k = 3 ∨ k = 4) = true := by simpa using hk
  have HKD := Lib.hid hkd
  have HVI := Lib.hid hvi
  have hsl := hb_lt hs
  have HSB := Lib.hid hs
  have HCL := Lib.hid fun (W : World) (hW : Below W1.heap.size W1 W) => clone_any W q l cc c.B (HL.out.below hW) hll (Nat.lt_of_lt_of_le HS.out.lt hW.size)
  have HADD := Lib.hid fun (W : World) (hW : Below W1.heap.size W1 W) (kq : Option Addr) (kc : Nat) (bp : Bool) (hki : KI c.B W (.slice kq l.length kc) l) => add_any c v L W k 0 0 0 p n l kq l.length kc false bp (HS.out.below hW) hki hn hf hb
  clear hHAS hkd hk hvi hs
  go_upto_region 4 with (first
    | (go_at_call 49; (with_reducible refine (HOT.out _).mono ?_); rintro e w1 ⟨rfl, rfl⟩; rw [HKD.out])
    | (go_at_call 50; (with_reducible refine HHAS.out.mono ?_); rintro e w2 ⟨⟨r, rfl, hr⟩, hb2⟩; (obtain rfl : r = true := hr.2 ⟨hf, HVI.out⟩); have HB2 := Lib.hid hb2; have b2 := hb_at (hb_below HSB.out hb2 hsl) 0 rfl; have hsl2 := hb2.size; clear hr hb2)
    | (go_at_call 51; (with_reducible refine (HCM.out _ HB2.out).mono ?_); rintro e w3 ⟨⟨r3, rfl, hr3⟩, hb3⟩; have HR3 := Lib.hid hr3; have HB3 := Lib.hid (HB2.out.trans (hb3.mono HB2.out.size)); have b3 := hb_at (hb_below (hb_below HSB.out HB2.out hsl) hb3 (by omega)) 0 rfl; clear hr3 hb3))
  have hHB3 := HB3.out
  have hpl : (!r3) = true → ∀ y ∈ l, ∃ x, L[y]? = some x ∧ x.pl = true := by
    intro hr y hy
    have h3 : r3 = false := by simpa using hr
    have h4 : ¬ ∃ i ∈ l.map Int.ofNat, npl L i = true := fun h5 => by
      have := HR3.out.2 h5
      rw [h3] at this
      cases this
    have hyl : y < L.length := by
      have := hv y hy
      exact this
    have hx : L[y]? = some (L[y]) := List.getElem?_eq_getElem hyl
    refine ⟨L[y], hx, ?_⟩
    by_cases hp : (L[y]).pl = true
    · exact hp
    · refine absurd ⟨Int.ofNat y, List.mem_map.2 ⟨y, hy, rfl⟩, ?_⟩ h4
      have hyn : (Int.ofNat y).toNat = y := rfl
      unfold npl
      rw [hyn, hx]
      simpa using hp
  have HPL := Lib.hid hpl
  clear hpl hv
  have hdr := hHB3.drew
  go_region_law (first
    | (go_simp; go_at_call 53; (with_reducible refine (HCL.out _ hdr).mono ?_); rintro e w4 ⟨kq, kc, rfl, hki, hb4, hnq⟩; have HNQ := Lib.hid hnq; clear hnq; have HKI := Lib.hid hki; have HB4 := Lib.hid (hdr.trans (hb4.mono hdr.size)); have b4 := hb_at (hb_below HSB.out HB4.out hsl) 0 rfl; clear hki hb4)
    | (go_simp; go_at_call 48; (with_reducible refine (HADD.out _ HB4.out _ _ _ HKI.out).mono ?_); rintro e w5 ⟨rfl, v5, hS5, hK5⟩; have HS5 := Lib.hid hS5; have HK5 := Lib.hid hK5; clear hS5 hK5))
  all_goals
    go_wp2
    go_ret
    exact ⟨rfl, v5, _, !r3, HS5.out, (Kp.of_below hblw (HB.out.trans (HB4.out.mono HB.out.size))).trans HK5.out, HPL.out, fun g o m cc e => by
      injection e with e1 _ _
      have h1 := HNQ.out g o e1
      have h2 := hdr.size
      have h3 := HB.out.size
      have h4 : w3.drew.heap.size = w3.heap.size := rfl
      omega⟩
end Go.Proofs.YtncebhddcokkoaaDoor
