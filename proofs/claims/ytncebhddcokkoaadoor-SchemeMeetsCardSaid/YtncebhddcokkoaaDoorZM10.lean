/- Texts in a row: U7 U8 Va. -/
import Derived.Test.YtncebhddcokkoaaDoorZM9
import Derived.Deep.DeepCutAuto
import Derived.Outline
import Derived.Test.YtncebhddcokkoaaDoorZM5
import Derived.Test.YtncebhddcokkoaaDoorZM8
/- The closure that puts types in the place of variables. -/
namespace Go.Proofs.YtncebhddcokkoaaDoor
open Go.RowKit
/-- A type with others in the place of some variables. -/
def sub (σ : ByteArray → Option Tm) : Nat → Tm → Tm
  | 0, t => t
  | d + 1, .mk k p n N kids => match (if k = 1 then σ n else none) with
    | some t => t
    | none => .mk k p n N (kids.map (sub σ d))
theorem sub_no {σ : ByteArray → Option Tm} {d : Nat} {k : Int} {p n : ByteArray} {N : Int} {kids : List Tm} (h : (if k = 1 then σ n else none) = none) : sub σ (d + 1) (.mk k p n N kids) = .mk k p n N (kids.map (sub σ d)) := by unfold sub; rw [h]
theorem sub_yes {σ : ByteArray → Option Tm} {d : Nat} {p n : ByteArray} {N : Int} {kids : List Tm} {t : Tm} (h : σ n = some t) : sub σ (d + 1) (.mk 1 p n N kids) = t := by unfold sub; rw [if_pos rfl, h]
def byOf (g : ByteArray → Option Int) (bys : List Tm) (n : ByteArray) : Option Tm := (g n).bind fun i => bys[i.toNat]?
theorem IsX.more {X : Nat → Prop} {w : World} {d d' : Nat} (hd : d ≤ d') : ∀ {v : Value} {x : Tm}, IsX X w d v x → IsX X w d' v x := by
  induction d generalizing d' with
  | zero => intro v x h; cases h
  | succ d ih =>
    intro v x h
    obtain ⟨d', rfl⟩ : ∃ m, d' = m + 1 := ⟨d' - 1, by omega⟩
    obtain ⟨k, p, n, N, kids⟩ := x
    obtain ⟨q, c, h1, h2, h3, h4, h5⟩ := h
    refine ⟨q, c, h1, h2, h3, h4, fun i y hy => ?_⟩
    obtain ⟨b, o, k', p', n', N', s', e, hX, ha, ht⟩ := h5 i y hy
    exact ⟨b, o, k', p', n', N', s', e, hX, ha, ih (by omega) ht⟩
theorem IsX.mk {X : Nat → Prop} {w : World} {d : Nat} {k N : Int} {p n : ByteArray} {q : Option Addr} {c : Nat} {kids : List Tm} (hp : p.size ≤ maxLen) (hn : n.size ≤ maxLen) (h : KidsX X w d (.slice q kids.length c) kids) : IsX X w (d + 1) (tv k p n N (.slice q kids.length c)) (.mk k p n N kids) := by
  obtain ⟨q4, c4, e4, h4, h5⟩ := h
  exact ⟨q4, c4, by rw [e4], hp, hn, h4, h5⟩
/-- What the closure has. -/
structure PutSt (w : World) (Bm Bb Bp M m : Nat) (g : ByteArray → Option Int) (qb : Option Addr) (cb e : Nat) (bys : List Tm) : Prop where
  met : w.heap[Bm]? = some (.cells #[.map (some M)] 83 (0, 0))
  by_ : w.heap[Bb]? = some (.cells #[.slice qb bys.length cb] 34 (0, 0))
  put : w.heap[Bp]? = some (.cells #[.func (.func 90) #[] #[.pointer (some ⟨Bm, 0, none⟩), .pointer (some ⟨Bb, 0, none⟩), .pointer (some ⟨Bp, 0, none⟩)]] 50 (0, 0))
  kids : KidsT w e (.slice qb bys.length cb) bys
  map : PMap w M m g
  pos : ∀ s i, g s = some i → 0 ≤ i
  small : ∀ x ∈ bys, Sm e x
theorem PutSt.below {w w' : World} {Bm Bb Bp M m : Nat} {g : ByteArray → Option Int} {qb : Option Addr} {cb e : Nat} {bys : List Tm} (h : PutSt w Bm Bb Bp M m g qb cb e bys) (hb : Below w.heap.size w w') : PutSt w' Bm Bb Bp M m g qb cb e bys :=
  ⟨hb_below h.met hb (hb_lt h.met), hb_below h.by_ hb (hb_lt h.by_), hb_below h.put hb (hb_lt h.put), h.kids.below hb, h.map.below hb, h.pos, h.small⟩
set_option maxRecDepth 100000 in
set_option maxHeartbeats 4000000 in
theorem put_any (Bm Bb Bp M m : Nat) (g : ByteArray → Option Int) (qb : Option Addr) (cb e : Nat) (bys : List Tm) : ∀ (d : Nat) (w0 : World), PutSt w0 Bm Bb Bp M m g qb cb e bys → PutR Bm Bb Bp d (e + d) (sub (byOf g bys) d) w0 := by
  intro d
  induction d with
  | zero => intro w0 _ v t w _ h; cases h
  | succ d ih =>
    intro w0 hst v t w hb0 h hs
    obtain ⟨k, p, n, N, kids⟩ := t
    obtain ⟨q, c, rfl, hp, hn, hkm, hK⟩ := h
    have hst1 := hst.below hb0
    have hB0 := below2 w (.cells #[.int .i64 k, .string p, .string n, .int .i64 N, .slice q kids.length c] 36) (.cells #[.int .i64 0, .string ⟨#[]⟩, .string ⟨#[]⟩, .int .i64 0, .slice none 0 0] 36)
    have HST := Lib.hid (hst1.below hB0)
    have HW := Lib.hid (withKids48 Bm Bb Bp d (e + d) (sub (byOf g bys) d) k p n N kids (.slice q kids.length c) _ (ih _ HST.out) (KidsT.below ⟨q, c, rfl, hkm, hK⟩ hB0) hs.1 hs.2)
    have HP := Lib.hid hp
    have HN := Lib.hid hn
    have HB0 := Lib.hid hB0
    have k0 := hb_alloc (hb_new w (.cells #[.int .i64 k, .string p, .string n, .int .i64 N, .slice q kids.length c] 36)) (.cells #[.int .i64 0, .string ⟨#[]⟩, .string ⟨#[]⟩, .int .i64 0, .slice none 0 0] 36)
    have k1 := hb_new (w.alloc (.cells #[.int .i64 k, .string p, .string n, .int .i64 N, .slice q kids.length c] 36)) (.cells #[.int .i64 0, .string ⟨#[]⟩, .string ⟨#[]⟩, .int .i64 0, .slice none 0 0] 36)
    rw [World.size_alloc] at k1
    have K0 := Lib.hid k0
    have K1 := Lib.hid k1
    have x0 := hb_at k0 0 rfl
    have x1 := hb_at k0 1 rfl
    have x2 := hb_at k0 2 rfl
    have x3 := hb_at k0 3 rfl
    have x4 := hb_at k0 4 rfl
    have cm := hb_at HST.out.met 0 rfl
    have cbb := hb_at HST.out.by_ 0 rfl
    have cp := hb_at HST.out.put 0 rfl
    clear hst hst1 hB0 k0 k1 hK hs hp hn hb0 ih
    have HZ : RowKit.Hid (((w.alloc (.cells #[.int .i64 k, .string p, .string n, .int .i64 N, .slice q kids.length c] 36)).alloc (.cells #[.int .i64 0, .string ⟨#[]⟩, .string ⟨#[]⟩, .int .i64 0, .slice none 0 0] 36)).heap.size = w.heap.size + 2) := Lib.hid (by simp)
    by_cases hk1 : k = 1
    rotate_left
    · have e1 : (k == 1) = false := by simpa using hk1
      have HI : RowKit.Hid ((g n).getD 0 = (g n).getD 0) := Lib.hid rfl
      have HS : RowKit.Hid ((g n).isSome = (g n).isSome) := Lib.hid rfl
      have HSUB : RowKit.Hid (sub (byOf g bys) (d + 1) (.mk k p n N kids) = .mk k p n N (kids.map (sub (byOf g bys) d))) := Lib.hid (sub_no (if_neg hk1))
      clear hk1
      go_enter Tryd.func90, Tryd.ntmps90
      go_wp2_with (first
        | (at_lookup; refine wpList_pm_look rfl _ _ rfl rfl HST.out.map n rfl HN.out _ _ HI.out HS.out ?_)
        | (go_at_call 92; refine HW.out.mono ?_; rintro e w3 ⟨s3, rfl, hx3, hb3⟩; have HX3 := Lib.hid hx3; obtain ⟨q3, c3, rfl, _, _⟩ := hx3; have h1 := hb_below K1.out hb3 (by simp); have y0 := hb_at h1 0 rfl; have y1 := hb_at h1 1 rfl; have y2 := hb_at h1 2 rfl; have y3 := hb_at h1 3 rfl; have y4 := hb_at h1 4 rfl; have g0 := hb_free h1 0; have g1 := hb_free h1 1; have g2 := hb_free h1 2; have g3 := hb_free h1 3; have g4 := hb_free h1 4; have HB3 := Lib.hid hb3; clear hb3 h1))
      have hB3 : Below w.heap.size w w3 := HB0.out.trans (HB3.out.mono HB0.out.size)
      refine bodyPost_ret (v := tv k p n N (.slice q3 (kids.map (sub (byOf g bys) d)).length c3)) (by simp [results, Tryd.results90, go_sem, y0, y1, y2, y3, y4]) rfl ⟨_, rfl, ?_, (((((hB3.setCell (by simp) _).setCell (by simp) _).setCell (by simp) _).setCell (by simp) _).setCell (by simp) _)⟩
      rw [HSUB.out]
      generalize kids.map (sub (byOf g bys) d) = kk at *
      refine IsX.mk (d := e + d) HP.out HN.out (HX3.out.move fun b hb => ?_)
      rw [HZ.out] at hb
      refine ⟨by omega, ?_⟩
      rw [Below.heap_setCell _ _ _ b (by show b ≠ w.heap.size + 1; omega), Below.heap_setCell _ _ _ b (by show b ≠ w.heap.size + 1; omega), Below.heap_setCell _ _ _ b (by show b ≠ w.heap.size + 1; omega), Below.heap_setCell _ _ _ b (by show b ≠ w.heap.size + 1; omega), Below.heap_setCell _ _ _ b (by show b ≠ w.heap.size + 1; omega)]
    · subst hk1
      have e1 : ((1 : Int) == 1) = true := rfl
      cases hg : g n with
      | none =>
        have HI : RowKit.Hid ((g n).getD 0 = 0) := Lib.hid (by rw [hg]; rfl)
        have HS : RowKit.Hid ((g n).isSome = false) := Lib.hid (by rw [hg]; rfl)
        have HSUB : RowKit.Hid (sub (byOf g bys) (d + 1) (.mk 1 p n N kids) = .mk 1 p n N (kids.map (sub (byOf g bys) d))) := Lib.hid (sub_no (by rw [if_pos rfl]; unfold byOf; rw [hg]; rfl))
        clear hg
        go_enter Tryd.func90, Tryd.ntmps90
        go_wp2_with (first
          | (at_lookup; refine wpList_pm_look rfl _ _ rfl rfl HST.out.map n rfl HN.out _ _ HI.out HS.out ?_)
          | (go_at_call 92; refine HW.out.mono ?_; rintro e w3 ⟨s3, rfl, hx3, hb3⟩; have HX3 := Lib.hid hx3; obtain ⟨q3, c3, rfl, _, _⟩ := hx3; have h1 := hb_below K1.out hb3 (by simp); have y0 := hb_at h1 0 rfl; have y1 := hb_at h1 1 rfl; have y2 := hb_at h1 2 rfl; have y3 := hb_at h1 3 rfl; have y4 := hb_at h1 4 rfl; have g0 := hb_free h1 0; have g1 := hb_free h1 1; have g2 := hb_free h1 2; have g3 := hb_free h1 3; have g4 := hb_free h1 4; have HB3 := Lib.hid hb3; clear hb3 h1))
        have hB3 : Below w.heap.size w w3 := HB0.out.trans (HB3.out.mono HB0.out.size)
        refine bodyPost_ret (v := tv 1 p n N (.slice q3 (kids.map (sub (byOf g bys) d)).length c3)) (by simp [results, Tryd.results90, go_sem, y0, y1, y2, y3, y4]) rfl ⟨_, rfl, ?_, (((((hB3.setCell (by simp) _).setCell (by simp) _).setCell (by simp) _).setCell (by simp) _).setCell (by simp) _)⟩
        rw [HSUB.out]
        generalize kids.map (sub (byOf g bys) d) = kk at *
        refine IsX.mk (d := e + d) HP.out HN.out (HX3.out.move fun b hb => ?_)
        rw [HZ.out] at hb
        refine ⟨by omega, ?_⟩
        rw [Below.heap_setCell _ _ _ b (by show b ≠ w.heap.size + 1; omega), Below.heap_setCell _ _ _ b (by show b ≠ w.heap.size + 1; omega), Below.heap_setCell _ _ _ b (by show b ≠ w.heap.size + 1; omega), Below.heap_setCell _ _ _ b (by show b ≠ w.heap.size + 1; omega), Below.heap_setCell _ _ _ b (by show b ≠ w.heap.size + 1; omega)]
      | some i =>
        have hi0 := HST.out.pos n i hg
        obtain ⟨j, rfl⟩ : ∃ j : Nat, i = j := ⟨i.toNat, by omega⟩
        have HI : RowKit.Hid ((g n).getD 0 = (j : Int)) := Lib.hid (by rw [hg]; rfl)
        have HS : RowKit.Hid ((g n).isSome = true) := Lib.hid (by rw [hg]; rfl)
        by_cases hj : j < bys.length
        · have d1 : decide ((j : Int) < (bys.length : Int)) = true := by simp; omega
          have HSUB : RowKit.Hid (sub (byOf g bys) (d + 1) (.mk 1 p n N kids) = bys[j]) := Lib.hid (sub_yes (by unfold byOf; rw [hg]; show bys[(j : Int).toNat]? = _; rw [Int.toNat_natCast]; exact List.getElem?_eq_getElem hj))
          have HSM := Lib.hid (HST.out.small bys[j] (List.getElem_mem hj))
          obtain ⟨q0, c0, hq, hbl, hby⟩ := HST.out.kids
          obtain ⟨rfl, _, rfl⟩ := Value.slice.inj hq
          obtain ⟨b, o, k', p', n', N', s', rfl, hta, hit⟩ := hby j bys[j] (List.getElem?_eq_getElem hj)
          obtain ⟨t0, t1, t2, t3, t4⟩ := hta
          have HIT := Lib.hid hit
          clear hg hi0 hby hit hq
          generalize bys[j] = y at HSUB HSM HIT
          go_enter Tryd.func90, Tryd.ntmps90
          go_wp2_with (first
            | (at_lookup; refine wpList_pm_look rfl _ _ rfl rfl HST.out.map n rfl HN.out _ _ HI.out HS.out ?_)
            | (go_at_call 91; refine (tclone_any e _ y _ HIT.out HSM.out).mono ?_; rintro e5 w3 ⟨v3, rfl, hx3, hb3⟩; have HX3 := Lib.hid hx3; have HB3 := Lib.hid hb3; obtain ⟨k9, p9, n9, N9, q9, l9, c9, rfl⟩ := hx3.shape; have h1 := hb_below K1.out hb3 (by simp); have y0 := hb_at h1 0 rfl; have y1 := hb_at h1 1 rfl; have y2 := hb_at h1 2 rfl; have y3 := hb_at h1 3 rfl; have y4 := hb_at h1 4 rfl; have g0 := hb_free h1 0; have g1 := hb_free h1 1; have g2 := hb_free h1 2; have g3 := hb_free h1 3; have g4 := hb_free h1 4; clear hx3 hb3 h1))
          have hB3 : Below w.heap.size w w3 := HB0.out.trans (HB3.out.mono HB0.out.size)
          refine bodyPost_ret (v := tv k9 p9 n9 N9 (.slice q9 l9 c9)) (by simp [results, Tryd.results90, go_sem, y0, y1, y2, y3, y4]) rfl ⟨_, rfl, ?_, (((((hB3.setCell (by simp) _).setCell (by simp) _).setCell (by simp) _).setCell (by simp) _).setCell (by simp) _)⟩
          rw [HSUB.out]
          refine IsX.more (Nat.le_add_right e (d + 1)) (HX3.out.move fun b hb _ => ?_)
          rw [HZ.out] at hb
          refine ⟨by omega, ?_⟩
          rw [Below.heap_setCell _ _ _ b (by show b ≠ w.heap.size + 1; omega), Below.heap_setCell _ _ _ b (by show b ≠ w.heap.size + 1; omega), Below.heap_setCell _ _ _ b (by show b ≠ w.heap.size + 1; omega), Below.heap_setCell _ _ _ b (by show b ≠ w.heap.size + 1; omega), Below.heap_setCell _ _ _ b (by show b ≠ w.heap.size + 1; omega)]
        · have d1 : decide ((j : Int) < (bys.length : Int)) = false := by simp; omega
          have HSUB : RowKit.Hid (sub (byOf g bys) (d + 1) (.mk 1 p n N kids) = .mk 1 p n N (kids.map (sub (byOf g bys) d))) := Lib.hid (sub_no (by rw [if_pos rfl]; unfold byOf; rw [hg]; show bys[(j : Int).toNat]? = none; rw [List.getElem?_eq_none (by simp; omega)]))
          clear hg hi0
          go_enter Tryd.func90, Tryd.ntmps90
          go_wp2_with (first
            | (at_lookup; refine wpList_pm_look rfl _ _ rfl rfl HST.out.map n rfl HN.out _ _ HI.out HS.out ?_)
            | (go_at_call 92; refine HW.out.mono ?_; rintro e w3 ⟨s3, rfl, hx3, hb3⟩; have HX3 := Lib.hid hx3; obtain ⟨q3, c3, rfl, _, _⟩ := hx3; have h1 := hb_below K1.out hb3 (by simp); have y0 := hb_at h1 0 rfl; have y1 := hb_at h1 1 rfl; have y2 := hb_at h1 2 rfl; have y3 := hb_at h1 3 rfl; have y4 := hb_at h1 4 rfl; have g0 := hb_free h1 0; have g1 := hb_free h1 1; have g2 := hb_free h1 2; have g3 := hb_free h1 3; have g4 := hb_free h1 4; have HB3 := Lib.hid hb3; clear hb3 h1))
          have hB3 : Below w.heap.size w w3 := HB0.out.trans (HB3.out.mono HB0.out.size)
          refine bodyPost_ret (v := tv 1 p n N (.slice q3 (kids.map (sub (byOf g bys) d)).length c3)) (by simp [results, Tryd.results90, go_sem, y0, y1, y2, y3, y4]) rfl ⟨_, rfl, ?_, (((((hB3.setCell (by simp) _).setCell (by simp) _).setCell (by simp) _).setCell (by simp) _).setCell (by simp) _)⟩
          rw [HSUB.out]
          generalize kids.map (sub (byOf g bys) d) = kk at *
          refine IsX.mk (d := e + d) HP.out HN.out (HX3.out.move fun b hb => ?_)
          rw [HZ.out] at hb
          refine ⟨by omega, ?_⟩
          rw [Below.heap_setCell _ _ _ b (by show b ≠ w.heap.size + 1; omega), Below.heap_setCell _ _ _ b (by show b ≠ w.heap.size + 1; omega), Below.heap_setCell _ _ _ b (by show b ≠ w.heap.size + 1; omega), Below.heap_setCell _ _ _ b (by show b ≠ w.heap.size + 1; omega), Below.heap_setCell _ _ _ b (by show b ≠ w.heap.size + 1; omega)]
end Go.Proofs.YtncebhddcokkoaaDoor
/- Types put in the place of variables, whole. -/
namespace Go.Proofs.YtncebhddcokkoaaDoor
open Go.RowKit
/-- Where each text first stands among the first. -/
def fg (names : List ByteArray) : Nat → ByteArray → Option Int
  | 0, _ => none
  | k + 1, t => match fg names k t with
    | some i => some i
    | none => if names[k]? = some t then some (k : Int) else none
theorem fg_pos (names : List ByteArray) (k : Nat) (t : ByteArray) (i : Int) (h : fg names k t = some i) : 0 ≤ i := by
  induction k with
  | zero => cases h
  | succ k ih =>
    unfold fg at h
    cases e : fg names k t with
    | some j => rw [e] at h; exact ih (by rw [e]; exact h)
    | none =>
      rw [e] at h
      simp only at h
      split at h
      · cases h; omega
      · cases h
theorem fg_there {names : List ByteArray} {k : Nat} {s : ByteArray} (hs : names[k]? = some s) {i : Int} (h : fg names k s = some i) : fg names (k + 1) = fg names k := by
  funext t
  show (match fg names k t with | some i => some i | none => if names[k]? = some t then some (k : Int) else none) = _
  cases e : fg names k t with
  | some j => rfl
  | none =>
    simp only
    rw [hs, if_neg]
    rintro e2
    cases e2
    rw [e] at h; cases h
theorem fg_new {names : List ByteArray} {k : Nat} {s : ByteArray} (hs : names[k]? = some s) (h : fg names k s = none) : fg names (k + 1) = fun t => if t = s then some (k : Int) else fg names k t := by
  funext t
  show (match fg names k t with | some i => some i | none => if names[k]? = some t then some (k : Int) else none) = _
  by_cases e : t = s
  · subst e
    rw [h, if_pos rfl]
    simp only
    rw [hs, if_pos rfl]
  · rw [if_neg e]
    cases e3 : fg names k t with
    | some j => rfl
    | none =>
      simp only
      rw [hs, if_neg fun e4 => e (by cases e4; rfl)]
structure SubSt (w wr : World) (k : Int) (p n : ByteArray) (N : Int) (q : Option Addr) (ln c : Nat) (qb : Option Addr) (lb cb : Nat) (m : Nat) (g : ByteArray → Option Int) : Prop where
  t : wr.heap[w.heap.size]? = some (.cells #[.int .i64 k, .string p, .string n, .int .i64 N, .slice q ln c] 36 (0, 0))
  y : wr.heap[w.heap.size + 1]? = some (.cells #[.slice qb lb cb] 34 (0, 0))
  r : wr.heap[w.heap.size + 1 + 1]? = some (.cells #[.int .i64 0, .string ⟨#[]⟩, .string ⟨#[]⟩, .int .i64 0, .slice none 0 0] 36 (0, 0))
  f : wr.heap[w.heap.size + 1 + 1 + 1 + 1]? = some (.cells #[.map (some (w.heap.size + 1 + 1 + 1))] 83 (0, 0))
  m : PMap wr (w.heap.size + 1 + 1 + 1) m g
  b : Below w.heap.size w wr
theorem SubSt.turned {w wr w' : World} {k : Int} {p n : ByteArray} {N : Int} {q : Option Addr} {ln c : Nat} {qb : Option Addr} {lb cb : Nat} {m m' : Nat} {g g' : ByteArray → Option Int} (h : SubSt w wr k p n N q ln c qb lb cb m g) (ht : wr.mapTurned w' (w.heap.size + 1 + 1 + 1)) (hp : PMap w' (w.heap.size + 1 + 1 + 1) m' g') : SubSt w w' k p n N q ln c qb lb cb m' g' :=
  ⟨hb_grown h.t ht.grown (by simp; omega), hb_grown h.y ht.grown (by simp), hb_grown h.r ht.grown (by simp), hb_grown h.f ht.grown (by simp), hp, turned_below h.b (Nat.le_refl _) ht (by omega)⟩
set_option maxRecDepth 100000 in
set_option maxHeartbeats 4000000 in
theorem subst_any (d e : Nat) (t : Tm) (v : Value) (names : List ByteArray) (vn : Value) (bys : List Tm) (vb : Value) (w : World) (ht : IsT w d v t) (hn : SRow w vn names) (hnl : names.length ≤ 100000) (hns : ∀ s ∈ names, s.size ≤ maxLen) (hb : KidsT w e vb bys) (hs : Sm d t) (hbs : ∀ x ∈ bys, Sm e x) :
    Calls Tryd.prog 80 #[v, vn, vb] w fun en w' => ∃ v', en = .returned v' ∧ IsX (fun b => w.heap.size ≤ b) w' (e + d) v' (sub (byOf (fg names names.length) bys) d t) ∧ Below w.heap.size w w' := by
  obtain ⟨d1, k, p, n, N, s1, kids, e1, e2, rfl, _, _, q, c, rfl, _⟩ := ht.open
  obtain ⟨qn, cn, rfl, hnc⟩ := hn
  have HT := Lib.hid ht
  have HY := Lib.hid hb
  obtain ⟨qb, cb, rfl, hbm, _⟩ := hb
  have HN := Lib.hid hnc
  have HNS := Lib.hid hns
  have HS := Lib.hid hs
  have HBS := Lib.hid hbs
  generalize kids.length = ln at *
  clear ht hnc hns hs hbs e1 e2
  have hmm := @run_makeMap Tryd.prog
  have HX : RowKit.Hid (SubSt w (((((w.alloc (.cells #[.int .i64 k, .string p, .string n, .int .i64 N, .slice q ln c] 36)).alloc (.cells #[.slice qb bys.length cb] 34)).alloc (.cells #[.int .i64 0, .string ⟨#[]⟩, .string ⟨#[]⟩, .int .i64 0, .slice none 0 0] 36)).alloc (.map #[] 0)).alloc (.cells #[.map (some (w.heap.size + 1 + 1 + 1))] 83)) k p n N q ln c qb bys.length cb 0 (fg names 0)) := Lib.hid (by
    have c0 := hb_alloc (hb_alloc (hb_alloc (hb_alloc (hb_new w (.cells #[.int .i64 k, .string p, .string n, .int .i64 N, .slice q ln c] 36)) (.cells #[.slice qb bys.length cb] 34)) (.cells #[.int .i64 0, .string ⟨#[]⟩, .string ⟨#[]⟩, .int .i64 0, .slice none 0 0] 36)) (.map #[] 0)) (.cells #[.map (some (w.heap.size + 1 + 1 + 1))] 83)
    have c1 := hb_alloc (hb_alloc (hb_alloc (hb_new (w.alloc (.cells #[.int .i64 k, .string p, .string n, .int .i64 N, .slice q ln c] 36)) (.cells #[.slice qb bys.length cb] 34)) (.cells #[.int .i64 0, .string ⟨#[]⟩, .string ⟨#[]⟩, .int .i64 0, .slice none 0 0] 36)) (.map #[] 0)) (.cells #[.map (some (w.heap.size + 1 + 1 + 1))] 83)
    have c2 := hb_alloc (hb_alloc (hb_new ((w.alloc (.cells #[.int .i64 k, .string p, .string n, .int .i64 N, .slice q ln c] 36)).alloc (.cells #[.slice qb bys.length cb] 34)) (.cells #[.int .i64 0, .string ⟨#[]⟩, .string ⟨#[]⟩, .int .i64 0, .slice none 0 0] 36)) (.map #[] 0)) (.cells #[.map (some (w.heap.size + 1 + 1 + 1))] 83)
    have c3 := (PMap.made (((w.alloc (.cells #[.int .i64 k, .string p, .string n, .int .i64 N, .slice q ln c] 36)).alloc (.cells #[.slice qb bys.length cb] 34)).alloc (.cells #[.int .i64 0, .string ⟨#[]⟩, .string ⟨#[]⟩, .int .i64 0, .slice none 0 0] 36))).below (below_alloc _ (.cells #[.map (some (w.heap.size + 1 + 1 + 1))] 83))
    have c4 := hb_new ((((w.alloc (.cells #[.int .i64 k, .string p, .string n, .int .i64 N, .slice q ln c] 36)).alloc (.cells #[.slice qb bys.length cb] 34)).alloc (.cells #[.int .i64 0, .string ⟨#[]⟩, .string ⟨#[]⟩, .int .i64 0, .slice none 0 0] 36)).alloc (.map #[] 0)) (.cells #[.map (some (w.heap.size + 1 + 1 + 1))] 83)
    simp only [World.size_alloc] at c1 c2 c3 c4
    exact ⟨c0, c1, c2, c4, c3, (below2 w (.cells #[.int .i64 k, .string p, .string n, .int .i64 N, .slice q ln c] 36) (.cells #[.slice qb bys.length cb] 34)).trans (((below2 _ (.cells #[.int .i64 0, .string ⟨#[]⟩, .string ⟨#[]⟩, .int .i64 0, .slice none 0 0] 36) (.map #[] 0)).trans ((below_alloc _ (.cells #[.map (some (w.heap.size + 1 + 1 + 1))] 83)).mono (by simp <;> omega))).mono (by simp <;> omega))⟩)
  go_enter Tryd.func80, Tryd.ntmps80
  go_wp2
  go_loopw [16] (fun i wr => ∃ j m : Nat, j ≤ names.length ∧ m ≤ j ∧ i = .int .i64 j ∧ SubSt w wr k p n N q ln c qb bys.length cb m (fg names j)) (fun i _ => names.length - (intOf i).toNat)
  case atStart => exact ⟨0, 0, Nat.zero_le _, Nat.le_refl _, rfl, HX.out⟩
  case round =>
    obtain ⟨j, m, hj, hm, rfl, hX⟩ := hrel
    have x0 : wr.cell? ⟨w.heap.size + 1 + 1 + 1 + 1, 0, none⟩ = some (.map (some (w.heap.size + 1 + 1 + 1))) := hb_at hX.f 0 rfl
    clear HX
    have HXr := Lib.hid hX
    have HM := Lib.hid hX.m
    clear hX
    by_cases hlt : j < names.length
    · have hse := List.getElem?_eq_getElem hlt
      obtain ⟨g1, rfl, hc1⟩ := HN.out j names[j] hse
      have x1 : wr.cell? ⟨g1, j, none⟩ = some (.string names[j]) := keep_cell HXr.out.b hc1
      have HSZ := Lib.hid (HNS.out names[j] (List.getElem_mem hlt))
      have HSE := Lib.hid hse
      clear hc1 hse
      generalize names[j] = s at *
      cases hfg : fg names j s with
      | none =>
        have HI : RowKit.Hid ((fg names j s).getD 0 = 0) := Lib.hid (by rw [hfg]; rfl)
        have HIS : RowKit.Hid ((fg names j s).isSome = false) := Lib.hid (by rw [hfg]; rfl)
        have HNX := Lib.hid (fg_new HSE.out hfg)
        clear hfg
        go_wp2_with (first
          | (at_lookup; refine wpList_pm_look rfl _ _ rfl rfl HM.out s rfl HSZ.out _ _ HI.out HIS.out ?_)
          | (at_mapUpdate; refine wpList_pm_put rfl _ _ _ rfl rfl HM.out (by unfold maxLen; omega) s rfl HSZ.out (j : Int) (WalkArith.wf_i64 (by omega)) rfl ?_; intro w1 hp1 ht1; have HP1 := Lib.hid hp1; have HT1 := Lib.hid ht1; clear hp1 ht1))
        go_roundw
        case rel => exact ⟨j + 1, m + 1, by omega, by omega, by go_num, HXr.out.turned HT1.out (by rw [HNX.out]; exact HP1.out)⟩
        case measure => simp [intOf]; omega
      | some i =>
        have HI : RowKit.Hid ((fg names j s).getD 0 = i) := Lib.hid (by rw [hfg]; rfl)
        have HIS : RowKit.Hid ((fg names j s).isSome = true) := Lib.hid (by rw [hfg]; rfl)
        have HNX := Lib.hid (fg_there HSE.out hfg)
        clear hfg
        go_wp2_with (at_lookup; refine wpList_pm_look rfl _ _ rfl rfl HM.out s rfl HSZ.out _ _ HI.out HIS.out ?_)
        go_roundw
        case rel => exact ⟨j + 1, m, by omega, by omega, by go_num, by rw [HNX.out]; exact HXr.out⟩
        case measure => simp [intOf]; omega
    · obtain rfl : j = names.length := by omega
      have hsz : w.heap.size + 1 + 1 + 1 + 1 < wr.heap.size := hb_lt HXr.out.f
      have hBa : Below wr.heap.size wr (wr.alloc (.cells #[.func (.func 90) #[] #[.pointer (some ⟨w.heap.size + 1 + 1 + 1 + 1, 0, none⟩), .pointer (some ⟨w.heap.size + 1, 0, none⟩), .pointer (some ⟨wr.heap.size, 0, none⟩)]] 50)) := below_alloc _ _
      have HB1 : RowKit.Hid (Below w.heap.size w (wr.alloc (.cells #[.func (.func 90) #[] #[.pointer (some ⟨w.heap.size + 1 + 1 + 1 + 1, 0, none⟩), .pointer (some ⟨w.heap.size + 1, 0, none⟩), .pointer (some ⟨wr.heap.size, 0, none⟩)]] 50))) := Lib.hid (HXr.out.b.alloc (by omega) _)
      have HST : RowKit.Hid (PutSt (wr.alloc (.cells #[.func (.func 90) #[] #[.pointer (some ⟨w.heap.size + 1 + 1 + 1 + 1, 0, none⟩), .pointer (some ⟨w.heap.size + 1, 0, none⟩), .pointer (some ⟨wr.heap.size, 0, none⟩)]] 50)) (w.heap.size + 1 + 1 + 1 + 1) (w.heap.size + 1) wr.heap.size (w.heap.size + 1 + 1 + 1) m (fg names names.length) qb cb e bys) := Lib.hid
        ⟨hb_alloc HXr.out.f _, hb_alloc HXr.out.y _, hb_new wr (.cells #[.func (.func 90) #[] #[.pointer (some ⟨w.heap.size + 1 + 1 + 1 + 1, 0, none⟩), .pointer (some ⟨w.heap.size + 1, 0, none⟩), .pointer (some ⟨wr.heap.size, 0, none⟩)]] 50), HY.out.below HB1.out, HM.out.below hBa, fun s i h => fg_pos _ _ s i h, HBS.out⟩
      have HC := Lib.hid (put_any _ _ _ _ _ _ _ _ _ _ d _ HST.out _ t _ (Below.refl _ _) (HT.out.below HB1.out) HS.out)
      have k0 := hb_alloc HXr.out.t (.cells #[.func (.func 90) #[] #[.pointer (some ⟨w.heap.size + 1 + 1 + 1 + 1, 0, none⟩), .pointer (some ⟨w.heap.size + 1, 0, none⟩), .pointer (some ⟨wr.heap.size, 0, none⟩)]] 50)
      have k2 := hb_alloc HXr.out.r (.cells #[.func (.func 90) #[] #[.pointer (some ⟨w.heap.size + 1 + 1 + 1 + 1, 0, none⟩), .pointer (some ⟨w.heap.size + 1, 0, none⟩), .pointer (some ⟨wr.heap.size, 0, none⟩)]] 50)
      have K2 := Lib.hid k2
      have y0 := hb_at k0 0 rfl
      have y1 := hb_at k0 1 rfl
      have y2 := hb_at k0 2 rfl
      have y3 := hb_at k0 3 rfl
      have y4 := hb_at k0 4 rfl
      clear k0 k2
      go_wp2_with (go_at_call 90; refine HC.out.mono ?_; rintro e5 w3 ⟨v3, rfl, hx3, hb3⟩; have HX3 := Lib.hid hx3; have HB3 := Lib.hid hb3; obtain ⟨k9, p9, n9, N9, q9, l9, c9, rfl⟩ := hx3.shape; have h1 := hb_below K2.out hb3 (by simp; omega); have z0 := hb_at h1 0 rfl; have z1 := hb_at h1 1 rfl; have z2 := hb_at h1 2 rfl; have z3 := hb_at h1 3 rfl; have z4 := hb_at h1 4 rfl; have g0 := hb_free h1 0; have g1 := hb_free h1 1; have g2 := hb_free h1 2; have g3 := hb_free h1 3; have g4 := hb_free h1 4; clear hx3 hb3 h1)
      have hB3 : Below w.heap.size w w3 := HB1.out.trans (HB3.out.mono HB1.out.size)
      have hlo : w.heap.size + 1 + 1 + 1 + 1 + 1 ≤ (wr.alloc (.cells #[.func (.func 90) #[] #[.pointer (some ⟨w.heap.size + 1 + 1 + 1 + 1, 0, none⟩), .pointer (some ⟨w.heap.size + 1, 0, none⟩), .pointer (some ⟨wr.heap.size, 0, none⟩)]] 50)).heap.size := by simp; omega
      have HLO := Lib.hid hlo
      refine bodyPost_ret (v := tv k9 p9 n9 N9 (.slice q9 l9 c9)) (by simp [results, Tryd.results80, go_sem, z0, z1, z2, z3, z4]) rfl ⟨_, rfl, ?_, (((((hB3.setCell (by simp; omega) _).setCell (by simp; omega) _).setCell (by simp; omega) _).setCell (by simp; omega) _).setCell (by simp; omega) _)⟩
      refine HX3.out.move fun b hb _ => ?_
      have hb2 : w.heap.size + 1 + 1 + 1 + 1 + 1 ≤ b := Nat.le_trans HLO.out hb
      refine ⟨by omega, ?_⟩
      rw [Below.heap_setCell _ _ _ b (by show b ≠ w.heap.size + 1 + 1; omega), Below.heap_setCell _ _ _ b (by show b ≠ w.heap.size + 1 + 1; omega), Below.heap_setCell _ _ _ b (by show b ≠ w.heap.size + 1 + 1; omega), Below.heap_setCell _ _ _ b (by show b ≠ w.heap.size + 1 + 1; omega), Below.heap_setCell _ _ _ b (by show b ≠ w.heap.size + 1 + 1; omega)]
end Go.Proofs.YtncebhddcokkoaaDoor
/- Lists of terms that are made out of terms that were there, and new ones. -/
namespace Go.Proofs.YtncebhddcokkoaaDoor
open Go.RowKit
theorem IsT.isX {w : World} {d : Nat} : ∀ {v : Value} {x : Tm}, IsT w d v x → IsX (fun b => b < w.heap.size) w d v x := by
  induction d with
  | zero => intro v x h; cases h
  | succ d ih =>
    intro v x h
    obtain ⟨k, p, n, N, kids⟩ := x
    obtain ⟨q, c, h1, h2, h3, h4, h5⟩ := h
    refine ⟨q, c, h1, h2, h3, h4, fun i y hy => ?_⟩
    obtain ⟨b, o, k', p', n', N', s', e, ha, ht⟩ := h5 i y hy
    exact ⟨b, o, k', p', n', N', s', e, ha.lt, ha, ih ht⟩
theorem TAt.of_blk {w : World} {g j : Nat} {cs : Array Value} {k : Int} {p n : ByteArray} {N : Int} {s : Value} (h : w.heap[g]? = some (.cells cs 36 (0, 0)))
    (h0 : cs[j]? = some (.int .i64 k)) (h1 : cs[j + 1]? = some (.string p)) (h2 : cs[j + 2]? = some (.string n)) (h3 : cs[j + 3]? = some (.int .i64 N)) (h4 : cs[j + 4]? = some s) : TAt w g j k p n N s :=
  ⟨hb_at h _ h0, hb_at h _ h1, hb_at h _ h2, hb_at h _ h3, hb_at h _ h4⟩
theorem SRow.nil (w : World) : SRow w (.slice none 0 0) [] := ⟨none, 0, rfl, fun i s h => by simp at h⟩
theorem SRow.two {w : World} {g : Nat} {x y : ByteArray} (h : w.heap[g]? = some (.cells #[.string x, .string y] 9 (0, 0))) : SRow w (.slice (some ⟨g, 0, none⟩) 2 2) [x, y] := by
  refine ⟨_, 2, rfl, fun i z hz => ⟨g, rfl, ?_⟩⟩
  match i, hz with
  | 0, hz => cases hz; exact hb_at h 0 rfl
  | 1, hz => cases hz; exact hb_at h 1 rfl
  | i + 2, hz => simp at hz
/-- What a list of terms that is being made holds, the terms out of old blocks and new ones. -/
def MadeB (B0 base : Nat) (w : World) (d : Nat) (sv : Value) (done : List Tm) : Prop :=
  ∃ l : List T5, l.length = done.length ∧ w.ownsRow base 36 5 sv l.length (flatC l) ∧ ∀ (i : Nat) (x : Tm), done[i]? = some x → ∃ t : T5, l[i]? = some t ∧ IsX (fun b => (b < B0 ∨ base ≤ b) ∧ some b ≠ sv.ownBlock) w d (t5v t) x
theorem MadeB.nil (B0 base : Nat) (w : World) (d : Nat) : MadeB B0 base w d (.slice none 0 0) [] := ⟨[], rfl, World.ownsRow_nil _ _ _ _, fun i x h => by simp at h⟩
theorem MadeB.shape {B0 base : Nat} {w : World} {d : Nat} {sv : Value} {done : List Tm} (h : MadeB B0 base w d sv done) : ∃ q c, sv = .slice q done.length c := by
  obtain ⟨l, hl, ho, _⟩ := h
  rcases ho.2 with ⟨rfl, h0⟩ | ⟨g, cap, cur, rfl, _⟩
  · exact ⟨none, 0, by rw [← hl, h0]⟩
  · exact ⟨_, _, by rw [hl]⟩
theorem MadeB.move {B0 base : Nat} {w w' : World} {d : Nat} {sv : Value} {done : List Tm} (h : MadeB B0 base w d sv done) (hw : ∀ b, (b < B0 ∨ base ≤ b) → b < w.heap.size → w'.heap[b]? = w.heap[b]?) : MadeB B0 base w' d sv done := by
  obtain ⟨l, hl, ho, hd⟩ := h
  refine ⟨l, hl, own_kept ho fun g x hg hx => ?_, fun i x hx => ?_⟩
  · have := ho.lt g hg
    rw [hw g (.inr this.1) this.2]; exact hx
  · obtain ⟨t, h1, h2⟩ := hd i x hx
    exact ⟨t, h1, h2.move fun b hX hb => ⟨hX, hw b hX.1 hb⟩⟩
theorem MadeB.append {B0 base : Nat} {w wq : World} {d : Nat} {sv : Value} {done : List Tm} {x : Tm} {g : Nat} {k N : Int} {p n : ByteArray} {q : Option Addr} {ln c : Nat} (h : MadeB B0 base w d sv done) (hB : B0 ≤ base) (hbase : base ≤ w.heap.size) (hb : Below w.heap.size w wq)
    (hx : IsX (fun b => b < B0 ∨ w.heap.size ≤ b) wq d (tv k p n N (.slice q ln c)) x) (hg : wq.heap[g]? = some (.cells #[.int .i64 k, .string p, .string n, .int .i64 N, .slice q ln c] 36 (0, 0))) (cc : Nat) (hn : done.length ≤ 100000) :
    ∃ v' w', (Builtin.append_ #[34, 34] 34 #[sv, .slice (some ⟨g, 0, none⟩) 1 cc]).run Tryd.prog wq = .ok v' w' ∧ MadeB B0 base w' d v' (done ++ [x]) ∧ Below base wq w' := by
  obtain ⟨l, hl, ho, hd⟩ := h
  have hlt := ho.lt
  have hsz := hb.size
  obtain ⟨v', w', hr, h2, hgr, hblk⟩ := append_t wq base sv l (own_below ho hb) g 0 (TAt.of_blk hg rfl rfl rfl rfl rfl) cc (by omega) (by omega)
  refine ⟨v', w', hr, ⟨l ++ [(k, p, n, N, Value.slice q ln c)], by simp [hl], h2, fun i y hy => ?_⟩, (Below.refl _ wq).grown hgr (by omega) (fun j hj => (hlt j hj).1)⟩
  rw [List.getElem?_append] at hy
  split at hy
  · rename_i hi
    obtain ⟨t, h3, h4⟩ := hd i y hy
    refine ⟨t, by rw [List.getElem?_append_left (by omega)]; exact h3, ?_⟩
    refine h4.move fun b hX hl2 => ⟨⟨hX.1, fun e => ?_⟩, by rw [hgr.block b (by omega) hX.2, hb.block b hl2]⟩
    rcases hblk with h | h
    · exact hX.2 (e.trans h)
    · rw [h] at e; have := Option.some.inj e; omega
  · rename_i hi
    have hi2 : i - done.length = 0 := by
      have := (List.getElem?_eq_some_iff.1 hy).1
      simp at this
      omega
    rw [hi2] at hy
    obtain rfl : x = y := by simpa using hy
    have hil : i = l.length := by omega
    refine ⟨_, by rw [hil]; exact List.getElem?_concat_length, ?_⟩
    have hne : ∀ b, (b < B0 ∨ w.heap.size ≤ b) → some b ≠ sv.ownBlock := fun b hX e => by have := hlt b e.symm; omega
    refine hx.move fun b hX hl2 => ⟨⟨by omega, fun e => ?_⟩, by rw [hgr.block b hl2 (hne b hX)]⟩
    rcases hblk with h | h
    · exact hne b hX (e.trans h)
    · rw [h] at e; have := Option.some.inj e; omega
theorem MadeB.all {B0 base : Nat} {w w' : World} {d : Nat} {sv : Value} {kids : List Tm} (h : MadeB B0 base w d sv kids) (hk : kids.length ≤ maxLen) (hw : ∀ b, (b < B0 ∨ base ≤ b) → w'.heap[b]? = w.heap[b]?) : KidsX (fun b => b < B0 ∨ base ≤ b) w' d sv kids := by
  obtain ⟨l, hl, ho, hd⟩ := h
  obtain ⟨hfl, ⟨rfl, h0⟩ | ⟨g, cap, cur, rfl, hbg, hh, _, _, _, htk⟩⟩ := ho
  · have : kids = [] := List.eq_nil_of_length_eq_zero (by omega)
    subst this
    exact ⟨none, 0, rfl, hk, fun i x h => by simp at h⟩
  · refine ⟨some ⟨g, 0, none⟩, cap, by rw [hl], hk, fun i x hx => ?_⟩
    obtain ⟨t, h1, h2⟩ := hd i x hx
    have hi : i < l.length := (List.getElem?_eq_some_iff.1 h1).1
    have hcell : ∀ j (hj : j < 5), w'.cell? ⟨g, 0 + i * 5 + j, none⟩ = (flatC l)[i * 5 + j]? := fun j hj => by
      have h3 : w'.cell? ⟨g, 0 + i * 5 + j, none⟩ = cur[0 + i * 5 + j]? := by
        have hh2 : w'.heap[g]? = some (.cells cur 36 (0, 0)) := by rw [hw g (.inr hbg), hh]
        exact hb_cell hh2 _
      rw [h3, ← htk, List.getElem?_take, if_pos (by omega), Array.getElem?_toList, Nat.zero_add]
    have hflat : ∀ j (hj : j < 5), (flatC l)[i * 5 + j]? = [Value.int .i64 t.1, .string t.2.1, .string t.2.2.1, .int .i64 t.2.2.2.1, t.2.2.2.2][j]? := fun j hj => by
      have e : l = l.take i ++ t :: l.drop (i + 1) := by
        have h4 := List.getElem?_eq_some_iff.1 h1
        rw [← h4.2, ← List.drop_eq_getElem_cons hi, List.take_append_drop]
      have e2 : flatC l = flatC (l.take i) ++ ([Value.int .i64 t.1, .string t.2.1, .string t.2.2.1, .int .i64 t.2.2.2.1, t.2.2.2.2] ++ flatC (l.drop (i + 1))) := by
        conv => lhs; rw [e]
        simp [flatC]
      have hlen : (flatC (l.take i)).length = i * 5 := by rw [flatC_length, List.length_take, Nat.min_eq_left (by omega)]
      rw [e2, List.getElem?_append_right (by omega), hlen, Nat.add_sub_cancel_left, List.getElem?_append_left (by simpa using hj)]
    refine ⟨g, 0, t.1, t.2.1, t.2.2.1, t.2.2.2.1, t.2.2.2.2, rfl, .inr hbg, ⟨?_, ?_, ?_, ?_, ?_⟩, h2.move fun b hX _ => ⟨hX.1, hw b hX.1⟩⟩
    · have := hcell 0 (by decide); rw [hflat 0 (by decide)] at this; exact this
    · have := hcell 1 (by decide); rw [hflat 1 (by decide)] at this; exact this
    · have := hcell 2 (by decide); rw [hflat 2 (by decide)] at this; exact this
    · have := hcell 3 (by decide); rw [hflat 3 (by decide)] at this; exact this
    · have := hcell 4 (by decide); rw [hflat 4 (by decide)] at this; exact this
end Go.Proofs.YtncebhddcokkoaaDoor
