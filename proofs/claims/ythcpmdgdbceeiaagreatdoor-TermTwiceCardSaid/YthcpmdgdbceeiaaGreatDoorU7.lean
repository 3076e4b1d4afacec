/- The closure that puts types in the place of variables. -/
import Derived.Test.YthcpmdgdbceeiaaGreatDoorU5
import Derived.Test.YthcpmdgdbceeiaaGreatDoorU6
import Derived.Deep.DeepCutAuto
import Derived.Outline
namespace Go.Proofs.YthcpmdgdbceeiaaGreatDoor
open Go.RowKit
/-- A type with others in the place of some variables. -/
def sub (σ : ByteArray → Option Tm) : Nat → Tm → Tm
  | 0, t => t
  | d + 1, .mk k p n N kids => match (if k = 1 then σ n else none) with
    | some t => t
    | none => .mk k p n N (kids.map (sub σ d))
theorem sub_no {σ : ByteArray → Option Tm} {d : Nat} {k : Int} {p n : ByteArray} {N : Int} {kids : List Tm} (h : (if k = 1 then σ n else none) = none) : sub σ (d + 1) (.mk k p n N kids) = .mk k p n N (kids.map (sub σ d)) := by unfold sub; rw [h]
theorem sub_yes {σ : ByteArray → Option Tm} {d : Nat} {p n : ByteArray} {N : Int} {kids : List Tm} {t : Tm} (h : σ n = some t) : sub σ (d + 1) (.mk 1 p n N kids) = t := by unfold sub; rw [if_pos rfl, h]
def byOf (g : ByteArray → Option Int) (bys : List Tm) (n : ByteArray) : Option Tm := (g n).bind fun i => bys[i.toNat]?
theorem IsX.more {X : Nat → Prop} {w : World} {d d' : Nat} (hd : d ≤ d') : ∀ {v : Value} {x : Tm}, IsX X w d v x → IsX X w d' v x := by
  induction d generalizing d' with
  | zero => intro v x h; cases h
  | succ d ih =>
    intro v x h
    obtain ⟨d', rfl⟩ : ∃ m, d' = m + 1 := ⟨d' - 1, by omega⟩
    obtain ⟨k, p, n, N, kids⟩ := x
    obtain ⟨q, c, h1, h2, h3, h4, h5⟩ := h
    refine ⟨q, c, h1, h2, h3, h4, fun i y hy => ?_⟩
    obtain ⟨b, o, k', p', n', N', s', e, hX, ha, ht⟩ := h5 i y hy
    exact ⟨b, o, k', p', n', N', s', e, hX, ha, ih (by omega) ht⟩
theorem IsX.mk {X : Nat → Prop} {w : World} {d : Nat} {k N : Int} {p n : ByteArray} {q : Option Addr} {c : Nat} {kids : List Tm} (hp : p.size ≤ maxLen) (hn : n.size ≤ maxLen) (h : KidsX X w d (.slice q kids.length c) kids) : IsX X w (d + 1) (tv k p n N (.slice q kids.length c)) (.mk k p n N kids) := by
  obtain ⟨q4, c4, e4, h4, h5⟩ := h
  exact ⟨q4, c4, by rw [e4], hp, hn, h4, h5⟩
/-- What the closure has. -/
structure PutSt (w : World) (Bm Bb Bp M m : Nat) (g : ByteArray → Option Int) (qb : Option Addr) (cb e : Nat) (bys : List Tm) : Prop where
  met : w.heap[Bm]? = some (.cells #[.map (some M)] 52 (0, 0))
  by_ : w.heap[Bb]? = some (.cells #[.slice qb bys.length cb] 22 (0, 0))
  put : w.heap[Bp]? = some (.cells #[.func (.func 48) #[] #[.pointer (some ⟨Bm, 0, none⟩), .pointer (some ⟨Bb, 0, none⟩), .pointer (some ⟨Bp, 0, none⟩)]] 54 (0, 0))
  kids : KidsT w e (.slice qb bys.length cb) bys
  map : PMap w M m g
  pos : ∀ s i, g s = some i → 0 ≤ i
  small : ∀ x ∈ bys, Sm e x
theorem PutSt.below {w w' : World} {Bm Bb Bp M m : Nat} {g : ByteArray → Option Int} {qb : Option Addr} {cb e : Nat} {bys : List Tm} (h : PutSt w Bm Bb Bp M m g qb cb e bys) (hb : Below w.heap.size w w') : PutSt w' Bm Bb Bp M m g qb cb e bys :=
  ⟨hb_below h.met hb (hb_lt h.met), hb_below h.by_ hb (hb_lt h.by_), hb_below h.put hb (hb_lt h.put), h.kids.below hb, h.map.below hb, h.pos, h.small⟩
set_option maxRecDepth 100000 in
set_option maxHeartbeats 4000000 in
theorem put_any (Bm Bb Bp M m : Nat) (g : ByteArray → Option Int) (qb : Option Addr) (cb e : Nat) (bys : List Tm) : ∀ (d : Nat) (w0 : World), PutSt w0 Bm Bb Bp M m g qb cb e bys → PutR Bm Bb Bp d (e + d) (sub (byOf g bys) d) w0 := by
  intro d
  induction d with
  | zero => intro w0 _ v t w _ h; cases h
  | succ d ih =>
    intro w0 hst v t w hb0 h hs
    obtain ⟨k, p, n, N, kids⟩ := t
    obtain ⟨q, c, rfl, hp, hn, hkm, hK⟩ := h
    have hst1 := hst.below hb0
    have hB0 := below2 w (.cells #[.int .i64 k, .string p, .string n, .int .i64 N, .slice q kids.length c] 24) (.cells #[.int .i64 0, .string ⟨#[]⟩, .string ⟨#[]⟩, .int .i64 0, .slice none 0 0] 24)
    have HST := Lib.hid (hst1.below hB0)
    have HW := Lib.hid (withKids48 Bm Bb Bp d (e + d) (sub (byOf g bys) d) k p n N kids (.slice q kids.length c) _ (ih _ HST.out) (KidsT.below ⟨q, c, rfl, hkm, hK⟩ hB0) hs.1 hs.2)
    have HP := Lib.hid hp
    have HN := Lib.hid hn
    have HB0 := Lib.hid hB0
    have k0 := hb_alloc (hb_new w (.cells #[.int .i64 k, .string p, .string n, .int .i64 N, .slice q kids.length c] 24)) (.cells #[.int .i64 0, .string ⟨#[]⟩, .string ⟨#[]⟩, .int .i64 0, .slice none 0 0] 24)
    have k1 := hb_new (w.alloc (.cells #[.int .i64 k, .string p, .string n, .int .i64 N, .slice q kids.length c] 24)) (.cells #[.int .i64 0, .string ⟨#[]⟩, .string ⟨#[]⟩, .int .i64 0, .slice none 0 0] 24)
    rw [World.size_alloc] at k1
    have K0 := Lib.hid k0
    have K1 := Lib.hid k1
    have x0 := hb_at k0 0 rfl
    have x1 := hb_at k0 1 rfl
    have x2 := hb_at k0 2 rfl
    have x3 := hb_at k0 3 rfl
    have x4 := hb_at k0 4 rfl
    have cm := hb_at HST.out.met 0 rfl
    have cbb := hb_at HST.out.by_ 0 rfl
    have cp := hb_at HST.out.put 0 rfl
    clear hst hst1 hB0 k0 k1 hK hs hp hn hb0 ih
    have HZ : RowKit.Hid (((w.alloc (.cells #[.int .i64 k, .string p, .string n, .int .i64 N, .slice q kids.length c] 24)).alloc (.cells #[.int .i64 0, .string ⟨#[]⟩, .string ⟨#[]⟩, .int .i64 0, .slice none 0 0] 24)).heap.size = w.heap.size + 2) := Lib.hid (by simp)
    by_cases hk1 : k = 1
    rotate_left
    · have e1 : (k == 1) = false := by simpa using hk1
      have HI : RowKit.Hid ((g n).getD 0 = (g n).getD 0) := Lib.hid rfl
      have HS : RowKit.Hid ((g n).isSome = (g n).isSome) := Lib.hid rfl
      have HSUB : RowKit.Hid (sub (byOf g bys) (d + 1) (.mk k p n N kids) = .mk k p n N (kids.map (sub (byOf g bys) d))) := Lib.hid (sub_no (if_neg hk1))
      clear hk1
      go_enter Tryz.func48, Tryz.ntmps48
      go_wp2_with (first
        | (at_lookup; refine wpList_pm_look rfl _ _ rfl rfl HST.out.map n rfl HN.out _ _ HI.out HS.out ?_)
        | (go_at_call 50; refine HW.out.mono ?_; rintro e w3 ⟨s3, rfl, hx3, hb3⟩; have HX3 := Lib.hid hx3; obtain ⟨q3, c3, rfl, _, _⟩ := hx3; have h1 := hb_below K1.out hb3 (by simp); have y0 := hb_at h1 0 rfl; have y1 := hb_at h1 1 rfl; have y2 := hb_at h1 2 rfl; have y3 := hb_at h1 3 rfl; have y4 := hb_at h1 4 rfl; have g0 := hb_free h1 0; have g1 := hb_free h1 1; have g2 := hb_free h1 2; have g3 := hb_free h1 3; have g4 := hb_free h1 4; have HB3 := Lib.hid hb3; clear hb3 h1))
      have hB3 : Below w.heap.size w w3 := HB0.out.trans (HB3.out.mono HB0.out.size)
      refine bodyPost_ret (v := tv k p n N (.slice q3 (kids.map (sub (byOf g bys) d)).length c3)) (by simp [results, Tryz.results48, go_sem, y0, y1, y2, y3, y4]) rfl ⟨_, rfl, ?_, (((((hB3.setCell (by simp) _).setCell (by simp) _).setCell (by simp) _).setCell (by simp) _).setCell (by simp) _)⟩
      rw [HSUB.out]
      generalize kids.map (sub (byOf g bys) d) = kk at *
      refine IsX.mk (d := e + d) HP.out HN.out (HX3.out.move fun b hb => ?_)
      rw [HZ.out] at hb
      refine ⟨by omega, ?_⟩
      rw [Below.heap_setCell _ _ _ b (by show b ≠ w.heap.size + 1; omega), Below.heap_setCell _ _ _ b (by show b ≠ w.heap.size + 1; omega), Below.heap_setCell _ _ _ b (by show b ≠ w.heap.size + 1; omega), Below.heap_setCell _ _ _ b (by show b ≠ w.heap.size + 1; omega), Below.heap_setCell _ _ _ b (by show b ≠ w.heap.size + 1; omega)]
    · subst hk1
      have e1 : ((1 : Int) == 1) = true := rfl
      cases hg : g n with
      | none =>
        have HI : RowKit.Hid ((g n).getD 0 = 0) := Lib.hid (by rw [hg]; rfl)
        have HS : RowKit.Hid ((g n).isSome = false) := Lib.hid (by rw [hg]; rfl)
        have HSUB : RowKit.Hid (sub (byOf g bys) (d + 1) (.mk 1 p n N kids) = .mk 1 p n N (kids.map (sub (byOf g bys) d))) := Lib.hid (sub_no (by rw [if_pos rfl]; unfold byOf; rw [hg]; rfl))
        clear hg
        go_enter Tryz.func48, Tryz.ntmps48
        go_wp2_with (first
          | (at_lookup; refine wpList_pm_look rfl _ _ rfl rfl HST.out.map n rfl HN.out _ _ HI.out HS.out ?_)
          | (go_at_call 50; refine HW.out.mono ?_; rintro e w3 ⟨s3, rfl, hx3, hb3⟩; have HX3 := Lib.hid hx3; obtain ⟨q3, c3, rfl, _, _⟩ := hx3; have h1 := hb_below K1.out hb3 (by simp); have y0 := hb_at h1 0 rfl; have y1 := hb_at h1 1 rfl; have y2 := hb_at h1 2 rfl; have y3 := hb_at h1 3 rfl; have y4 := hb_at h1 4 rfl; have g0 := hb_free h1 0; have g1 := hb_free h1 1; have g2 := hb_free h1 2; have g3 := hb_free h1 3; have g4 := hb_free h1 4; have HB3 := Lib.hid hb3; clear hb3 h1))
        have hB3 : Below w.heap.size w w3 := HB0.out.trans (HB3.out.mono HB0.out.size)
        refine bodyPost_ret (v := tv 1 p n N (.slice q3 (kids.map (sub (byOf g bys) d)).length c3)) (by simp [results, Tryz.results48, go_sem, y0, y1, y2, y3, y4]) rfl ⟨_, rfl, ?_, (((((hB3.setCell (by simp) _).setCell (by simp) _).setCell (by simp) _).setCell (by simp) _).setCell (by simp) _)⟩
        rw [HSUB.out]
        generalize kids.map (sub (byOf g bys) d) = kk at *
        refine IsX.mk (d := e + d) HP.out HN.out (HX3.out.move fun b hb => ?_)
        rw [HZ.out] at hb
        refine ⟨by omega, ?_⟩
        rw [Below.heap_setCell _ _ _ b (by show b ≠ w.heap.size + 1; omega), Below.heap_setCell _ _ _ b (by show b ≠ w.heap.size + 1; omega), Below.heap_setCell _ _ _ b (by show b ≠ w.heap.size + 1; omega), Below.heap_setCell _ _ _ b (by show b ≠ w.heap.size + 1; omega), Below.heap_setCell _ _ _ b (by show b ≠ w.heap.size + 1; omega)]
      | some i =>
        have hi0 := HST.out.pos n i hg
        obtain ⟨j, rfl⟩ : ∃ j : Nat, i = j := ⟨i.toNat, by omega⟩
        have HI : RowKit.Hid ((g n).getD 0 = (j : Int)) := Lib.hid (by rw [hg]; rfl)
        have HS : RowKit.Hid ((g n).isSome = true) := Lib.hid (by rw [hg]; rfl)
        by_cases hj : j < bys.length
        · have d1 : decide ((j : Int) < (bys.length : Int)) = true := by simp; omega
          have HSUB : RowKit.Hid (sub (byOf g bys) (d + 1) (.mk 1 p n N kids) = bys[j]) := Lib.hid (sub_yes (by unfold byOf; rw [hg]; show bys[(j : Int).toNat]? = _; rw [Int.toNat_natCast]; exact List.getElem?_eq_getElem hj))
          have HSM := Lib.hid (HST.out.small bys[j] (List.getElem_mem hj))
          obtain ⟨q0, c0, hq, hbl, hby⟩ := HST.out.kids
          obtain ⟨rfl, _, rfl⟩ := Value.slice.inj hq
          obtain ⟨b, o, k', p', n', N', s', rfl, hta, hit⟩ := hby j bys[j] (List.getElem?_eq_getElem hj)
          obtain ⟨t0, t1, t2, t3, t4⟩ := hta
          have HIT := Lib.hid hit
          clear hg hi0 hby hit hq
          generalize bys[j] = y at HSUB HSM HIT
          go_enter Tryz.func48, Tryz.ntmps48
          go_wp2_with (first
            | (at_lookup; refine wpList_pm_look rfl _ _ rfl rfl HST.out.map n rfl HN.out _ _ HI.out HS.out ?_)
            | (go_at_call 49; refine (tclone_any e _ y _ HIT.out HSM.out).mono ?_; rintro e5 w3 ⟨v3, rfl, hx3, hb3⟩; have HX3 := Lib.hid hx3; have HB3 := Lib.hid hb3; obtain ⟨k9, p9, n9, N9, q9, l9, c9, rfl⟩ := hx3.shape; have h1 := hb_below K1.out hb3 (by simp); have y0 := hb_at h1 0 rfl; have y1 := hb_at h1 1 rfl; have y2 := hb_at h1 2 rfl; have y3 := hb_at h1 3 rfl; have y4 := hb_at h1 4 rfl; have g0 := hb_free h1 0; have g1 := hb_free h1 1; have g2 := hb_free h1 2; have g3 := hb_free h1 3; have g4 := hb_free h1 4; clear hx3 hb3 h1))
          have hB3 : Below w.heap.size w w3 := HB0.out.trans (HB3.out.mono HB0.out.size)
          refine bodyPost_ret (v := tv k9 p9 n9 N9 (.slice q9 l9 c9)) (by simp [results, Tryz.results48, go_sem, y0, y1, y2, y3, y4]) rfl ⟨_, rfl, ?_, (((((hB3.setCell (by simp) _).setCell (by simp) _).setCell (by simp) _).setCell (by simp) _).setCell (by simp) _)⟩
          rw [HSUB.out]
          refine IsX.more (Nat.le_add_right e (d + 1)) (HX3.out.move fun b hb _ => ?_)
          rw [HZ.out] at hb
          refine ⟨by omega, ?_⟩
          rw [Below.heap_setCell _ _ _ b (by show b ≠ w.heap.size + 1; omega), Below.heap_setCell _ _ _ b (by show b ≠ w.heap.size + 1; omega), Below.heap_setCell _ _ _ b (by show b ≠ w.heap.size + 1; omega), Below.heap_setCell _ _ _ b (by show b ≠ w.heap.size + 1; omega), Below.heap_setCell _ _ _ b (by show b ≠ w.heap.size + 1; omega)]
        · have d1 : decide ((j : Int) < (bys.length : Int)) = false := by simp; omega
          have HSUB : RowKit.Hid (sub (byOf g bys) (d + 1) (.mk 1 p n N kids) = .mk 1 p n N (kids.map (sub (byOf g bys) d))) := Lib.hid (sub_no (by rw [if_pos rfl]; unfold byOf; rw [hg]; show bys[(j : Int).toNat]? = none; rw [List.getElem?_eq_none (by simp; omega)]))
          clear hg hi0
          go_enter Tryz.func48, Tryz.ntmps48
          go_wp2_with (first
            | (at_lookup; refine wpList_pm_look rfl _ _ rfl rfl HST.out.map n rfl HN.out _ _ HI.out HS.out ?_)
            | (go_at_call 50; refine HW.out.mono ?_; rintro e w3 ⟨s3, rfl, hx3, hb3⟩; have HX3 := Lib.hid hx3; obtain ⟨q3, c3, rfl, _, _⟩ := hx3; have h1 := hb_below K1.out hb3 (by simp); have y0 := hb_at h1 0 rfl; have y1 := hb_at h1 1 rfl; have y2 := hb_at h1 2 rfl; have y3 := hb_at h1 3 rfl; have y4 := hb_at h1 4 rfl; have g0 := hb_free h1 0; have g1 := hb_free h1 1; have g2 := hb_free h1 2; have g3 := hb_free h1 3; have g4 := hb_free h1 4; have HB3 := Lib.hid hb3; clear hb3 h1))
          have hB3 : Below w.heap.size w w3 := HB0.out.trans (HB3.out.mono HB0.out.size)
          refine bodyPost_ret (v := tv 1 p n N (.slice q3 (kids.map (sub (byOf g bys) d)).length c3)) (by simp [results, Tryz.results48, go_sem, y0, y1, y2, y3, y4]) rfl ⟨_, rfl, ?_, (((((hB3.setCell (by simp) _).setCell (by simp) _).setCell (by simp) _).setCell (by simp) _).setCell (by simp) _)⟩
          rw [HSUB.out]
          generalize kids.map (sub (byOf g bys) d) = kk at *
          refine IsX.mk (d := e + d) HP.out HN.out (HX3.out.move fun b hb => ?_)
          rw [HZ.out] at hb
          refine ⟨by omega, ?_⟩
          rw [Below.heap_setCell _ _ _ b (by show b ≠ w.heap.size + 1; omega), Below.heap_setCell _ _ _ b (by show b ≠ w.heap.size + 1; omega), Below.heap_setCell _ _ _ b (by show b ≠ w.heap.size + 1; omega), Below.heap_setCell _ _ _ b (by show b ≠ w.heap.size + 1; omega), Below.heap_setCell _ _ _ b (by show b ≠ w.heap.size + 1; omega)]
end Go.Proofs.YthcpmdgdbceeiaaGreatDoor
