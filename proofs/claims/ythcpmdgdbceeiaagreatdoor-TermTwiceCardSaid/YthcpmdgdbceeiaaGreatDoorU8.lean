/- Types put in the place of variables, whole. -/
import Derived.Test.YthcpmdgdbceeiaaGreatDoorU7
import Derived.Test.YthcpmdgdbceeiaaGreatDoorTf
namespace Go.Proofs.YthcpmdgdbceeiaaGreatDoor
open Go.RowKit
/-- Where each text first stands among the first. -/
def fg (names : List ByteArray) : Nat → ByteArray → Option Int
  | 0, _ => none
  | k + 1, t => match fg names k t with
    | some i => some i
    | none => if names[k]? = some t then some (k : Int) else none
theorem fg_pos (names : List ByteArray) (k : Nat) (t : ByteArray) (i : Int) (h : fg names k t = some i) : 0 ≤ i := by
  induction k with
  | zero => cases h
  | succ k ih =>
    unfold fg at h
    cases e : fg names k t with
    | some j => rw [e] at h; exact ih (by rw [e]; exact h)
    | none =>
      rw [e] at h
      simp only at h
      split at h
      · cases h; omega
      · cases h
theorem fg_there {names : List ByteArray} {k : Nat} {s : ByteArray} (hs : names[k]? = some s) {i : Int} (h : fg names k s = some i) : fg names (k + 1) = fg names k := by
  funext t
  show (match fg names k t with | some i => some i | none => if names[k]? = some t then some (k : Int) else none) = _
  cases e : fg names k t with
  | some j => rfl
  | none =>
    simp only
    rw [hs, if_neg]
    rintro e2
    cases e2
    rw [e] at h; cases h
theorem fg_new {names : List ByteArray} {k : Nat} {s : ByteArray} (hs : names[k]? = some s) (h : fg names k s = none) : fg names (k + 1) = fun t => if t = s then some (k : Int) else fg names k t := by
  funext t
  show (match fg names k t with | some i => some i | none => if names[k]? = some t then some (k : Int) else none) = _
  by_cases e : t = s
  · subst e
    rw [h, if_pos rfl]
    simp only
    rw [hs, if_pos rfl]
  · rw [if_neg e]
    cases e3 : fg names k t with
    | some j => rfl
    | none =>
      simp only
      rw [hs, if_neg fun e4 => e (by cases e4; rfl)]
structure SubSt (w wr : World) (k : Int) (p n : ByteArray) (N : Int) (q : Option Addr) (ln c : Nat) (qb : Option Addr) (lb cb : Nat) (m : Nat) (g : ByteArray → Option Int) : Prop where
  t : wr.heap[w.heap.size]? = some (.cells #[.int .i64 k, .string p, .string n, .int .i64 N, .slice q ln c] 24 (0, 0))
  y : wr.heap[w.heap.size + 1]? = some (.cells #[.slice qb lb cb] 22 (0, 0))
  r : wr.heap[w.heap.size + 1 + 1]? = some (.cells #[.int .i64 0, .string ⟨#[]⟩, .string ⟨#[]⟩, .int .i64 0, .slice none 0 0] 24 (0, 0))
  f : wr.heap[w.heap.size + 1 + 1 + 1 + 1]? = some (.cells #[.map (some (w.heap.size + 1 + 1 + 1))] 52 (0, 0))
  m : PMap wr (w.heap.size + 1 + 1 + 1) m g
  b : Below w.heap.size w wr
theorem SubSt.turned {w wr w' : World} {k : Int} {p n : ByteArray} {N : Int} {q : Option Addr} {ln c : Nat} {qb : Option Addr} {lb cb : Nat} {m m' : Nat} {g g' : ByteArray → Option Int} (h : SubSt w wr k p n N q ln c qb lb cb m g) (ht : wr.mapTurned w' (w.heap.size + 1 + 1 + 1)) (hp : PMap w' (w.heap.size + 1 + 1 + 1) m' g') : SubSt w w' k p n N q ln c qb lb cb m' g' :=
  ⟨hb_grown h.t ht.grown (by simp; omega), hb_grown h.y ht.grown (by simp), hb_grown h.r ht.grown (by simp), hb_grown h.f ht.grown (by simp), hp, turned_below h.b (Nat.le_refl _) ht (by omega)⟩
set_option maxRecDepth 100000 in
set_option maxHeartbeats 4000000 in
theorem subst_any (d e : Nat) (t : Tm) (v : Value) (names : List ByteArray) (vn : Value) (bys : List Tm) (vb : Value) (w : World) (ht : IsT w d v t) (hn : SRow w vn names) (hnl : names.length ≤ 100) (hns : ∀ s ∈ names, s.size ≤ maxLen) (hb : KidsT w e vb bys) (hs : Sm d t) (hbs : ∀ x ∈ bys, Sm e x) :
    Calls Tryz.prog 23 #[v, vn, vb] w fun en w' => ∃ v', en = .returned v' ∧ IsX (fun b => w.heap.size ≤ b) w' (e + d) v' (sub (byOf (fg names names.length) bys) d t) ∧ Below w.heap.size w w' := by
  obtain ⟨d1, k, p, n, N, s1, kids, e1, e2, rfl, _, _, q, c, rfl, _⟩ := ht.open
  obtain ⟨qn, cn, rfl, hnc⟩ := hn
  have HT := Lib.hid ht
  have HY := Lib.hid hb
  obtain ⟨qb, cb, rfl, hbm, _⟩ := hb
  have HN := Lib.hid hnc
  have HNS := Lib.hid hns
  have HS := Lib.hid hs
  have HBS := Lib.hid hbs
  generalize kids.length = ln at *
  clear ht hnc hns hs hbs e1 e2
  have hmm := @run_makeMap Tryz.prog
  have HX : RowKit.Hid (SubSt w (((((w.alloc (.cells #[.int .i64 k, .string p, .string n, .int .i64 N, .slice q ln c] 24)).alloc (.cells #[.slice qb bys.length cb] 22)).alloc (.cells #[.int .i64 0, .string ⟨#[]⟩, .string ⟨#[]⟩, .int .i64 0, .slice none 0 0] 24)).alloc (.map #[] 0)).alloc (.cells #[.map (some (w.heap.size + 1 + 1 + 1))] 52)) k p n N q ln c qb bys.length cb 0 (fg names 0)) := Lib.hid (by
    have c0 := hb_alloc (hb_alloc (hb_alloc (hb_alloc (hb_new w (.cells #[.int .i64 k, .string p, .string n, .int .i64 N, .slice q ln c] 24)) (.cells #[.slice qb bys.length cb] 22)) (.cells #[.int .i64 0, .string ⟨#[]⟩, .string ⟨#[]⟩, .int .i64 0, .slice none 0 0] 24)) (.map #[] 0)) (.cells #[.map (some (w.heap.size + 1 + 1 + 1))] 52)
    have c1 := hb_alloc (hb_alloc (hb_alloc (hb_new (w.alloc (.cells #[.int .i64 k, .string p, .string n, .int .i64 N, .slice q ln c] 24)) (.cells #[.slice qb bys.length cb] 22)) (.cells #[.int .i64 0, .string ⟨#[]⟩, .string ⟨#[]⟩, .int .i64 0, .slice none 0 0] 24)) (.map #[] 0)) (.cells #[.map (some (w.heap.size + 1 + 1 + 1))] 52)
    have c2 := hb_alloc (hb_alloc (hb_new ((w.alloc (.cells #[.int .i64 k, .string p, .string n, .int .i64 N, .slice q ln c] 24)).alloc (.cells #[.slice qb bys.length cb] 22)) (.cells #[.int .i64 0, .string ⟨#[]⟩, .string ⟨#[]⟩, .int .i64 0, .slice none 0 0] 24)) (.map #[] 0)) (.cells #[.map (some (w.heap.size + 1 + 1 + 1))] 52)
    have c3 := (PMap.made (((w.alloc (.cells #[.int .i64 k, .string p, .string n, .int .i64 N, .slice q ln c] 24)).alloc (.cells #[.slice qb bys.length cb] 22)).alloc (.cells #[.int .i64 0, .string ⟨#[]⟩, .string ⟨#[]⟩, .int .i64 0, .slice none 0 0] 24))).below (below_alloc _ (.cells #[.map (some (w.heap.size + 1 + 1 + 1))] 52))
    have c4 := hb_new ((((w.alloc (.cells #[.int .i64 k, .string p, .string n, .int .i64 N, .slice q ln c] 24)).alloc (.cells #[.slice qb bys.length cb] 22)).alloc (.cells #[.int .i64 0, .string ⟨#[]⟩, .string ⟨#[]⟩, .int .i64 0, .slice none 0 0] 24)).alloc (.map #[] 0)) (.cells #[.map (some (w.heap.size + 1 + 1 + 1))] 52)
    simp only [World.size_alloc] at c1 c2 c3 c4
    exact ⟨c0, c1, c2, c4, c3, (below2 w (.cells #[.int .i64 k, .string p, .string n, .int .i64 N, .slice q ln c] 24) (.cells #[.slice qb bys.length cb] 22)).trans (((below2 _ (.cells #[.int .i64 0, .string ⟨#[]⟩, .string ⟨#[]⟩, .int .i64 0, .slice none 0 0] 24) (.map #[] 0)).trans ((below_alloc _ (.cells #[.map (some (w.heap.size + 1 + 1 + 1))] 52)).mono (by simp <;> omega))).mono (by simp <;> omega))⟩)
  go_enter Tryz.func23, Tryz.ntmps23
  go_wp2
  go_loopw [16] (fun i wr => ∃ j m : Nat, j ≤ names.length ∧ m ≤ j ∧ i = .int .i64 j ∧ SubSt w wr k p n N q ln c qb bys.length cb m (fg names j)) (fun i _ => names.length - (intOf i).toNat)
  case atStart => exact ⟨0, 0, Nat.zero_le _, Nat.le_refl _, rfl, HX.out⟩
  case round =>
    obtain ⟨j, m, hj, hm, rfl, hX⟩ := hrel
    have x0 : wr.cell? ⟨w.heap.size + 1 + 1 + 1 + 1, 0, none⟩ = some (.map (some (w.heap.size + 1 + 1 + 1))) := hb_at hX.f 0 rfl
    clear HX
    have HXr := Lib.hid hX
    have HM := Lib.hid hX.m
    clear hX
    by_cases hlt : j < names.length
    · have hse := List.getElem?_eq_getElem hlt
      obtain ⟨g1, rfl, hc1⟩ := HN.out j names[j] hse
      have x1 : wr.cell? ⟨g1, j, none⟩ = some (.string names[j]) := keep_cell HXr.out.b hc1
      have HSZ := Lib.hid (HNS.out names[j] (List.getElem_mem hlt))
      have HSE := Lib.hid hse
      clear hc1 hse
      generalize names[j] = s at *
      cases hfg : fg names j s with
      | none =>
        have HI : RowKit.Hid ((fg names j s).getD 0 = 0) := Lib.hid (by rw [hfg]; rfl)
        have HIS : RowKit.Hid ((fg names j s).isSome = false) := Lib.hid (by rw [hfg]; rfl)
        have HNX := Lib.hid (fg_new HSE.out hfg)
        clear hfg
        go_wp2_with (first
          | (at_lookup; refine wpList_pm_look rfl _ _ rfl rfl HM.out s rfl HSZ.out _ _ HI.out HIS.out ?_)
          | (at_mapUpdate; refine wpList_pm_put rfl _ _ _ rfl rfl HM.out (by unfold maxLen; omega) s rfl HSZ.out (j : Int) (WalkArith.wf_i64 (by omega)) rfl ?_; intro w1 hp1 ht1; have HP1 := Lib.hid hp1; have HT1 := Lib.hid ht1; clear hp1 ht1))
        go_roundw
        case rel => exact ⟨j + 1, m + 1, by omega, by omega, by go_num, HXr.out.turned HT1.out (by rw [HNX.out]; exact HP1.out)⟩
        case measure => simp [intOf]; omega
      | some i =>
        have HI : RowKit.Hid ((fg names j s).getD 0 = i) := Lib.hid (by rw [hfg]; rfl)
        have HIS : RowKit.Hid ((fg names j s).isSome = true) := Lib.hid (by rw [hfg]; rfl)
        have HNX := Lib.hid (fg_there HSE.out hfg)
        clear hfg
        go_wp2_with (at_lookup; refine wpList_pm_look rfl _ _ rfl rfl HM.out s rfl HSZ.out _ _ HI.out HIS.out ?_)
        go_roundw
        case rel => exact ⟨j + 1, m, by omega, by omega, by go_num, by rw [HNX.out]; exact HXr.out⟩
        case measure => simp [intOf]; omega
    · obtain rfl : j = names.length := by omega
      have hsz : w.heap.size + 1 + 1 + 1 + 1 < wr.heap.size := hb_lt HXr.out.f
      have hBa : Below wr.heap.size wr (wr.alloc (.cells #[.func (.func 48) #[] #[.pointer (some ⟨w.heap.size + 1 + 1 + 1 + 1, 0, none⟩), .pointer (some ⟨w.heap.size + 1, 0, none⟩), .pointer (some ⟨wr.heap.size, 0, none⟩)]] 54)) := below_alloc _ _
      have HB1 : RowKit.Hid (Below w.heap.size w (wr.alloc (.cells #[.func (.func 48) #[] #[.pointer (some ⟨w.heap.size + 1 + 1 + 1 + 1, 0, none⟩), .pointer (some ⟨w.heap.size + 1, 0, none⟩), .pointer (some ⟨wr.heap.size, 0, none⟩)]] 54))) := Lib.hid (HXr.out.b.alloc (by omega) _)
      have HST : RowKit.Hid (PutSt (wr.alloc (.cells #[.func (.func 48) #[] #[.pointer (some ⟨w.heap.size + 1 + 1 + 1 + 1, 0, none⟩), .pointer (some ⟨w.heap.size + 1, 0, none⟩), .pointer (some ⟨wr.heap.size, 0, none⟩)]] 54)) (w.heap.size + 1 + 1 + 1 + 1) (w.heap.size + 1) wr.heap.size (w.heap.size + 1 + 1 + 1) m (fg names names.length) qb cb e bys) := Lib.hid
        ⟨hb_alloc HXr.out.f _, hb_alloc HXr.out.y _, hb_new wr (.cells #[.func (.func 48) #[] #[.pointer (some ⟨w.heap.size + 1 + 1 + 1 + 1, 0, none⟩), .pointer (some ⟨w.heap.size + 1, 0, none⟩), .pointer (some ⟨wr.heap.size, 0, none⟩)]] 54), HY.out.below HB1.out, HM.out.below hBa, fun s i h => fg_pos _ _ s i h, HBS.out⟩
      have HC := Lib.hid (put_any _ _ _ _ _ _ _ _ _ _ d _ HST.out _ t _ (Below.refl _ _) (HT.out.below HB1.out) HS.out)
      have k0 := hb_alloc HXr.out.t (.cells #[.func (.func 48) #[] #[.pointer (some ⟨w.heap.size + 1 + 1 + 1 + 1, 0, none⟩), .pointer (some ⟨w.heap.size + 1, 0, none⟩), .pointer (some ⟨wr.heap.size, 0, none⟩)]] 54)
      have k2 := hb_alloc HXr.out.r (.cells #[.func (.func 48) #[] #[.pointer (some ⟨w.heap.size + 1 + 1 + 1 + 1, 0, none⟩), .pointer (some ⟨w.heap.size + 1, 0, none⟩), .pointer (some ⟨wr.heap.size, 0, none⟩)]] 54)
      have K2 := Lib.hid k2
      have y0 := hb_at k0 0 rfl
      have y1 := hb_at k0 1 rfl
      have y2 := hb_at k0 2 rfl
      have y3 := hb_at k0 3 rfl
      have y4 := hb_at k0 4 rfl
      clear k0 k2
      go_wp2_with (go_at_call 48; refine HC.out.mono ?_; rintro e5 w3 ⟨v3, rfl, hx3, hb3⟩; have HX3 := Lib.hid hx3; have HB3 := Lib.hid hb3; obtain ⟨k9, p9, n9, N9, q9, l9, c9, rfl⟩ := hx3.shape; have h1 := hb_below K2.out hb3 (by simp; omega); have z0 := hb_at h1 0 rfl; have z1 := hb_at h1 1 rfl; have z2 := hb_at h1 2 rfl; have z3 := hb_at h1 3 rfl; have z4 := hb_at h1 4 rfl; have g0 := hb_free h1 0; have g1 := hb_free h1 1; have g2 := hb_free h1 2; have g3 := hb_free h1 3; have g4 := hb_free h1 4; clear hx3 hb3 h1)
      have hB3 : Below w.heap.size w w3 := HB1.out.trans (HB3.out.mono HB1.out.size)
      have hlo : w.heap.size + 1 + 1 + 1 + 1 + 1 ≤ (wr.alloc (.cells #[.func (.func 48) #[] #[.pointer (some ⟨w.heap.size + 1 + 1 + 1 + 1, 0, none⟩), .pointer (some ⟨w.heap.size + 1, 0, none⟩), .pointer (some ⟨wr.heap.size, 0, none⟩)]] 54)).heap.size := by simp; omega
      have HLO := Lib.hid hlo
      refine bodyPost_ret (v := tv k9 p9 n9 N9 (.slice q9 l9 c9)) (by simp [results, Tryz.results23, go_sem, z0, z1, z2, z3, z4]) rfl ⟨_, rfl, ?_, (((((hB3.setCell (by simp; omega) _).setCell (by simp; omega) _).setCell (by simp; omega) _).setCell (by simp; omega) _).setCell (by simp; omega) _)⟩
      refine HX3.out.move fun b hb _ => ?_
      have hb2 : w.heap.size + 1 + 1 + 1 + 1 + 1 ≤ b := Nat.le_trans HLO.out hb
      refine ⟨by omega, ?_⟩
      rw [Below.heap_setCell _ _ _ b (by show b ≠ w.heap.size + 1 + 1; omega), Below.heap_setCell _ _ _ b (by show b ≠ w.heap.size + 1 + 1; omega), Below.heap_setCell _ _ _ b (by show b ≠ w.heap.size + 1 + 1; omega), Below.heap_setCell _ _ _ b (by show b ≠ w.heap.size + 1 + 1; omega), Below.heap_setCell _ _ _ b (by show b ≠ w.heap.size + 1 + 1; omega)]
end Go.Proofs.YthcpmdgdbceeiaaGreatDoor
