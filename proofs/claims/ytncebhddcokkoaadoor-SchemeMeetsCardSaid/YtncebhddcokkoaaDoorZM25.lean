/- Texts in a row: Kt Ku Kv. -/
import Derived.Test.YtncebhddcokkoaaDoorZM24
import Derived.Lib.LazyBuf
import Derived.Test.YtncebhddcokkoaaDoorZM3
/- A type of others is made: its Kids are gone through, and cloned. -/
namespace Go.Proofs.YtncebhddcokkoaaDoor
open Go.RowKit
set_option linter.unusedSimpArgs false
set_option linter.unusedVariables false
/-- Is a type not plain? -/
def npl (L : List Nd) (i : Int) : Bool := match L[i.toNat]? with
  | some x => !x.pl
  | none => false
theorem make1_any (c : Cfg) (v : Value) (L : List Nd) (W : World) (bs : Nat) (i : Int) (h : StL c v L W) (hs : W.heap[bs]? = some (.cells #[.pointer (some ⟨c.B, 0, none⟩)] 51 (0, 0))) (hi : 0 ≤ i ∧ i < (L.length : Int)) :
    Calls Tryd.prog 52 #[.int .i64 i, .pointer (some ⟨bs, 0, none⟩)] W fun e W' => e = .returned (.bool (npl L i)) ∧ W' = W := by
  obtain ⟨n, rfl⟩ : ∃ n : Nat, i = (n : Int) := ⟨i.toNat, by omega⟩
  have hn : n < L.length := by omega
  have hx : L[n]? = some (L[n]) := List.getElem?_eq_getElem hn
  generalize L[n] = x at hx
  obtain ⟨g, cap, rfl, hgB, hg0, hc1, hc2, s0, s1, s2, s3, s4, x0, x1, x2, x3, x4, x5, x6, x7, x8, hfz⟩ := h.at hx
  have b0 := hb_at hs 0 rfl
  have hlt1 : (n : Int) < (L.length : Int) := by omega
  have e : npl L (n : Int) = !x.pl := by
    unfold npl
    rw [Int.toNat_natCast, hx]
  rw [e]
  clear e h hs hx s1 s2 s3 s4 x0 x1 x2 x3 x4 x5 x6 x8 hfz hi
  go_enter Tryd.func52, Tryd.ntmps52
  go_wp2
  go_ret
  exact ⟨rfl, rfl⟩
set_option maxRecDepth 100000 in
theorem index_make (c : Cfg) (v : Value) (L : List Nd) (w : World) (bs : Nat) (q : Option Addr) (l : List Int) (cc : Nat) (h : StL c v L w) (hs : w.heap[bs]? = some (.cells #[.pointer (some ⟨c.B, 0, none⟩)] 51 (0, 0))) (hl : Ints w q l) (hv : ∀ i ∈ l, 0 ≤ i ∧ i < (L.length : Int)) (hn : l.length ≤ 1000000) :
    Calls Tryd.prog 75 #[.slice q l.length cc, .func (.func 52) #[] #[.pointer (some ⟨bs, 0, none⟩)]] w fun e w' => (∃ r : Int, e = .returned (.int .i64 r) ∧ (r ≥ 0 ↔ ∃ i ∈ l, npl L i = true)) ∧ Below w.heap.size w w' := by
  have HA := Lib.hid fun (W : World) (hW : Below w.heap.size w W) (i : Int) (hi : 0 ≤ i ∧ i < (L.length : Int)) => make1_any c v L W bs i (h.below hW) (hb_below hs hW (hb_lt hs)) hi
  have HL := Lib.hid hl
  have HV := Lib.hid hv
  clear h hs hl hv
  go_enter Tryd.func75, Tryd.ntmps75
  go_wp2
  go_loopw [8] (fun t wr => ∃ k : Nat, t = .int .i64 k ∧ k ≤ l.length ∧ Below w.heap.size w wr ∧ ∀ i ∈ l.take k, npl L i = false) (fun t _ => l.length - (intOf t).toNat)
  case atStart => exact ⟨0, rfl, Nat.zero_le _, Below.refl _ _, fun i hi => by simp at hi⟩
  case round =>
    obtain ⟨k, rfl, hk, hb, hall⟩ := hrel
    have HALL := Lib.hid hall
    have HB := Lib.hid hb
    clear hall hb
    by_cases hlt : k < l.length
    · have hki : (k : Int) < (l.length : Int) := by omega
      have hy := List.getElem?_eq_getElem hlt
      generalize l[k] = y at hy
      obtain ⟨g, o, rfl, hc⟩ := (HL.out.below HB.out) k y hy
      have HA2 := Lib.hid (HA.out wr HB.out y (HV.out y (List.mem_of_getElem? hy)))
      have HY := Lib.hid hy
      clear hy
      cases hd : npl L y with
      | true =>
        rw [hd] at HA2
        have HBD := Lib.hid hd
        clear hd
        go_wp2_with (go_at_call 52; (with_reducible refine HA2.out.mono ?_); rintro e w1 ⟨rfl, rfl⟩)
        all_goals go_ret
        all_goals exact ⟨⟨k, rfl, ⟨fun _ => ⟨y, List.mem_of_getElem? HY.out, HBD.out⟩, fun _ => by omega⟩⟩, HB.out⟩
      | false =>
        rw [hd] at HA2
        have HBD := Lib.hid hd
        clear hd
        go_wp2_with (go_at_call 52; (with_reducible refine HA2.out.mono ?_); rintro e w1 ⟨rfl, rfl⟩)
        refine ⟨⟨k + 1, by go_num, by omega, HB.out, fun i hi => ?_⟩, by simp [intOf]; omega⟩
        have e : l.take (k + 1) = l.take k ++ [y] := by rw [List.take_add_one, HY.out]; rfl
        rw [e] at hi
        rcases List.mem_append.1 hi with hi | hi
        · exact HALL.out i hi
        · cases List.mem_singleton.1 hi; exact HBD.out
    · have hki : ¬ (k : Int) < (l.length : Int) := by omega
      obtain rfl : k = l.length := by omega
      rw [List.take_length] at HALL
      go_wp2
      go_ret
      exact ⟨⟨-1, rfl, ⟨fun h => by omega, fun ⟨i, hi, h⟩ => by have := HALL.out i hi; rw [h] at this; cases this⟩⟩, HB.out⟩
set_option maxRecDepth 100000 in
theorem contains_make (c : Cfg) (v : Value) (L : List Nd) (w : World) (bs : Nat) (q : Option Addr) (l : List Int) (cc : Nat) (h : StL c v L w) (hs : w.heap[bs]? = some (.cells #[.pointer (some ⟨c.B, 0, none⟩)] 51 (0, 0))) (hl : Ints w q l) (hv : ∀ i ∈ l, 0 ≤ i ∧ i < (L.length : Int)) (hn : l.length ≤ 1000000) :
    Calls Tryd.prog 51 #[.slice q l.length cc, .func (.func 52) #[] #[.pointer (some ⟨bs, 0, none⟩)]] w fun e w' => (∃ r, e = .returned (.bool r) ∧ (r = true ↔ ∃ i ∈ l, npl L i = true)) ∧ Below w.heap.size w w' := by
  have HI := Lib.hid (index_make c v L w bs q l cc h hs hl hv hn)
  clear h hs hl
  go_enter Tryd.func51, Tryd.ntmps51
  go_wp2_with (go_at_call 75; (with_reducible refine HI.out.mono ?_); rintro e w1 ⟨⟨r, rfl, hr⟩, hb⟩; have HR := Lib.hid hr; have HB := Lib.hid hb; clear hr hb)
  all_goals go_ret
  all_goals exact ⟨⟨_, rfl, by simpa using HR.out⟩, HB.out⟩
def NewQ (n : Nat) (q : Option Addr) : Prop := ∀ g o, q = some ⟨g, o, none⟩ → n ≤ g
set_option maxRecDepth 100000 in
theorem clone_any (w : World) (q : Option Addr) (l : List Nat) (cc B : Nat) (hl : Ints w q (l.map Int.ofNat)) (hn : l.length ≤ 100000) (hB : B < w.heap.size) :
    Calls Tryd.prog 53 #[.slice q l.length cc] w fun e w' => ∃ kq kc, e = .returned (.slice kq l.length kc) ∧ KI B w' (.slice kq l.length kc) l ∧ Below w.heap.size w w' ∧ NewQ w.heap.size kq := by
  have heq := fun W => run_eql_slice_nil (P := Tryd.prog) W 88 3 q l.length cc (by kernel_rfl)
  cases q with
  | none =>
    have : l = [] := by
      cases l with
      | nil => rfl
      | cons a l =>
        obtain ⟨g, o, e, _⟩ := hl 0 (Int.ofNat a) rfl
        cases e
    subst this
    clear heq
    have heq0 := fun W => run_eql_slice_nil (P := Tryd.prog) W 88 3 none 0 cc (by kernel_rfl)
    show Calls Tryd.prog 53 #[.slice none 0 cc] w _
    go_enter Tryd.func53, Tryd.ntmps53
    go_wp2
    go_ret
    exact ⟨none, 0, rfl, ⟨none, 0, rfl, .inl rfl⟩, Below.refl _ _, fun g o e => by cases e⟩
  | some a =>
    have HL := Lib.hid hl
    clear hl
    go_enter Tryd.func53, Tryd.ntmps53
    go_wp2_with ((at_builtin; refine (fun h : True → _ => h trivial) ?_))
    intro _
    have hBa := below_alloc w (.cells #[] 3)
    have hr0 : IRow w.heap.size (w.alloc (.cells #[] 3)) (.slice (some ⟨w.heap.size, 0, none⟩) 0 0) [] := ⟨rfl, .inr ⟨w.heap.size, 0, #[], rfl, Nat.le_refl _, hb_new _ _, Nat.le_refl _, by decide, rfl, rfl⟩⟩
    have hBS : B < (w.alloc (.cells #[] 3)).heap.size := by have := hBa.size; omega
    have fin : ∀ v4 w4, IRow w.heap.size w4 v4 l → (w.alloc (.cells #[] 3)).grownBy w4 (some w.heap.size) → ∃ kq kc, v4 = .slice kq l.length kc ∧ KI B w4 (.slice kq l.length kc) l ∧ Below w.heap.size w w4 ∧ NewQ w.heap.size kq := by
      intro v4 w4 hr hg
      obtain ⟨q4, c4, rfl, _, _⟩ := hr.shape
      refine ⟨q4, c4, rfl, ⟨q4, c4, rfl, ?_⟩, ⟨hBa.os ▸ hg.os, hBa.tape ▸ hg.tape, hBa.output ▸ hg.output, Nat.le_trans hBa.size hg.size, fun k hk => (hg.block k (by have := hBa.size; omega) (fun e => by cases e; omega)).trans (hBa.block k hk)⟩, fun g o e => ?_⟩
      rotate_left
      · rcases hr.2 with ⟨h0, _⟩ | ⟨g', cap, cur, e', h3, _⟩
        · rw [e] at h0; injection h0 with h0; cases h0
        · rw [e] at e'
          injection e' with e1 _ _
          injection e1 with e1
          injection e1 with e1
          subst e1
          exact h3
      rcases hr.2 with ⟨_, h0⟩ | ⟨g, cap, cur, e, h3, h4, h5, h6, h7, h8⟩
      · exact .inl (List.eq_nil_of_length_eq_zero h0)
      · injection e with e1 _ _
        refine .inr ⟨g, 0, cur, (0, 0), e1, h4, by omega, fun j y hy => ?_⟩
        rw [Nat.mul_one] at h8
        have hj := (List.getElem?_eq_some_iff.1 hy).1
        have e2 : (cur.toList.take l.length)[j]? = (l.map intV)[j]? := by rw [h8]
        rw [List.getElem?_take, if_pos hj, List.getElem?_map, hy] at e2
        rw [Nat.zero_add, ← Array.getElem?_toList, e2]
        rfl
    have FIN := Lib.hid fin
    clear fin heq
    by_cases hln : l = []
    · have e : l.length = 0 := by rw [hln]; rfl
      have hrun : (Builtin.append_ #[88, 88] 88 #[.slice (some ⟨w.heap.size, 0, none⟩) 0 0, .slice (some a) l.length cc]).run Tryd.prog (w.alloc (.cells #[] 3)) = .ok (.slice (some ⟨w.heap.size, 0, none⟩) 0 0) (w.alloc (.cells #[] 3)) := by rw [e]; exact run_app_nil _ _ _ _ (by omega) _ _
      have hf := FIN.out _ _ (by rw [hln]; exact hr0) ⟨rfl, rfl, rfl, Nat.le_refl _, fun _ _ _ => rfl⟩
      have HF := Lib.hid hf
      refine wpList_app rfl _ _ rfl rfl rfl rfl hrun ?_
      clear hrun hf hr0
      go_wp2
      go_ret
      obtain ⟨kq, kc, e1, e2, e3⟩ := HF.out
      exact ⟨kq, kc, congrArg Ending.returned e1, e2, e3⟩
    · obtain ⟨y0, hy0⟩ : ∃ y, l[0]? = some y := by
        cases l with
        | nil => exact absurd rfl hln
        | cons y l => exact ⟨y, rfl⟩
      obtain ⟨g, o, e, _⟩ := HL.out 0 (Int.ofNat y0) (by rw [List.getElem?_map, hy0]; rfl)
      cases e
      obtain ⟨v4, w4, hrun, hr4, hg4, _⟩ := hr0.app (m := l) (g := g) (o := o) (cc := cc) hBa.size (fun _ j y hy => by
        obtain ⟨g', o', e, hc⟩ := (HL.out.below hBa) j (Int.ofNat y) (by rw [List.getElem?_map, hy]; rfl)
        cases e
        exact hc) (by simp; omega)
      rw [List.nil_append] at hr4
      have hf := FIN.out v4 w4 hr4 hg4
      obtain ⟨kq, kc, rfl, e2, e3⟩ := hf
      refine wpList_app rfl _ _ rfl rfl rfl rfl hrun ?_
      have E2 := Lib.hid e2
      have E3 := Lib.hid e3
      clear hrun hr4 hg4 e2 e3 hr0 HL
      go_wp2
      go_ret
      exact ⟨kq, kc, rfl, E2.out, E3.out⟩
end Go.Proofs.YtncebhddcokkoaaDoor
/- A type of others is made. -/
namespace Go.Proofs.YtncebhddcokkoaaDoor
open Go.RowKit
set_option linter.unusedSimpArgs false
set_option linter.unusedVariables false
set_option maxRecDepth 100000 in
set_option maxHeartbeats 4000000 in
theorem make_any (c : Cfg) (v : Value) (L : List Nd) (w : World) (k : Int) (p n : ByteArray) (q : Option Addr) (l : List Nat) (cc : Nat) (h : StL c v L w) (hk : k = 2 ∨ k = 3 ∨ k = 4) (hl : Ints w q (l.map Int.ofNat)) (hv : ∀ y ∈ l, y < L.length) (hll : l.length ≤ 100000) (hn : L.length < 100000) (hf : c.full = false) (hb : (L.length : Int) < c.bud) :
    Calls Tryd.prog 26 #[.pointer (some ⟨c.B, 0, none⟩), .int .i64 k, .string p, .string n, .slice q l.length cc] w fun e w' => e = .returned (.int .i64 (L.length : Nat)) ∧
      ∃ v' ks pl, StL c v' (L ++ [⟨⟨k, p, n, l⟩, ks, 0, false, -1, pl, 0⟩]) w' ∧ Kp c w w' ∧ (pl = true → ∀ y ∈ l, ∃ x, L[y]? = some x ∧ x.pl = true) ∧ ∀ g o m cc, ks = .slice (some ⟨g, o, none⟩) m cc → w.heap.size ≤ g := by
  have hblw : c.b0 ≤ w.heap.size := Nat.le_trans h.hb (Nat.le_of_lt h.lt)
  have hb1 := below_alloc w (.cells #[.pointer (some ⟨c.B, 0, none⟩)] 51)
  have HS := Lib.hid (h.below hb1)
  have hs := hb_new w (.cells #[.pointer (some ⟨c.B, 0, none⟩)] 51)
  have HL := Lib.hid (hl.below hb1)
  have HB := Lib.hid hb1
  have b0 := hb_at hs 0 rfl
  have hml : (l.map Int.ofNat).length = l.length := by simp
  have hvi : ∀ i ∈ l.map Int.ofNat, 0 ≤ i ∧ i < (L.length : Int) := by
    intro i hi
    obtain ⟨y, hy, rfl⟩ := List.mem_map.1 hi
    have := hv y hy
    exact ⟨Int.natCast_nonneg y, by show (y : Int) < _; omega⟩
  have hBl := h.lt
  clear h hl hb1
  go_enter Tryd.func26, Tryd.ntmps26
  go_upto_region 1 with (fail)
  have hsz1 : (w.alloc (.cells #[.pointer (some ⟨c.B, 0, none⟩)] 51)).heap.size = w.heap.size + 1 := by simp
  generalize w.alloc (.cells #[.pointer (some ⟨c.B, 0, none⟩)] 51) = W1 at *
  have hHAS := has_any c v L W1 q (l.map Int.ofNat) cc HS.out HL.out (by rw [hml]; omega)
  rw [hml] at hHAS
  have HHAS := Lib.hid hHAS
  have HCM := Lib.hid fun (W : World) (hW : Below W1.heap.size W1 W) => (hml ▸ contains_make c v L W w.heap.size q (l.map Int.ofNat) cc (HS.out.below hW) (hb_below hs hW (hb_lt hs)) (HL.out.below hW) hvi (by rw [hml]; omega) : Calls Tryd.prog 51 #[.slice q l.length cc, .func (.func 52) #[] #[.pointer (some ⟨w.heap.size, 0, none⟩)]] W fun e w' => (∃ r, e = .returned (.bool r) ∧ (r = true ↔ ∃ i ∈ l.map Int.ofNat, npl L i = true)) ∧ Below W.heap.size W w')
  have HOT := Lib.hid fun (W : World) => other_any W k
  have hkd : decide (k = 2 ∨ k = 3 ∨ k = 4) = true := by simpa using hk
  have HKD := Lib.hid hkd
  have HVI := Lib.hid hvi
  have hsl := hb_lt hs
  have HSB := Lib.hid hs
  have HCL := Lib.hid fun (W : World) (hW : Below W1.heap.size W1 W) => clone_any W q l cc c.B (HL.out.below hW) hll (Nat.lt_of_lt_of_le HS.out.lt hW.size)
  have HADD := Lib.hid fun (W : World) (hW : Below W1.heap.size W1 W) (kq : Option Addr) (kc : Nat) (bp : Bool) (hki : KI c.B W (.slice kq l.length kc) l) => add_any c v L W k 0 0 0 p n l kq l.length kc false bp (HS.out.below hW) hki hn hf hb
  clear hHAS hkd hk hvi hs
  go_upto_region 4 with (first
    | (go_at_call 49; (with_reducible refine (HOT.out _).mono ?_); rintro e w1 ⟨rfl, rfl⟩; rw [HKD.out])
    | (go_at_call 50; (with_reducible refine HHAS.out.mono ?_); rintro e w2 ⟨⟨r, rfl, hr⟩, hb2⟩; (obtain rfl : r = true := hr.2 ⟨hf, HVI.out⟩); have HB2 := Lib.hid hb2; have b2 := hb_at (hb_below HSB.out hb2 hsl) 0 rfl; have hsl2 := hb2.size; clear hr hb2)
    | (go_at_call 51; (with_reducible refine (HCM.out _ HB2.out).mono ?_); rintro e w3 ⟨⟨r3, rfl, hr3⟩, hb3⟩; have HR3 := Lib.hid hr3; have HB3 := Lib.hid (HB2.out.trans (hb3.mono HB2.out.size)); have b3 := hb_at (hb_below (hb_below HSB.out HB2.out hsl) hb3 (by omega)) 0 rfl; clear hr3 hb3))
  have hHB3 := HB3.out
  have hpl : (!r3) = true → ∀ y ∈ l, ∃ x, L[y]? = some x ∧ x.pl = true := by
    intro hr y hy
    have h3 : r3 = false := by simpa using hr
    have h4 : ¬ ∃ i ∈ l.map Int.ofNat, npl L i = true := fun h5 => by
      have := HR3.out.2 h5
      rw [h3] at this
      cases this
    have hyl : y < L.length := by
      have := hv y hy
      exact this
    have hx : L[y]? = some (L[y]) := List.getElem?_eq_getElem hyl
    refine ⟨L[y], hx, ?_⟩
    by_cases hp : (L[y]).pl = true
    · exact hp
    · refine absurd ⟨Int.ofNat y, List.mem_map.2 ⟨y, hy, rfl⟩, ?_⟩ h4
      have hyn : (Int.ofNat y).toNat = y := rfl
      unfold npl
      rw [hyn, hx]
      simpa using hp
  have HPL := Lib.hid hpl
  clear hpl hv
  have hdr := hHB3.drew
  go_region_law (first
    | (go_simp; go_at_call 53; (with_reducible refine (HCL.out _ hdr).mono ?_); rintro e w4 ⟨kq, kc, rfl, hki, hb4, hnq⟩; have HNQ := Lib.hid hnq; clear hnq; have HKI := Lib.hid hki; have HB4 := Lib.hid (hdr.trans (hb4.mono hdr.size)); have b4 := hb_at (hb_below HSB.out HB4.out hsl) 0 rfl; clear hki hb4)
    | (go_simp; go_at_call 48; (with_reducible refine (HADD.out _ HB4.out _ _ _ HKI.out).mono ?_); rintro e w5 ⟨rfl, v5, hS5, hK5⟩; have HS5 := Lib.hid hS5; have HK5 := Lib.hid hK5; clear hS5 hK5))
  all_goals
    go_wp2
    go_ret
    exact ⟨rfl, v5, _, !r3, HS5.out, (Kp.of_below hblw (HB.out.trans (HB4.out.mono HB.out.size))).trans HK5.out, HPL.out, fun g o m cc e => by
      injection e with e1 _ _
      have h1 := HNQ.out g o e1
      have h2 := hdr.size
      have h3 := HB.out.size
      have h4 : w3.drew.heap.size = w3.heap.size := rfl
      omega⟩
end Go.Proofs.YtncebhddcokkoaaDoor
/- Two types are made the same: steps. -/
namespace Go.Proofs.YtncebhddcokkoaaDoor
open Go.RowKit
set_option linter.unusedSimpArgs false
set_option linter.unusedVariables false
namespace Abs
theorem no_kd {A : Abs} {u v : Nat} {x y : Inf} (hv : A.kd u = 1 ∨ A.kd v = 1) (hu : A.l[A.r u]? = some x) (hw : A.l[A.r v]? = some y) (hx : x.k ≠ 1) (hy : y.k ≠ 1) : False := by
  rcases hv with h | h
  · rw [kd_some hu] at h; exact hx h
  · rw [kd_some hw] at h; exact hy h
theorem Step.det {A : Abs} {l : List Item} {r s : Option (Abs × List Item)} (h : Step A l r) (k : Step A l s) : r = s := by
  cases h with
  | done h =>
    cases k with
    | done _ => rfl
    | merge k => exact absurd h k
  | merge h =>
    cases k with
    | done k => exact absurd k h
    | merge _ => rfl
  | same h =>
    cases k with
    | same _ => rfl
    | bad k _ _ => exact absurd h k
    | bnd k _ _ => exact absurd h k
    | clash k _ _ _ _ _ => exact absurd h k
    | kids k _ _ _ _ _ => exact absurd h k
  | bad h hv hb =>
    cases k with
    | same k => exact absurd k h
    | bad _ _ _ => rfl
    | bnd _ _ k => exact absurd hb k
    | clash _ a b c d _ => exact (no_kd hv a b c d).elim
    | kids _ a b c d _ => exact (no_kd hv a b c d).elim
  | bnd h hv hb =>
    cases k with
    | same k => exact absurd k h
    | bad _ _ k => exact absurd k hb
    | bnd _ _ _ => rfl
    | clash _ a b c d _ => exact (no_kd hv a b c d).elim
    | kids _ a b c d _ => exact (no_kd hv a b c d).elim
  | clash h hu hw hx hy hn =>
    cases k with
    | same k => exact absurd k h
    | bad _ k _ => exact (no_kd k hu hw hx hy).elim
    | bnd _ k _ => exact (no_kd k hu hw hx hy).elim
    | clash _ _ _ _ _ _ => rfl
    | kids _ a b _ _ k =>
      rw [hu] at a; rw [hw] at b
      cases a; cases b
      exact absurd k hn
  | kids h hu hw hx hy hn =>
    cases k with
    | same k => exact absurd k h
    | bad _ k _ => exact (no_kd k hu hw hx hy).elim
    | bnd _ k _ => exact (no_kd k hu hw hx hy).elim
    | clash _ a b _ _ k =>
      rw [hu] at a; rw [hw] at b
      cases a; cases b
      exact absurd hn k
    | kids _ a b _ _ _ =>
      rw [hu] at a; rw [hw] at b
      cases a; cases b
      rfl
theorem Run.next {n : Nat} {A B : Abs} {l m : List Item} {o : Option Abs} (h : Run n A l o) (hs : Step A l (some (B, m))) : ∃ n', n = n' + 1 ∧ Run n' B m o := by
  cases h with
  | done n A => cases hs
  | fail k => cases hs.det k
  | step k h2 =>
    have e := hs.det k
    injection e with e
    injection e with e1 e2
    subst e1 e2
    exact ⟨_, rfl, h2⟩
theorem Run.stop {n : Nat} {A : Abs} {l : List Item} {o : Option Abs} (h : Run n A l o) (hs : Step A l none) : o = none := by
  cases h with
  | done n A => cases hs
  | fail k => rfl
  | step k h2 => cases hs.det k
theorem Run.nil {n : Nat} {A : Abs} {o : Option Abs} (h : Run n A [] o) : o = some A := by
  cases h with
  | done n A => rfl
  | fail k => cases k
  | step k h2 => cases k
/-- No step makes more variables. -/
theorem Step.nv {A B : Abs} {l m : List Item} (h : Step A l (some (B, m))) (hI : Inv A l) : B.nv ≤ A.nv := by
  cases h with
  | done h => exact Nat.le_refl _
  | @merge x y l h =>
    obtain ⟨a, b, ha, hb, h1, hal, hk⟩ := mark_top hI
    unfold Abs.nv
    show (List.range A.l.length).countP _ ≤ _
    apply List.countP_mono_left
    intro i hi hp
    simp only [Bool.and_eq_true, decide_eq_true_eq] at hp ⊢
    by_cases e : A.r i = A.r x
    · have er : (A.bind (A.r x) (A.r y) A.lv).r i = A.r y := if_pos e
      have k2 : (A.bind (A.r x) (A.r y) A.lv).kd i = b.k := kd_some (A := A.bind (A.r x) (A.r y) A.lv) (by rw [er]; exact hb)
      rw [k2, ← hal.1] at hp
      exact absurd hp.2 h1
    · have er : (A.bind (A.r x) (A.r y) A.lv).r i = A.r i := if_neg e
      have k2 : (A.bind (A.r x) (A.r y) A.lv).kd i = A.kd i := by unfold kd; rw [er]; rfl
      rw [er, k2] at hp
      exact hp
  | same h => exact Nat.le_refl _
  | @bnd u v l h hv hb =>
    have hlt := hI.lt (.pr u v) (by simp)
    generalize et : A.turn (A.r u) (A.r v) = t at *
    obtain ⟨a, b⟩ := t
    obtain ⟨ra, rb, la, lb, hab, ka, _, _⟩ := turn_spec hI.ok hlt.1 hlt.2 h hv et
    exact Nat.le_of_lt (nv_bind hI.ok ra rb la hab ka)
  | kids h hu hw hx hy hn => exact Nat.le_refl _
end Abs
/-- A round of Unify. -/
structure UI (c : Cfg) (A0 : Abs) (l0 : List Abs.Item) (o : Option Abs) (w : World) (t : Value) (wr : World) (m : Nat) (B : Abs) (l : List Abs.Item) (k : Int) : Prop where
  run : Abs.Run m B l o
  inv : Abs.Inv B l
  stk : Abs.Stk B l
  st : St { c with wks := k } B wr
  row : PRow w.heap.size wr t (l.map code).reverse
  kp : Kp c w wr
  lB : B.l = A0.l
  k0 : 0 ≤ k
  k1 : k + B.nv ≤ c.wks + A0.nv
  pth : Abs.Path A0 l0 B l
theorem UI.len {c : Cfg} {A0 : Abs} {l0 : List Abs.Item} {o : Option Abs} {w : World} {t : Value} {wr : World} {m : Nat} {B : Abs} {l : List Abs.Item} {k : Int} (h : UI c A0 l0 o w t wr m B l k) (htot : (A0.l.map fun x => x.kids.length + 1).sum ≤ 100000) : l.length ≤ 100001 := by
  have h1 := h.stk.len h.inv.ok h.inv.fin h.inv.like h.inv.mlt
  rw [h.lB] at h1
  omega
theorem UI.go {c : Cfg} {A0 : Abs} {l0 : List Abs.Item} {o : Option Abs} {w : World} {t t' : Value} {wr w' : World} {m : Nat} {B B' : Abs} {l l' : List Abs.Item} {k k' : Int} (h : UI c A0 l0 o w t wr m B l k) (hs : Abs.Step B l (some (B', l'))) (hst : St { c with wks := k' } B' w') (hrow : PRow w.heap.size w' t' (l'.map code).reverse) (hkp : Kp c w w') (h0 : 0 ≤ k') (h1 : k' + B'.nv ≤ k + B.nv) :
    ∃ n', m = n' + 1 ∧ UI c A0 l0 o w t' w' n' B' l' k' := by
  obtain ⟨n', e, hr⟩ := h.run.next hs
  have := h.k1
  exact ⟨n', e, hr, hs.inv h.inv, hs.stk h.inv h.stk, hst, hrow, hkp, hs.norig.trans h.lB, h0, by omega, h.pth.snoc hs⟩
theorem bits_not (x : Nat) (h : x < 9223372036854775808) : bits .xor .i64 (-1) (-(x : Int) - 1) = (x : Int) := by
  have hb : (BitVec.ofInt 64 (-(x : Int) - 1)).toNat = 18446744073709551615 - x := by
    rw [BitVec.toNat_ofInt]
    have : (-(x : Int) - 1) % (2 ^ 64 : Nat) = 18446744073709551615 - x := by
      have : ((2 ^ 64 : Nat) : Int) = 18446744073709551616 := by decide
      rw [this]
      omega
    rw [this]
    omega
  have e : (BitVec.ofInt 64 (-1) ^^^ BitVec.ofInt 64 (-(x : Int) - 1)).toNat = x := by
    have h1 : BitVec.ofInt 64 (-1) = BitVec.allOnes 64 := by decide
    rw [h1, BitVec.allOnes_xor, BitVec.toNat_not, hb]
    omega
  show IntKind.i64.wrap ((BitVec.ofInt 64 (-1) ^^^ BitVec.ofInt 64 (-(x : Int) - 1)).toNat : Int) = x
  rw [e]
  exact IntWalk.i64_in _ (by omega)
/-- From what was there, where rows that are new change. -/
theorem Kp.step {c : Cfg} {w w1 w2 : World} (h : Kp c w w1) (hb : Below c.b0 w1 w2) (k : ∀ (g : Nat) (x : Obj), g < w.heap.size → w1.heap[g]? = some x → g ≠ c.B → (∀ cs fr, x ≠ .cells cs 90 fr) → w2.heap[g]? = some x) : Kp c w w2 :=
  ⟨h.below.trans hb, Nat.le_trans h.size hb.size, fun g x h1 h2 h3 => k g x (hb_lt h1) (h.block g x h1 h2 h3) h2 h3⟩
/-- A store where a row of pairs grows. -/
theorem St.grown {c : Cfg} {A : Abs} {w w1 w2 : World} {t : Value} {ps : List (Int × Int)} (h : St c A w1) (hk : Kp c w w1) (hrow : PRow w.heap.size w1 t ps) (hg : w1.grownBy w2 t.ownBlock) (hB : c.B < w.heap.size) : St c A w2 ∧ Kp c w w2 := by
  obtain ⟨v, L, rk, p1, p2, p3⟩ := h
  have hne : ∀ g, t.ownBlock = some g → w.heap.size ≤ g ∧ ∃ cs, w1.heap[g]? = some (.cells cs 78 (0, 0)) := hrow.blk
  have hb0 := p1.hb
  have hbel : Below c.b0 w1 w2 := ⟨hg.os, hg.tape, hg.output, hg.size, fun k hk2 => hg.block k (by have := p1.lt; omega) (fun e => by have := (hne k e.symm).1; omega)⟩
  refine ⟨⟨v, L, rk, ⟨p1.hb, p1.ne, hb_grown p1.blk hg (fun e => by have := (hne c.B e.symm).1; omega), ?_, fun x hx => ?_, p1.few⟩, p2, p3⟩, hk.step hbel fun g x h1 h2 h3 h4 => hb_grown h2 hg (fun e => by have := (hne g e.symm).1; omega)⟩
  · rcases p1.row with h1 | ⟨g, cap, cur, h1, h2, h3, h4⟩
    · exact .inl h1
    · refine .inr ⟨g, cap, cur, h1, h2, hb_grown h3 hg (fun e => ?_), h4⟩
      obtain ⟨_, cs, hcs⟩ := hne g e.symm
      exact type_ne h3 hcs (by decide) rfl
  · obtain ⟨q, cc, h1, h2⟩ := p1.kid x hx
    refine ⟨q, cc, h1, ?_⟩
    rcases h2 with h2 | ⟨g, o, cs, fr, e, hg1, hB1, hc⟩
    · exact .inl h2
    · refine .inr ⟨g, o, cs, fr, e, hb_grown hg1 hg (fun e => ?_), hB1, hc⟩
      obtain ⟨_, cs', hcs⟩ := hne g e.symm
      exact type_ne hg1 hcs (by decide) rfl
/-- A type's Kids in a store. -/
theorem St.nd {c : Cfg} {A : Abs} {w : World} (h : St c A w) {i j : Nat} {X Y : Inf} (hX : A.l[i]? = some X) (hY : A.l[j]? = some Y) : ∃ g cap n q kc q' kc', w.cell? ⟨c.B, 0, none⟩ = some (.slice (some ⟨g, 0, none⟩) n cap) ∧ i < n ∧ j < n ∧ n ≤ 100000 ∧
    w.cell? ⟨g, i * 9 + 3, none⟩ = some (.slice q X.kids.length kc) ∧ w.cell? ⟨g, j * 9 + 3, none⟩ = some (.slice q' Y.kids.length kc') ∧
    (∀ (a y : Nat), X.kids[a]? = some y → ∃ gk ok cs fr, q = some ⟨gk, ok, none⟩ ∧ w.heap[gk]? = some (.cells cs 3 fr) ∧ w.cell? ⟨gk, ok + a, none⟩ = some (intV y)) ∧ (∀ (a y : Nat), Y.kids[a]? = some y → ∃ gk ok cs fr, q' = some ⟨gk, ok, none⟩ ∧ w.heap[gk]? = some (.cells cs 3 fr) ∧ w.cell? ⟨gk, ok + a, none⟩ = some (intV y)) ∧ ∃ cs fr, w.heap[g]? = some (.cells cs 90 fr) := by
  obtain ⟨v, L, rk, p1, p2, p3⟩ := h
  obtain ⟨nx, hnx, rfl⟩ := p2.back hX
  obtain ⟨ny, hny, rfl⟩ := p2.back hY
  obtain ⟨g, cap, rfl, hgB, hg0, hc1, hc2, s0, s1, s2, s3, s4, x0, x1, x2, x3, x4, x5, x6, x7, x8, hfz⟩ := p1.at hnx
  obtain ⟨g', cap', e, _, _, _, _, _, _, _, _, _, y0, y1, y2, y3, y4, y5, y6, y7, y8, _⟩ := p1.at hny
  injection e with e1 e2 e3
  injection e1 with e1
  injection e1 with e1
  subst e1 e3
  obtain ⟨q, kc, hkx, hkx2⟩ := p1.kid nx (List.mem_of_getElem? hnx)
  obtain ⟨q', kc', hky, hky2⟩ := p1.kid ny (List.mem_of_getElem? hny)
  rw [hkx] at x3
  rw [hky] at y3
  have kids : ∀ (q : Option Addr) (l : List Nat), (l = [] ∨ ∃ g o cs fr, q = some ⟨g, o, none⟩ ∧ w.heap[g]? = some (.cells cs 3 fr) ∧ g ≠ c.B ∧ ∀ (j y : Nat), l[j]? = some y → cs[o + j]? = some (.int .i64 (y : Nat))) → ∀ (a y : Nat), l[a]? = some y → ∃ gk ok cs fr, q = some ⟨gk, ok, none⟩ ∧ w.heap[gk]? = some (.cells cs 3 fr) ∧ w.cell? ⟨gk, ok + a, none⟩ = some (intV y) := by
    intro q l h a y hy
    rcases h with rfl | ⟨g, o, cs, fr, e, hg, _, hc⟩
    · simp at hy
    · exact ⟨g, o, cs, fr, e, hg, by rw [hb_cell hg]; exact hc a y hy⟩
  exact ⟨g, cap, L.length, q, kc, q', kc', s0, (List.getElem?_eq_some_iff.1 hnx).1, (List.getElem?_eq_some_iff.1 hny).1, p1.few, x3, y3, kids q _ hkx2, kids q' _ hky2, by
    rcases p1.row with ⟨rfl, _⟩ | ⟨g', cap', cur, e, _, hg', _⟩
    · simp at hnx
    · injection e with e1 _ _
      injection e1 with e1
      injection e1 with e1
      subst e1
      exact ⟨_, _, hg'⟩⟩
end Go.Proofs.YtncebhddcokkoaaDoor
