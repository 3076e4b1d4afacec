/- Texts in a row: Mj Mk Ml. -/
import Derived.Test.YtncebhddcokkoaaDoorZT27
import Derived.Deep.QuietTactic
import Derived.BigQuiet
import Derived.Deep.DeepCutAuto
import Derived.Outline
/- Which terms are types, told more closely. -/
namespace Go.Proofs.YtncebhddcokkoaaDoor
open Go.RowKit
set_option linter.unusedVariables false
def TypP (d : Nat) (t : Tm) (w : World) (e : Ending) (w' : World) : Prop := ∃ r : Bool, e = .returned (.bool r) ∧ (r = true → Typ t) ∧ Below w.heap.size w w'
set_option maxRecDepth 100000 in
set_option maxHeartbeats 4000000 in
theorem typ13_any (d : Nat) : ∀ (va : Value) (ta : Tm) (w : World), IsT w d va ta → Calls Tryd.prog 45 #[va] w (TypP d ta w) := by
  induction d with
  | zero => intro va ta w h; cases h
  | succ d ih =>
    intro va ta w ha
    obtain ⟨d1, k1, p1, n1, N1, s1, l1, e1, rfl, rfl, hp1, hn1, hk1⟩ := ha.open
    obtain rfl : d = d1 := by omega
    obtain ⟨q1, c1, hs1, hm1, hr1⟩ := hk1
    subst hs1
    have HR1 := Lib.hid hr1
    clear ha e1 hr1
    unfold maxLen at hm1 hp1 hn1
    have HIH := Lib.hid ih
    clear ih
    generalize hL : l1.length = L at *
    have HL := Lib.hid hL
    clear hL
    have hnew := Lib.hid (hb_new w (.cells #[.int .i64 k1, .string p1, .string n1, .int .i64 N1, .slice q1 L c1] 36))
    have HB0 := Lib.hid (below_alloc w (.cells #[.int .i64 k1, .string p1, .string n1, .int .i64 N1, .slice q1 L c1] 36))
    by_cases h1 : k1 < 1
    · skip
      go_enter Tryd.func45, Tryd.ntmps45
      go_wp2
      go_ret
      exact ⟨_, rfl, (by intro h; cases h), HB0.out⟩
    by_cases h2 : 4 < k1
    · have h1' : decide (k1 < 1) = false := by simpa using h1
      go_enter Tryd.func45, Tryd.ntmps45
      go_wp2
      go_ret
      exact ⟨_, rfl, (by intro h; cases h), HB0.out⟩
    have h1' : decide (k1 < 1) = false := by simpa using h1
    have h2' : decide (4 < k1) = false := by simpa using h2
    by_cases h3 : N1 = 0
    rotate_left
    · have h3' : (N1 != 0) = true := by simpa using h3
      go_enter Tryd.func45, Tryd.ntmps45
      go_wp2
      go_ret
      exact ⟨_, rfl, (by intro h; cases h), HB0.out⟩
    subst h3
    by_cases h5 : k1 = 1
    · subst h5
      clear h1 h2 h1' h2'
      by_cases h6 : L = 0
      · subst h6
        by_cases h7 : p1 = ⟨#[]⟩
        · subst h7
          go_enter Tryd.func45, Tryd.ntmps45
          go_upto_region 3 with fail
          generalize hW1 : w.alloc (.cells #[.int .i64 1, .string ⟨#[]⟩, .string n1, .int .i64 0, .slice q1 0 c1] 36) = W1 at *
          have hzw : w.heap.size + 1 ≤ W1.heap.size := by rw [← hW1]; simp
          clear hW1
          go_wp2
          go_loopw [3] (fun i wr => ∃ k : Nat, k ≤ 0 ∧ i = .int .i64 k ∧ Below W1.heap.size W1 wr ∧ ∀ (i : Nat) (x : Tm), i < k → l1[i]? = some x → Typ x) (fun i _ => 0 - (intOf i).toNat)
          case atStart => exact ⟨0, Nat.zero_le _, rfl, Below.refl _ _, fun i x hi => absurd hi (by omega)⟩
          case round =>
            obtain ⟨k, hk, rfl, hB, hty⟩ := hrel
            have HTY := Lib.hid hty
            clear hty
            have hzr := hB.size
            have HB := Lib.hid hB
            have m4 : wr.cell? ⟨w.heap.size, 4, none⟩ = some (.slice q1 0 c1) := (hB.cell (p := ⟨w.heap.size, 4, none⟩) (by simp; omega)).trans (hb_at hnew.out 4 rfl)
            by_cases hlt : k < 0
            · exact absurd hlt (by omega)
            · obtain rfl : k = 0 := by omega
              go_wp2
              go_ret
              exact ⟨_, rfl, (fun _ => by rw [List.length_eq_zero_iff.1 HL.out]; exact .var n1), HB0.out.trans (HB.out.mono (by omega))⟩
        · have h7d : p1.toList.isEmpty = false := by
            cases h : p1.toList.isEmpty with
            | false => rfl
            | true =>
              refine absurd (toList_inj (b := ⟨#[]⟩) ?_) h7
              rw [List.isEmpty_iff.1 h, ByteArray.toList_eq]
          clear h7
          go_enter Tryd.func45, Tryd.ntmps45
          go_wp2
          go_ret
          exact ⟨_, rfl, (by intro h; cases h), HB0.out⟩
      · have h6' : (0 : Int) < (L : Int) := by omega
        go_enter Tryd.func45, Tryd.ntmps45
        go_wp2
        go_ret
        exact ⟨_, rfl, (by intro h; cases h), HB0.out⟩
    · have h5' : (k1 == 1) = false := by simpa using h5
      go_enter Tryd.func45, Tryd.ntmps45
      go_upto_region 3 with fail
      generalize hW1 : w.alloc (.cells #[.int .i64 k1, .string p1, .string n1, .int .i64 0, .slice q1 L c1] 36) = W1 at *
      have hzw : w.heap.size + 1 ≤ W1.heap.size := by rw [← hW1]; simp
      clear hW1
      go_wp2
      go_loopw [3] (fun i wr => ∃ k : Nat, k ≤ L ∧ i = .int .i64 k ∧ Below W1.heap.size W1 wr ∧ ∀ (i : Nat) (x : Tm), i < k → l1[i]? = some x → Typ x) (fun i _ => L - (intOf i).toNat)
      case atStart => exact ⟨0, Nat.zero_le _, rfl, Below.refl _ _, fun i x hi => absurd hi (by omega)⟩
      case round =>
        obtain ⟨k, hk, rfl, hB, hty⟩ := hrel
        have HTY := Lib.hid hty
        clear hty
        have hzr := hB.size
        have HB := Lib.hid hB
        have m4 : wr.cell? ⟨w.heap.size, 4, none⟩ = some (.slice q1 L c1) := (hB.cell (p := ⟨w.heap.size, 4, none⟩) (by simp; omega)).trans (hb_at hnew.out 4 rfl)
        by_cases hlt : k < L
        · have hx1 : ∃ x, l1[k]? = some x := ⟨_, List.getElem?_eq_getElem (by have := HL.out; omega)⟩
          obtain ⟨x, hx1⟩ := hx1
          obtain ⟨b1, o1, k1', p1', n1', N1', s1', hq1, ha1, ht1⟩ := HR1.out k x hx1
          subst hq1
          have hBR : Below w.heap.size w wr := HB0.out.trans (hB.mono (by omega))
          obtain ⟨x0, x1, x2, x3, x4⟩ := ha1.below hBR ha1.lt
          have HC : RowKit.Hid (Calls Tryd.prog 45 #[tv k1' p1' n1' N1' s1'] wr (TypP d x wr)) := Lib.hid (HIH.out _ _ wr (ht1.below hBR))
          have hki : (k : Int) < (L : Int) := by omega
          have HX1 := Lib.hid hx1
          clear hx1 ht1 ha1 hB hBR
          go_upto_region 6 with fail
          go_cut [46] (fun v wx => ∃ r : Bool, v = .bool (!r) ∧ (r = true → Typ x) ∧ Below wr.heap.size wr wx)
          case first =>
            go_wp2_with (go_at_call 45; refine HC.out.mono ?_; rintro e w3 ⟨r, rfl, hr, hb⟩; have HRT := Lib.hid hr; clear hr)
            go_meet
            exact ⟨r, rfl, HRT.out, hb⟩
          case rest =>
            obtain ⟨r, rfl, hr, hb⟩ := hcut
            have HRT := Lib.hid hr
            clear hr
            have HQ := Lib.hid (HB.out.trans (hb.mono hzr))
            cases r
            · go_wp2
              go_ret
              exact ⟨_, rfl, (by intro h; cases h), HB0.out.trans (HQ.out.mono (by omega))⟩
            · go_wp2
              go_roundw
              case rel =>
                refine ⟨k + 1, by omega, by go_num, HQ.out, fun i y hi hy => ?_⟩
                by_cases hik : i < k
                · exact HTY.out i y hik hy
                · obtain rfl : i = k := by omega
                  rw [HX1.out] at hy
                  cases hy
                  exact HRT.out rfl
              case measure => simp [intOf]; omega
        · obtain rfl : k = L := by omega
          go_wp2
          go_ret
          refine ⟨_, rfl, (fun _ => .con (by omega) (fun y hy => ?_)), HB0.out.trans (HB.out.mono (by omega))⟩
          obtain ⟨i, hi⟩ := List.getElem?_of_mem hy
          exact HTY.out i y (by have h9 := (List.getElem?_eq_some_iff.1 hi).1; have h8 := HL.out; omega) hi
end Go.Proofs.YtncebhddcokkoaaDoor
/- Are types gone through? -/
namespace Go.Proofs.YtncebhddcokkoaaDoor
open Go.RowKit Go.Maps
set_option linter.unusedSimpArgs false
set_option linter.unusedVariables false
def sumT (d k : Nat) (ts : List Tm) : Nat := (ts.take k).foldl (fun n t => n + tszN d t) 0
theorem sumT_next {d k : Nat} {ts : List Tm} {x : Tm} (h : ts[k]? = some x) : sumT d (k + 1) ts = sumT d k ts + tszN d x := by
  unfold sumT
  rw [List.take_add_one, h]
  simp [List.foldl_append]
theorem sumT_all {d : Nat} {ts : List Tm} : sumT d ts.length ts = ts.foldl (fun n t => n + tszN d t) 0 := by
  unfold sumT
  rw [List.take_length]
def FewA (d : Nat) (ts : List Tm) (w : World) (e : Ending) (w' : World) : Prop := ∃ r : Bool, e = .returned (.bool r) ∧ (r = true → (∀ t ∈ ts, Typ t ∧ Sm d t) ∧ ts.foldl (fun n t => n + tszN d t) 0 ≤ 60) ∧ Below w.heap.size w w'
set_option maxRecDepth 100000 in
set_option maxHeartbeats 4000000 in
theorem fewA_any (d : Nat) (s : Value) (ts : List Tm) (w : World) (hk : KidsT w d s ts) (hlen : ts.length ≤ 1000) : Calls Tryd.prog 19 #[s] w (FewA d ts w) := by
  obtain ⟨q, c, rfl, hl, hr⟩ := hk
  have HR := Lib.hid hr
  clear hr
  generalize hL : ts.length = L at *
  have HL := Lib.hid hL
  clear hL
  unfold maxLen at hl
  go_enter Tryd.func19, Tryd.ntmps19
  go_wp2
  go_loopw [3, 7] (fun nv i wr => ∃ k : Nat, k ≤ L ∧ i = .int .i64 k ∧ nv = .int .i64 (sumT d k ts : Nat) ∧ sumT d k ts ≤ 600 * k ∧ Below w.heap.size w wr ∧ ∀ (j : Nat) (x : Tm), j < k → ts[j]? = some x → Typ x ∧ Sm d x) (fun _ i _ => L - (intOf i).toNat)
  case atStart => exact ⟨0, Nat.zero_le _, rfl, rfl, Nat.zero_le _, Below.refl _ _, fun j x hj => absurd hj (by omega)⟩
  case round =>
    obtain ⟨k, hk, rfl, rfl, hsum, hB, hty⟩ := hrel
    have HTY := Lib.hid hty
    have HB := Lib.hid hB
    clear hty
    by_cases hlt : (k : Int) < (L : Int)
    · have hx : ∃ x, ts[k]? = some x := ⟨_, List.getElem?_eq_getElem (by have := HL.out; omega)⟩
      obtain ⟨x, hx⟩ := hx
      obtain ⟨b1, o1, k1, p1, n1, N1, s1, hq, ha, ht⟩ := HR.out k x hx
      subst hq
      obtain ⟨x0, x1, x2, x3, x4⟩ := ha.below hB ha.lt
      have HT := Lib.hid (ht.below hB)
      have HX := Lib.hid hx
      clear hx ht ha hB
      go_wp2_with (first
        | (go_at_call 44; (with_reducible refine (few2_any d _ x _ HT.out).mono ?_); rintro e w3 ⟨r3, rfl, hr3, hb3⟩; have HR3 := Lib.hid hr3; have HB3 := Lib.hid hb3; have x0 := keep_cell hb3 x0; have x1 := keep_cell hb3 x1; have x2 := keep_cell hb3 x2; have x3 := keep_cell hb3 x3; have x4 := keep_cell hb3 x4; clear hr3 hb3; cases r3)
        | (go_at_call 45; (with_reducible refine (typ13_any d _ x _ (HT.out.below HB3.out)).mono ?_); rintro e w4 ⟨r4, rfl, hr4, hb4⟩; have HR4 := Lib.hid hr4; have HB4 := Lib.hid hb4; have x0 := keep_cell hb4 x0; have x1 := keep_cell hb4 x1; have x2 := keep_cell hb4 x2; have x3 := keep_cell hb4 x3; have x4 := keep_cell hb4 x4; clear hr4 hb4; cases r4)
        | (go_at_call 16; (with_reducible refine (rsize_any d _ x _ ((HT.out.below HB3.out).below HB4.out)).mono ?_); rintro e w5 ⟨rfl, hb5⟩; have HB5 := Lib.hid hb5; clear hb5))
      · go_ret
        exact ⟨_, rfl, (by intro h; cases h), HB.out.trans (HB3.out.mono HB.out.size)⟩
      · have hB3 := HB.out.trans (HB3.out.mono HB.out.size)
        go_ret
        exact ⟨_, rfl, (by intro h; cases h), hB3.trans (HB4.out.mono hB3.size)⟩
      · have hB3 := HB.out.trans (HB3.out.mono HB.out.size)
        have hB4 := hB3.trans (HB4.out.mono hB3.size)
        have hsm : Sm d x ∧ tszN d x ≤ 600 := HR3.out (by simp)
        have htp : Typ x := HR4.out (by simp)
        have e1 := sumT_next (d := d) HX.out
        have e2 := sz_eq d x (by omega)
        have e3 : wrap64 (((sumT d k ts : Nat) : Int) + sz d x) = ((sumT d (k + 1) ts : Nat) : Int) := by
          rw [e2, e1]
          unfold wrap64
          omega
        refine ⟨⟨k + 1, by omega, by simp, by rw [e3], by omega, hB4.trans (HB5.out.mono hB4.size), fun j y hj hy => ?_⟩, by simp [intOf]; omega⟩
        by_cases hjk : j < k
        · exact HTY.out j y hjk hy
        · obtain rfl : j = k := by omega
          rw [HX.out] at hy
          cases hy
          exact ⟨htp, hsm.1⟩
    · obtain rfl : k = L := by omega
      go_wp2
      go_ret
      refine ⟨_, rfl, fun h => ⟨fun t ht => ?_, ?_⟩, HB.out⟩
      · obtain ⟨i, hi⟩ := List.getElem?_of_mem ht
        exact HTY.out i t (by have h9 := (List.getElem?_eq_some_iff.1 hi).1; have h8 := HL.out; omega) hi
      · rw [← sumT_all, HL.out]
        have h : ((sumT d k ts : Nat) : Int) ≤ 60 := by simpa using h
        omega
end Go.Proofs.YtncebhddcokkoaaDoor
/- Equations are gone through. -/
namespace Go.Proofs.YtncebhddcokkoaaDoor
open Go.RowKit Go.Maps
set_option linter.unusedSimpArgs false
set_option linter.unusedVariables false
/-- The sides of the first equations, in a row of one's own. -/
structure EqsI (w : World) (E : List (Tm × Tm)) (d j : Nat) (tv' : Value) (ts : List T5) (wr : World) : Prop where
  row : wr.ownsRow w.heap.size 36 5 tv' ts.length (flatC ts)
  len : ts.length = (two (E.take j)).length
  bel : Below w.heap.size w wr
  trm : ∀ (i : Nat) (y : Tm), (two (E.take j))[i]? = some y → ∃ t, ts[i]? = some t ∧ IsT w d (t5v t) y
theorem EqsI.below {w wr w' : World} {E : List (Tm × Tm)} {d j : Nat} {tv' : Value} {ts : List T5} (h : EqsI w E d j tv' ts wr) (hb : Below wr.heap.size wr w') : EqsI w E d j tv' ts w' :=
  ⟨own_kept h.row fun g x hg hx => hb_below hx hb (hb_lt hx), h.len, h.bel.trans (hb.mono h.bel.size), h.trm⟩
theorem eqs_next {w wr : World} {E : List (Tm × Tm)} {d j : Nat} {ts : List T5} {qt : Option Addr} {ct : Nat} {x : Tm × Tm} {tn : Nat} (htn : ts.length = tn) (hS : EqsI w E d j (.slice qt tn ct) ts wr) (hx : E[j]? = some x)
    {k I k' I' : Int} {p n p' n' : ByteArray} {q q' : Option Addr} {ln cc ln' cc' : Nat} (hi1 : IsT w d (tv k p n I (.slice q ln cc)) x.1) (hi2 : IsT w d (tv k' p' n' I' (.slice q' ln' cc')) x.2) (hel : E.length ≤ 1000) :
    ∃ q8 c8 w8, (Builtin.append_ #[34, 34] 34 #[.slice qt tn ct, .slice (some ⟨wr.heap.size, 0, none⟩) 2 2]).run Tryd.prog (wr.alloc (.cells #[.int .i64 k, .string p, .string n, .int .i64 I, .slice q ln cc, .int .i64 k', .string p', .string n', .int .i64 I', .slice q' ln' cc'] 36)) = .ok (.slice q8 (tn + 2) c8) w8 ∧
      (∀ {g o : Nat} {v : Value}, (wr.alloc (.cells #[.int .i64 k, .string p, .string n, .int .i64 I, .slice q ln cc, .int .i64 k', .string p', .string n', .int .i64 I', .slice q' ln' cc'] 36)).cell? ⟨g, o, none⟩ = some v → g < w.heap.size → w8.cell? ⟨g, o, none⟩ = some v) ∧
      EqsI w E d (j + 1) (.slice q8 (tn + 2) c8) (ts ++ [(k, p, n, I, .slice q ln cc), (k', p', n', I', .slice q' ln' cc')]) w8 := by
  subst htn
  have hjl := (List.getElem?_eq_some_iff.1 hx).1
  have htl : ts.length ≤ 2000 := by rw [hS.len, two_len, List.length_take]; omega
  obtain ⟨v8, w8, hrun, hrow, hg⟩ := append_tt hS.row hS.bel.size (k := k) (p := p) (n := n) (N := I) (q := q) (ln := ln) (c := cc) (k' := k') (p' := p') (n' := n') (N' := I') (q' := q') (ln' := ln') (c' := cc') (by omega)
  have hsh : ∃ q8 c8, v8 = .slice q8 (ts.length + 2) c8 := by
    rcases hrow.2 with ⟨_, h0⟩ | ⟨g', cap, cur, rfl, _⟩
    · rw [List.length_append] at h0; simp at h0
    · exact ⟨_, _, by rw [List.length_append]; rfl⟩
  obtain ⟨q8, c8, rfl⟩ := hsh
  have htk : E.take (j + 1) = E.take j ++ [x] := by rw [List.take_add_one, hx]; rfl
  have hba := below_alloc wr (.cells #[.int .i64 k, .string p, .string n, .int .i64 I, .slice q ln cc, .int .i64 k', .string p', .string n', .int .i64 I', .slice q' ln' cc'] 36)
  have hbk : ∀ g, (Value.slice qt ts.length ct).ownBlock = some g → w.heap.size ≤ g := fun g hg => (own_blk hS.row g hg).1
  refine ⟨q8, c8, w8, hrun, fun {g o v} h hlt => cell_grown hg h (fun e => by have := hbk g e.symm; omega), ?_, ?_, ?_, fun i y hy => ?_⟩
  · have : (ts ++ [(k, p, n, I, Value.slice q ln cc), (k', p', n', I', Value.slice q' ln' cc')]).length = ts.length + 2 := by rw [List.length_append]; rfl
    rw [this] at hrow ⊢
    exact hrow
  · rw [htk, two_app, List.length_append, List.length_append, hS.len]; rfl
  · exact (hS.bel.trans (hba.mono hS.bel.size)).grown hg (by have := hS.bel.size; simp; omega) hbk
  · rw [htk, two_app, List.getElem?_append] at hy
    split at hy
    · rename_i hlt
      obtain ⟨t, e1, e2⟩ := hS.trm i y hy
      exact ⟨t, by rw [List.getElem?_append_left (by rw [hS.len]; exact hlt)]; exact e1, e2⟩
    · rename_i hlt
      have hi : ts.length ≤ i := by rw [hS.len]; omega
      rw [List.getElem?_append_right hi, hS.len]
      generalize i - (two (E.take j)).length = m at hy ⊢
      match m, hy with
      | 0, hy => obtain rfl := Option.some.inj hy; exact ⟨_, rfl, hi1⟩
      | 1, hy => obtain rfl := Option.some.inj hy; exact ⟨_, rfl, hi2⟩
      | m + 2, hy => simp [two] at hy
def EqsA (d : Nat) (E : List (Tm × Tm)) (w : World) (e : Ending) (w' : World) : Prop := ∃ r : Bool, e = .returned (.bool r) ∧ (r = true → E.length ≤ 20 ∧ (∀ x ∈ E, (Typ x.1 ∧ Sm d x.1) ∧ (Typ x.2 ∧ Sm d x.2)) ∧ tot d E ≤ 60) ∧ Below w.heap.size w w'
theorem two_mem {E : List (Tm × Tm)} {x : Tm × Tm} (h : x ∈ E) : x.1 ∈ two E ∧ x.2 ∈ two E := by
  induction E with
  | nil => cases h
  | cons y E ih =>
    rcases List.mem_cons.1 h with rfl | h
    · simp [two]
    · simp [two, ih h]
set_option maxRecDepth 100000 in
set_option maxHeartbeats 4000000 in
theorem eqsA_any (w : World) (d : Nat) (v : Value) (E : List (Tm × Tm)) (hE : EqAt w d v E) (hlen : E.length ≤ 9223372036854775807) : Calls Tryd.prog 10 #[v] w (EqsA d E w) := by
  obtain ⟨qe, ce, rfl, hq⟩ := hE
  have HQ := Lib.hid hq
  have hn0 : EqsI w E d 0 (.slice none 0 0) [] w := ⟨⟨rfl, .inl ⟨rfl, rfl⟩⟩, rfl, Below.refl _ _, fun i y h => by simp [two] at h⟩
  have HN0 := Lib.hid hn0
  clear hq hn0
  by_cases h20 : (20 : Int) < (E.length : Int)
  · generalize E.length = L at *
    have HBL := Lib.hid (Below.refl w.heap.size w)
    go_enter Tryd.func10, Tryd.ntmps10
    go_wp2
    go_ret
    exact ⟨_, rfl, (by intro h; cases h), HBL.out⟩
  generalize hL : E.length = L at *
  have HL := Lib.hid hL
  clear hL
  go_enter Tryd.func10, Tryd.ntmps10
  go_wp2
  go_loopw [3, 10] (fun tv' t wr => ∃ j : Nat, t = .int .i64 (j : Nat) ∧ j ≤ L ∧ ∃ ts, EqsI w E d j tv' ts wr) (fun _ t _ => L - (intOf t).toNat)
  case atStart => exact ⟨0, rfl, Nat.zero_le _, _, HN0.out⟩
  case round =>
    obtain ⟨j, rfl, hjl, ts, hS⟩ := hrel
    have hut : ∃ q c, u3 = .slice q ts.length c := by
      rcases hS.row.2 with ⟨h, h0⟩ | ⟨g', cap, cur, h, _⟩
      · exact ⟨none, 0, by rw [h, h0]⟩
      · exact ⟨_, _, h⟩
    obtain ⟨qt, ct, rfl⟩ := hut
    have HS := Lib.hid hS
    by_cases hlt : (j : Int) < (L : Int)
    · have hx : ∃ x, E[j]? = some x := ⟨_, List.getElem?_eq_getElem (by have := HL.out; omega)⟩
      obtain ⟨x, hx⟩ := hx
      have HXX := Lib.hid hx
      obtain ⟨g, o, k, p, n, I, s, k', p', n', I', s', rfl, ⟨ta, hi1⟩, tb, hi2⟩ := HQ.out j x hx
      obtain ⟨q, ln, cc, rfl⟩ := hi1.spell
      obtain ⟨q', ln', cc', rfl⟩ := hi2.spell
      have hglt : g < w.heap.size := ta.lt
      have HI1 := Lib.hid hi1
      have HI2 := Lib.hid hi2
      obtain ⟨z0, z1, z2, z3, z4⟩ := ta.below hS.bel ta.lt
      obtain ⟨z5, z6, z7, z8, z9⟩ := tb.below hS.bel tb.lt
      have HEL := Lib.hid (show E.length ≤ 1000 by have := HL.out; omega)
      clear hx hi1 hi2 ta tb hS
      generalize htn : ts.length = tn at *
      have HTN := Lib.hid htn
      clear htn
      go_upto_region 7 with (fail)
      refine wp_region_held_drew (S := (fun w' => w'.cell? ⟨g, o + j * 10, none⟩ = some (.int .i64 k) ∧ w'.cell? ⟨g, o + j * 10 + 1, none⟩ = some (.string p) ∧ w'.cell? ⟨g, o + j * 10 + 2, none⟩ = some (.string n) ∧ w'.cell? ⟨g, o + j * 10 + 3, none⟩ = some (.int .i64 I) ∧ w'.cell? ⟨g, o + j * 10 + 4, none⟩ = some (.slice q ln cc) ∧ w'.cell? ⟨g, o + j * 10 + 5, none⟩ = some (.int .i64 k') ∧ w'.cell? ⟨g, o + j * 10 + 6, none⟩ = some (.string p') ∧ w'.cell? ⟨g, o + j * 10 + 7, none⟩ = some (.string n') ∧ w'.cell? ⟨g, o + j * 10 + 8, none⟩ = some (.int .i64 I') ∧ w'.cell? ⟨g, o + j * 10 + 9, none⟩ = some (.slice q' ln' cc'))) (by kernel_rfl) (by exact ⟨z0, z1, z2, z3, z4, z5, z6, z7, z8, z9⟩) (fun hHeld => ?_)
      refine wpAnyH_take (i := 0) (oi := ⟨some 13, _, _, _, _, _⟩) (v := ?_) rfl (by kernel_rfl) (by kernel_rfl) (by kernel_rfl) (fun _ _ _ h => h) (Or.inl ⟨by rfl, ?_⟩) (by assumption) ?_
      rotate_left
      focus (intro w hSw; (try dsimp only at hSw); go_simp; first | done | with_reducible rfl)
      try simp only [Act.put, List.setIfInBounds_toArray, List.set_cons_zero, List.set_cons_succ]
      refine wpAnyH_take (i := 1) (oi := ⟨some 14, _, _, _, _, _⟩) (v := ?_) rfl (by kernel_rfl) (by kernel_rfl) (by kernel_rfl) (fun _ _ _ h => h) (Or.inl ⟨by rfl, ?_⟩) (by assumption) ?_
      rotate_left
      focus (intro w hSw; (try dsimp only at hSw); go_simp; first | done | with_reducible rfl)
      try simp only [Act.put, List.setIfInBounds_toArray, List.set_cons_zero, List.set_cons_succ]
      refine wpAnyH_take (i := 2) (oi := ⟨some 15, _, _, _, _, _⟩) (v := ?_) rfl (by kernel_rfl) (by kernel_rfl) (by kernel_rfl) (fun _ _ _ h => h) (Or.inl ⟨by rfl, ?_⟩) (by assumption) ?_
      rotate_left
      focus (intro w hSw; (try dsimp only at hSw); go_simp; first | done | with_reducible rfl)
      try simp only [Act.put, List.setIfInBounds_toArray, List.set_cons_zero, List.set_cons_succ]
      refine wpAnyH_take (i := 3) (oi := ⟨some 16, _, _, _, _, _⟩) (v := ?_) rfl (by kernel_rfl) (by kernel_rfl) (by kernel_rfl) (fun _ _ _ h => h) (Or.inl ⟨by rfl, ?_⟩) (by assumption) ?_
      rotate_left
      focus (intro w hSw; (try dsimp only at hSw); go_simp; first | done | with_reducible rfl)
      try simp only [Act.put, List.setIfInBounds_toArray, List.set_cons_zero, List.set_cons_succ]
      refine wpAnyH_take (i := 4) (oi := ⟨some 17, _, _, _, _, _⟩) (v := ?_) rfl (by kernel_rfl) (by kernel_rfl) (by kernel_rfl) (fun _ _ _ h => h) (Or.inl ⟨by rfl, ?_⟩) (by assumption) ?_
      rotate_left
      focus (intro w hSw; (try dsimp only at hSw); go_simp; first | done | with_reducible rfl)
      try simp only [Act.put, List.setIfInBounds_toArray, List.set_cons_zero, List.set_cons_succ]
      refine wpAnyH_take (i := 5) (oi := ⟨some 18, _, _, _, _, _⟩) (v := ?_) rfl (by kernel_rfl) (by kernel_rfl) (by kernel_rfl) (fun _ _ _ h => h) (Or.inl ⟨by rfl, ?_⟩) (by assumption) ?_
      rotate_left
      focus (intro w hSw; (try dsimp only at hSw); go_simp; first | done | with_reducible rfl)
      try simp only [Act.put, List.setIfInBounds_toArray, List.set_cons_zero, List.set_cons_succ]
      refine wpAnyH_take (i := 6) (oi := ⟨some 19, _, _, _, _, _⟩) (v := ?_) rfl (by kernel_rfl) (by kernel_rfl) (by kernel_rfl) (fun _ _ _ h => h) (Or.inl ⟨by rfl, ?_⟩) (by assumption) ?_
      rotate_left
      focus (intro w hSw; (try dsimp only at hSw); go_simp; first | done | with_reducible rfl)
      try simp only [Act.put, List.setIfInBounds_toArray, List.set_cons_zero, List.set_cons_succ]
      refine wpAnyH_take (i := 7) (oi := ⟨some 20, _, _, _, _, _⟩) (v := ?_) rfl (by kernel_rfl) (by kernel_rfl) (by kernel_rfl) (fun _ _ _ h => h) (Or.inl ⟨by rfl, ?_⟩) (by assumption) ?_
      rotate_left
      focus (intro w hSw; (try dsimp only at hSw); go_simp; first | done | with_reducible rfl)
      try simp only [Act.put, List.setIfInBounds_toArray, List.set_cons_zero, List.set_cons_succ]
      refine wpAnyH_take (i := 8) (oi := ⟨some 21, _, _, _, _, _⟩) (v := ?_) rfl (by kernel_rfl) (by kernel_rfl) (by kernel_rfl) (fun _ _ _ h => h) (Or.inl ⟨by rfl, ?_⟩) (by assumption) ?_
      rotate_left
      focus (intro w hSw; (try dsimp only at hSw); go_simp; first | done | with_reducible rfl)
      try simp only [Act.put, List.setIfInBounds_toArray, List.set_cons_zero, List.set_cons_succ]
      refine wpAnyH_take (i := 9) (oi := ⟨some 22, _, _, _, _, _⟩) (v := ?_) rfl (by kernel_rfl) (by kernel_rfl) (by kernel_rfl) (fun _ _ _ h => h) (Or.inl ⟨by rfl, ?_⟩) (by assumption) ?_
      rotate_left
      focus (intro w hSw; (try dsimp only at hSw); go_simp; first | done | with_reducible rfl)
      try simp only [Act.put, List.setIfInBounds_toArray, List.set_cons_zero, List.set_cons_succ]
      refine wpAnyH_take (i := 10) (oi := ⟨some 23, _, _, _, _, _⟩) (v := ?_) rfl (by kernel_rfl) (by kernel_rfl) (by kernel_rfl) (fun _ _ _ h => h) (Or.inl ⟨by rfl, ?_⟩) (by assumption) ?_
      rotate_left
      focus (intro w hSw; (try dsimp only at hSw); go_simp; first | done | with_reducible rfl)
      try simp only [Act.put, List.setIfInBounds_toArray, List.set_cons_zero, List.set_cons_succ]
      refine wpAnyH_ready (rs := [11]) (by kernel_rfl) (by simp) ?_
      refine AllReadyH.cons (o := ⟨some 24, _, _, _, _, _⟩) rfl (fun K hK => ?_) AllReadyH.nil
      go_simp
      have HBA := Lib.hid (below_alloc wr.drew (.cells #[.int .i64 k, .string p, .string n, .int .i64 I, .slice q ln cc, .int .i64 k', .string p', .string n', .int .i64 I', .slice q' ln' cc'] 36))
      go_wp2_with fail
      refine hK.out _ _ (by exact ⟨keep_cell HBA.out hHeld.1, keep_cell HBA.out hHeld.2.1, keep_cell HBA.out hHeld.2.2.1, keep_cell HBA.out hHeld.2.2.2.1, keep_cell HBA.out hHeld.2.2.2.2.1, keep_cell HBA.out hHeld.2.2.2.2.2.1, keep_cell HBA.out hHeld.2.2.2.2.2.2.1, keep_cell HBA.out hHeld.2.2.2.2.2.2.2.1, keep_cell HBA.out hHeld.2.2.2.2.2.2.2.2.1, keep_cell HBA.out hHeld.2.2.2.2.2.2.2.2.2⟩) (fun hNew => ?_)
      clear hK K
      have hHeld := hNew
      try simp only [Act.put, List.setIfInBounds_toArray, List.set_cons_zero, List.set_cons_succ]
      refine wpAnyH_ready (rs := [12]) (by kernel_rfl) (by simp) ?_
      refine AllReadyH.cons (o := ⟨some 25, _, _, _, _, _⟩) rfl (fun K hK => ?_) AllReadyH.nil
      obtain ⟨q8, c8, w8, hrun8, hg8, hin8⟩ := eqs_next HTN.out (HS.out.below (Below.refl _ _).drew) HXX.out HI1.out HI2.out HEL.out
      refine step_append rfl (.tmp 13) (.tmp 24) rfl rfl rfl rfl hrun8 ?_
      have HIN8 := Lib.hid hin8
      have hkeep : w8.cell? ⟨g, o + j * 10, none⟩ = some (.int .i64 k) ∧ w8.cell? ⟨g, o + j * 10 + 1, none⟩ = some (.string p) ∧ w8.cell? ⟨g, o + j * 10 + 2, none⟩ = some (.string n) ∧ w8.cell? ⟨g, o + j * 10 + 3, none⟩ = some (.int .i64 I) ∧ w8.cell? ⟨g, o + j * 10 + 4, none⟩ = some (.slice q ln cc) ∧ w8.cell? ⟨g, o + j * 10 + 5, none⟩ = some (.int .i64 k') ∧ w8.cell? ⟨g, o + j * 10 + 6, none⟩ = some (.string p') ∧ w8.cell? ⟨g, o + j * 10 + 7, none⟩ = some (.string n') ∧ w8.cell? ⟨g, o + j * 10 + 8, none⟩ = some (.int .i64 I') ∧ w8.cell? ⟨g, o + j * 10 + 9, none⟩ = some (.slice q' ln' cc') := ⟨hg8 hHeld.1 hglt, hg8 hHeld.2.1 hglt, hg8 hHeld.2.2.1 hglt, hg8 hHeld.2.2.2.1 hglt, hg8 hHeld.2.2.2.2.1 hglt, hg8 hHeld.2.2.2.2.2.1 hglt, hg8 hHeld.2.2.2.2.2.2.1 hglt, hg8 hHeld.2.2.2.2.2.2.2.1 hglt, hg8 hHeld.2.2.2.2.2.2.2.2.1 hglt, hg8 hHeld.2.2.2.2.2.2.2.2.2 hglt⟩
      refine hK.out _ _ (by exact hkeep) (fun hNew => ?_)
      clear hK K
      have hHeld := hNew
      try simp only [Act.put, List.setIfInBounds_toArray, List.set_cons_zero, List.set_cons_succ]
      refine wpAnyH_take (i := 13) (oi := ⟨some 3, _, _, _, _, _⟩) (v := ?_) rfl (by kernel_rfl) (by kernel_rfl) (by kernel_rfl) (fun _ _ _ h => h) (Or.inl ⟨by rfl, ?_⟩) (by assumption) ?_
      rotate_left
      focus (intro w hSw; (try dsimp only at hSw); go_simp; first | done | with_reducible rfl)
      try simp only [Act.put, List.setIfInBounds_toArray, List.set_cons_zero, List.set_cons_succ]
      refine wpAnyH_done (by kernel_rfl) ?_ _
      go_wp2
      exact ⟨⟨j + 1, by simp, by omega, _, HIN8.out⟩, by simp [intOf]; omega⟩
    · obtain rfl : j = L := by omega
      have htk : E.take j = E := List.take_of_length_le (by rw [HL.out]; omega)
      have h2l : (two E).length = 2 * j := by rw [two_len, HL.out]
      have hkd : KidsT wr d (.slice qt ts.length ct) (two E) := kidsT_of HS.out.row (by rw [HS.out.len, htk]) (by rw [h2l]; unfold maxLen; omega) (fun i x hx => by
        obtain ⟨t, h1, h2⟩ := HS.out.trm i x (by rw [htk]; exact hx)
        exact ⟨t, h1, h2.below HS.out.bel⟩)
      have HF := Lib.hid (fewA_any d _ (two E) wr hkd (by omega))
      have HBW := Lib.hid HS.out.bel
      clear hS hkd
      go_wp2_with (go_at_call 19; (with_reducible refine HF.out.mono ?_); rintro e w5 ⟨r, rfl, hr, hb⟩; have HR := Lib.hid hr; clear hr)
      go_ret
      refine ⟨_, rfl, fun h => ⟨by have := HL.out; omega, fun x hx => ?_, ?_⟩, HBW.out.trans (hb.mono HBW.out.size)⟩
      · obtain ⟨h1, h2⟩ := two_mem hx
        exact ⟨(HR.out h).1 _ h1, (HR.out h).1 _ h2⟩
      · exact (HR.out h).2
end Go.Proofs.YtncebhddcokkoaaDoor
