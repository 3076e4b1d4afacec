/- Texts in a row: Pq Pr. -/
import Derived.Test.YtlbnaddgdgbckaaGreatDoorZ10
import Derived.Deep.CutBlock
/- A match's arm. -/
namespace Go.Proofs.YtlbnaddgdgbckaaGreatDoor
open Go.RowKit
set_option linter.unusedSimpArgs false
set_option linter.unusedVariables false
set_option maxRecDepth 100000 in
set_option maxHeartbeats 2000000 in
theorem match1_any (r E g d : Nat) (hd : d + g = 41) (IH : ExprC r E g d) (br bd : Nat) (w0 : World)
    (hbr : w0.heap[br]? = some (.cells #[rp r] 56 (0, 0))) (hbd : w0.heap[bd]? = some (.cells #[.int .i64 (d : Nat)] 3 (0, 0))) (hnr : br ≠ r) (hnd : bd ≠ r) : OneL r E (armP E (patP E g) (exprP E g)) 70 #[bp br, bp bd] w0 := by
  intro w ts hg hR
  have HBr0 := Lib.hid (hg.keep hbr hnr)
  have HBd0 := Lib.hid (hg.keep hbd hnd)
  have x0 := hb_at HBr0.out 0 rfl
  have x1 := hb_at HBd0.out 0 rfl
  have z0 := hb_lt HBr0.out
  have z1 := hb_lt HBd0.out
  have HI : RowKit.Hid (∀ ts W, Rd r E W ts → Calls Tryz.prog 23 #[rp r, .int .i64 (d : Nat)] W (Got r E TmV W (exprP E g ts))) := Lib.hid IH
  clear hg hbr hbd IH
  have HR0 := Lib.hid hR
  have hrl := hR.lt
  have HG0 : RowKit.Hid (Rg r w w) := Lib.hid (Rg.refl r w)
  obtain ⟨S, hS⟩ : ∃ S, S = armP E (patP E g) (exprP E g) ts := ⟨_, rfl⟩
  have HS0 := Lib.hid hS
  rw [← hS]
  unfold armP at HS0
  clear hR hS
  go_enter Tryz.func70, Tryz.ntmps70
  go_wp2_with (first
    | (go_at_call 71; (with_reducible refine (pat_any r E g d hd _ _ (by first | exact HR0.out | exact HR0.out.alloc _ | exact (HR0.out.alloc _).alloc _ | exact ((HR0.out.alloc _).alloc _).alloc _ | exact HR0.out.upto (fun _ _ _ => rfl) | exact (HR0.out.alloc _).upto (fun _ _ _ => rfl))).mono ?_); rintro e w1 h1; rcases h1.step HS0.out with ⟨v1, a1, ts1, rfl, hV, hR, hg, hS, hx⟩ | ⟨y, rfl, hg, hSE⟩; rotate_left; (have hGE : Rg r w w1 := (by first | exact HG0.out.trans hg | exact (HG0.out.alloc _).trans hg | exact ((HG0.out.alloc _).alloc _).trans hg | exact (((HG0.out.alloc _).alloc _).alloc _).trans hg | exact HG0.out.drew.trans hg | exact (HG0.out.alloc _).drew.trans hg)); rotate_left; (obtain ⟨k1, p1, n1, N1, q1, l1, c1, rfl⟩ := hV.shape; have HV1 := Lib.hid hV); (have HR1 := Lib.hid hR; have HG1 : RowKit.Hid (Rg r w w1) := Lib.hid (by first | exact HG0.out.trans hg | exact (HG0.out.alloc _).trans hg | exact ((HG0.out.alloc _).alloc _).trans hg | exact (((HG0.out.alloc _).alloc _).alloc _).trans hg | exact HG0.out.drew.trans hg | exact (HG0.out.alloc _).drew.trans hg); have HS1 := Lib.hid hS; have HX1 := Lib.hid hx; have HD1 := Lib.hid hg; clear hR hg hS hx hV); (have HBr1 := Lib.hid (HD1.out.keep HBr0.out hnr)); (have HBd1 := Lib.hid (HD1.out.keep HBd0.out hnd)); have x10 := hb_at HBr1.out 0 rfl; have x11 := hb_at HBd1.out 0 rfl; have z10 := hb_lt HBr1.out; have z11 := hb_lt HBd1.out)
    | (go_at_call 34; (with_reducible refine (sign_any r E sArrow _ _ (by first | exact HR1.out | exact HR1.out.alloc _ | exact (HR1.out.alloc _).alloc _ | exact ((HR1.out.alloc _).alloc _).alloc _ | exact HR1.out.upto (fun _ _ _ => rfl) | exact (HR1.out.alloc _).upto (fun _ _ _ => rfl))).mono ?_); rintro e w2 h2; rcases h2.step HS1.out with ⟨v2, a2, ts2, rfl, hV, hR, hg, hS, hx⟩ | ⟨y, rfl, hg, hSE⟩; rotate_left; (have hGE : Rg r w w2 := (by first | exact HG1.out.trans hg | exact (HG1.out.alloc _).trans hg | exact ((HG1.out.alloc _).alloc _).trans hg | exact (((HG1.out.alloc _).alloc _).alloc _).trans hg | exact HG1.out.drew.trans hg | exact (HG1.out.alloc _).drew.trans hg)); rotate_left; (obtain rfl := hV); (have HR2 := Lib.hid hR; have HG2 : RowKit.Hid (Rg r w w2) := Lib.hid (by first | exact HG1.out.trans hg | exact (HG1.out.alloc _).trans hg | exact ((HG1.out.alloc _).alloc _).trans hg | exact (((HG1.out.alloc _).alloc _).alloc _).trans hg | exact HG1.out.drew.trans hg | exact (HG1.out.alloc _).drew.trans hg); have HS2 := Lib.hid hS; have HX2 := Lib.hid hx; have HD2 := Lib.hid hg; clear hR hg hS hx); (have HBr2 := Lib.hid (HD2.out.keep (hb_alloc HBr1.out _) hnr)); (have HBd2 := Lib.hid (HD2.out.keep (hb_alloc HBd1.out _) hnd)); have x20 := hb_at HBr2.out 0 rfl; have x21 := hb_at HBd2.out 0 rfl; have z20 := hb_lt HBr2.out; have z21 := hb_lt HBd2.out; (have HBt2 := Lib.hid (HD2.out.keep (hb_new _ _) (by have := HG1.out.size; omega))); obtain ⟨s0, s1, s2, s3, s4, _⟩ := box5 HBt2.out; have st := hb_lt HBt2.out))
  all_goals first | exact ⟨rfl, hGE, rfl⟩ | exact ⟨rfl, hGE, by rw [hSE]⟩ | skip
  go_region_with ((go_at_call 23; (with_reducible refine (HI.out _ _ (by first | exact HR2.out | exact HR2.out.alloc _ | exact (HR2.out.alloc _).alloc _ | exact ((HR2.out.alloc _).alloc _).alloc _ | exact HR2.out.upto (fun _ _ _ => rfl) | exact (HR2.out.alloc _).upto (fun _ _ _ => rfl))).mono ?_); rintro e w3 h3; rcases h3.step HS2.out with ⟨v3, a3, ts3, rfl, hV, hR, hg, hS, hx⟩ | ⟨y, rfl, hg, hSE⟩; rotate_left; (have hGE : Rg r w w3 := (by first | exact HG2.out.trans hg | exact (HG2.out.alloc _).trans hg | exact ((HG2.out.alloc _).alloc _).trans hg | exact (((HG2.out.alloc _).alloc _).alloc _).trans hg | exact HG2.out.drew.trans hg | exact (HG2.out.alloc _).drew.trans hg); subst hSE; exact ⟨rfl, hGE, rfl⟩); (obtain ⟨k3, p3, n3, N3, q3, l3, c3, rfl⟩ := hV.shape; have HV3 := Lib.hid hV); (have HR3 := Lib.hid hR; have HG3 : RowKit.Hid (Rg r w w3) := Lib.hid (by first | exact HG2.out.trans hg | exact (HG2.out.alloc _).trans hg | exact ((HG2.out.alloc _).alloc _).trans hg | exact (((HG2.out.alloc _).alloc _).alloc _).trans hg | exact HG2.out.drew.trans hg | exact (HG2.out.alloc _).drew.trans hg); have HS3 := Lib.hid hS; have HX3 := Lib.hid hx; have HD3 := Lib.hid hg; clear hR hg hS hx hV); (have HBr3 := Lib.hid (HD3.out.keep HBr2.out hnr)); (have HBd3 := Lib.hid (HD3.out.keep HBd2.out hnd)); have x30 := hb_at HBr3.out 0 rfl; have x31 := hb_at HBd3.out 0 rfl; have z30 := hb_lt HBr3.out; have z31 := hb_lt HBd3.out; (have HBt3 := Lib.hid (HD3.out.keep HBt2.out (by have := HG1.out.size; omega))); obtain ⟨u0, u1, u2, u3, u4, _⟩ := box5 HBt3.out; have su := hb_lt HBt3.out))
  all_goals
    go_wp2
    go_ret
    have hz2 : w1.heap.size + 1 ≤ w2.heap.size := by have h := HD2.out.size; rw [World.size_alloc] at h; exact h
    have hz3 : w2.heap.size ≤ w3.heap.size := HD3.out.size
    have hz1 := HG1.out.size
    refine ⟨HG3.out.alloc _, ?_⟩
    rw [HS3.out]
    refine ⟨⟨_, rfl, SlG.two (show w.heap.size ≤ w3.heap.size by omega) (hb_new _ _) ?_ ?_, rfl⟩, HR3.out.alloc _⟩
    · obtain ⟨D, h⟩ := HV1.out
      exact ⟨D, h.move fun b hb hl => by
        have hb' : w.heap.size ≤ b := hb
        refine ⟨hb', ?_⟩
        rw [Below.heap_alloc _ _ _ (by omega), HD3.out.same (by show b < w2.heap.size; omega) (by omega)]
        show w2.heap[b]? = _
        rw [HD2.out.same (by rw [World.size_alloc]; omega) (by omega), Below.heap_alloc _ _ _ hl]⟩
    · obtain ⟨D, h⟩ := HV3.out
      exact ⟨D, h.move fun b hb hl => by
        have hb' : w2.heap.size ≤ b := hb
        exact ⟨show w.heap.size ≤ b by omega, Below.heap_alloc _ _ _ hl⟩⟩
end Go.Proofs.YtlbnaddgdgbckaaGreatDoor
/- A match. -/
namespace Go.Proofs.YtlbnaddgdgbckaaGreatDoor
open Go.RowKit
set_option linter.unusedSimpArgs false
set_option linter.unusedVariables false
/-- An append of some members that are there. -/
theorem RowG.append2 {α : Type} {K : Mem α} {base : Nat} {w : World} {sv : Value} {l ms : List α} (h : RowG K base w sv l) (hbase : base ≤ w.heap.size)
    {g o cc : Nat} (hm : ∀ i a, ms[i]? = some a → ∃ cs, (∀ j u, cs[j]? = some u → w.cell? ⟨g, o + i * K.size + j, none⟩ = some u) ∧ K.V (fun b => base ≤ b ∧ some b ≠ sv.ownBlock) w cs a) (hn : l.length ≤ 100000) (hn2 : ms.length ≤ 100000) :
    ∃ v' w', (Builtin.append_ #[K.t, K.t] K.t #[sv, .slice (some ⟨g, o, none⟩) ms.length cc]).run Tryz.prog w = .ok v' w' ∧ RowG K base w' v' (l ++ ms) ∧ w.grownBy w' sv.ownBlock ∧ (v'.ownBlock = sv.ownBlock ∨ v'.ownBlock = some w.heap.size) := by
  obtain ⟨cl, hl, ho, hd⟩ := h
  obtain ⟨z, hz, hzc⟩ := K.inf
  obtain ⟨i0, hi, hz0, hz1, hz2⟩ := info_parts hz
  obtain ⟨ml, hml, hmp⟩ := pick_list (P := fun i cs => ∀ a, ms[i]? = some a → (∀ j u, cs[j]? = some u → w.cell? ⟨g, o + i * K.size + j, none⟩ = some u) ∧ K.V (fun b => base ≤ b ∧ some b ≠ sv.ownBlock) w cs a) ms.length (fun i hi => by
    obtain ⟨cs, h1, h2⟩ := hm i (ms[i]) (List.getElem?_eq_getElem hi)
    exact ⟨cs, fun a ha => by rw [List.getElem?_eq_getElem hi] at ha; cases ha; exact ⟨h1, h2⟩⟩)
  have hpick : ∀ i a, ms[i]? = some a → ∃ cs, ml[i]? = some cs ∧ (∀ j u, cs[j]? = some u → w.cell? ⟨g, o + i * K.size + j, none⟩ = some u) ∧ K.V (fun b => base ≤ b ∧ some b ≠ sv.ownBlock) w cs a := by
    intro i a ha
    have hi := (List.getElem?_eq_some_iff.1 ha).1
    have h1 : ml[i]? = some (ml[i]'(by omega)) := List.getElem?_eq_getElem _
    exact ⟨_, h1, hmp i _ h1 a ha⟩
  have hall : ∀ cs ∈ ml, cs.length = K.size := by
    intro cs hc
    obtain ⟨j, hj⟩ := List.getElem?_of_mem hc
    have hjl := (List.getElem?_eq_some_iff.1 hj).1
    obtain ⟨cs', e1, _, e2⟩ := hpick j (ms[j]'(by omega)) (List.getElem?_eq_getElem _)
    rw [hj] at e1
    cases e1
    exact K.len e2
  have hfew := K.few
  have hlt := ho.lt
  obtain ⟨v', w', h1, h2, h3, _, h5⟩ := run_append_own_at (P := Tryz.prog) w base K.t K.t K.e i0 z K.size K.bytes K.und hi hz0 hz1 hz2 hzc K.pos sv l.length cl.flatten ho ⟨g, o, none⟩ ms.length cc ml.flatten (by rw [flat_len ml hall, hml])
    (fun j u hu => by
      have hj := (List.getElem?_eq_some_iff.1 hu).1
      rw [flat_len ml hall, hml] at hj
      have hdiv : j / K.size < ms.length := Nat.div_lt_of_lt_mul (by rw [Nat.mul_comm]; exact hj)
      have hmod : j % K.size < K.size := Nat.mod_lt _ K.pos
      have hjj : j / K.size * K.size + j % K.size = j := by rw [Nat.mul_comm]; exact Nat.div_add_mod j K.size
      obtain ⟨cs, e1, e2, e3⟩ := hpick (j / K.size) (ms[j / K.size]) (List.getElem?_eq_getElem hdiv)
      have e4 := flat_at ml (j / K.size) (j % K.size) cs hall e1 hmod
      rw [hjj, hu] at e4
      have e5 := e2 _ _ e4.symm
      rw [Addr.add_lit]
      rw [Nat.add_assoc, hjj] at e5
      exact e5)
    (fun u hu => by
      obtain ⟨cs, hc, hu2⟩ := List.mem_flatten.1 hu
      obtain ⟨j, hj⟩ := List.getElem?_of_mem hc
      have hjl := (List.getElem?_eq_some_iff.1 hj).1
      obtain ⟨cs', e1, _, e2⟩ := hpick j (ms[j]'(by omega)) (List.getElem?_eq_getElem _)
      rw [hj] at e1
      cases e1
      exact K.one e2 u hu2)
    (by unfold maxLen; omega) (by have : (l.length + ms.length) * K.bytes ≤ 200000 * 1000 := Nat.mul_le_mul (by omega) hfew; omega) hbase
  have hstep : ∀ b, (base ≤ b ∧ some b ≠ sv.ownBlock) → b < w.heap.size → (base ≤ b ∧ some b ≠ v'.ownBlock) ∧ w'.heap[b]? = w.heap[b]? := fun b hX hb => ⟨⟨hX.1, fun e => by
    rcases h5 with h | h
    · exact hX.2 (e.trans h)
    · rw [h] at e; have := Option.some.inj e; omega⟩, by rw [h3.block b hb hX.2]⟩
  refine ⟨v', w', h1, ⟨cl ++ ml, by simp [hl, hml], by rw [List.flatten_append, List.length_append]; exact h2, fun i a ha => ?_⟩, h3, h5⟩
  rw [List.getElem?_append] at ha
  split at ha
  · rename_i hi
    obtain ⟨cs, e1, e2⟩ := hd i a ha
    exact ⟨cs, by rw [List.getElem?_append_left (by omega)]; exact e1, K.move hstep e2⟩
  · rename_i hi
    obtain ⟨cs, e1, _, e2⟩ := hpick (i - l.length) a ha
    exact ⟨cs, by rw [List.getElem?_append_right (by omega), hl]; exact e1, K.move hstep e2⟩
theorem flatten_two : ∀ (l : List (List Tm)), (∀ x ∈ l, x.length = 2) → l.flatten.length = 2 * l.length
  | [], _ => rfl
  | x :: l, h => by
    have h1 := flatten_two l (fun y hy => h y (List.mem_cons_of_mem _ hy))
    have h2 := h x (List.mem_cons_self ..)
    rw [List.flatten_cons, List.length_append, h1, h2, List.length_cons]; omega
theorem take_flat {l : List (List Tm)} {m : Nat} {x : List Tm} (h : l[m]? = some x) : (l.take (m + 1)).flatten = (l.take m).flatten ++ x := by
  rw [List.take_add_one, h]
  simp
set_option maxRecDepth 100000 in
set_option maxHeartbeats 4000000 in
theorem match_any (r E g d : Nat) (hd : d + g = 41) (IH : ExprC r E g d) (ts : Ts) (w : World) (hR : Rd r E w ts) : Calls Tryz.prog 40 #[rp r, .int .i64 (d : Nat)] w (Got r E TmV w (matP E (patP E g) (exprP E g) ts)) := by
  have HIH := Lib.hid IH
  have HI : RowKit.Hid (∀ ts W, Rd r E W ts → Calls Tryz.prog 23 #[rp r, .int .i64 (d : Nat)] W (Got r E TmV W (exprP E g ts))) := Lib.hid IH
  have HM := Lib.hid (armP_mono (E := E) (patP_mono E g) (exprP_mono E g))
  have HCF : RowKit.Hid (∀ W, (callFunc 70 #[bp w.heap.size, bp (w.heap.size + 1)]).run Tryz.prog W = .ok (.enter 70 #[bp w.heap.size, bp (w.heap.size + 1)]) W) := Lib.hid (fun W => by kernel_rfl)
  clear IH
  have HR0 := Lib.hid hR
  have hrl := hR.lt
  have HG0 : RowKit.Hid (Rg r w w) := Lib.hid (Rg.refl r w)
  obtain ⟨S, hS⟩ : ∃ S, S = matP E (patP E g) (exprP E g) ts := ⟨_, rfl⟩
  have HS0 := Lib.hid hS
  rw [← hS]
  unfold matP at HS0
  clear hR hS
  go_enter Tryz.func40, Tryz.ntmps40
  go_upto_region 1 with (fail)
  obtain ⟨c0, c1, c2, hz3, hb3⟩ := boxes3 w (.cells #[rp r] 56) (.cells #[.int .i64 (d : Nat)] 3) (.cells #[.int .i64 0, .string ⟨#[]⟩, .string ⟨#[]⟩, .int .i64 0, .slice none 0 0] 39)
  generalize hW1 : ((w.alloc (.cells #[rp r] 56)).alloc (.cells #[.int .i64 (d : Nat)] 3)).alloc (.cells #[.int .i64 0, .string ⟨#[]⟩, .string ⟨#[]⟩, .int .i64 0, .slice none 0 0] 39) = W1 at *
  have HBr1 := Lib.hid c0
  have HBd1 := Lib.hid c1
  have HBx1 := Lib.hid c2
  have HR1 : RowKit.Hid (Rd r E W1 ts) := Lib.hid (HR0.out.below hb3)
  have HG1 : RowKit.Hid (Rg r w W1) := Lib.hid (Rg.of_below hb3)
  have HS1 := HS0
  have x0 := hb_at c0 0 rfl
  have x1 := hb_at c1 0 rfl
  have q0 := hb_lt c0
  have q1 := hb_lt c1
  have q2 := hb_lt c2
  clear hW1 c0 c1 c2 hb3
  go_upto_region 5 with (first
    | (go_at_call 23; (with_reducible refine (HI.out _ _ (by first | exact HR1.out | exact HR1.out.alloc _ | exact (HR1.out.alloc _).alloc _ | exact ((HR1.out.alloc _).alloc _).alloc _ | exact HR1.out.upto (fun _ _ _ => rfl) | exact (HR1.out.alloc _).upto (fun _ _ _ => rfl))).mono ?_); rintro e w2 h2; rcases h2.step HS1.out with ⟨v2, a2, ts2, rfl, hV, hR, hg, hS, hx⟩ | ⟨y, rfl, hg, hSE⟩; rotate_left; (have hGE : Rg r w w2 := (by first | exact HG1.out.trans hg | exact (HG1.out.alloc _).trans hg | exact ((HG1.out.alloc _).alloc _).trans hg | exact (((HG1.out.alloc _).alloc _).alloc _).trans hg | exact HG1.out.drew.trans hg | exact (HG1.out.alloc _).drew.trans hg)); rotate_left; (obtain ⟨k2, p2, n2, N2, q2, l2, c2, rfl⟩ := hV.shape; have HV2 := Lib.hid hV); (have HR2 := Lib.hid hR; have HG2 : RowKit.Hid (Rg r w w2) := Lib.hid (by first | exact HG1.out.trans hg | exact (HG1.out.alloc _).trans hg | exact ((HG1.out.alloc _).alloc _).trans hg | exact (((HG1.out.alloc _).alloc _).alloc _).trans hg | exact HG1.out.drew.trans hg | exact (HG1.out.alloc _).drew.trans hg); have HS2 := Lib.hid hS; have HX2 := Lib.hid hx; have HD2 := Lib.hid hg; clear hR hg hS hx hV); (have HBr2 := Lib.hid (HD2.out.keep HBr1.out (by omega))); (have HBd2 := Lib.hid (HD2.out.keep HBd1.out (by omega))); (have HBx2 := Lib.hid (HD2.out.keep HBx1.out (by omega))); have u2a := hb_at HBr2.out 0 rfl; have u2b := hb_at HBd2.out 0 rfl; have u2c := hb_lt HBr2.out; have u2d := hb_lt HBd2.out; have u2e := hb_lt HBx2.out; obtain ⟨x20, x21, x22, x23, x24, y20, y21, y22, y23, y24⟩ := box5 HBx2.out)
    | (go_at_call 68; (with_reducible refine (key_any r E kWith _ _ (by first | exact HR2.out | exact HR2.out.alloc _ | exact (HR2.out.alloc _).alloc _ | exact ((HR2.out.alloc _).alloc _).alloc _ | exact HR2.out.upto (fun _ _ _ => rfl) | exact (HR2.out.alloc _).upto (fun _ _ _ => rfl))).mono ?_); rintro e w3 h3; rcases h3.step HS2.out with ⟨v3, a3, ts3, rfl, hV, hR, hg, hS, hx⟩ | ⟨y, rfl, hg, hSE⟩; rotate_left; (have hGE : Rg r w w3 := (by first | exact HG2.out.trans hg | exact (HG2.out.alloc _).trans hg | exact ((HG2.out.alloc _).alloc _).trans hg | exact (((HG2.out.alloc _).alloc _).alloc _).trans hg | exact HG2.out.drew.trans hg | exact (HG2.out.alloc _).drew.trans hg)); rotate_left; (obtain rfl := hV); (have HR3 := Lib.hid hR; have HG3 : RowKit.Hid (Rg r w w3) := Lib.hid (by first | exact HG2.out.trans hg | exact (HG2.out.alloc _).trans hg | exact ((HG2.out.alloc _).alloc _).trans hg | exact (((HG2.out.alloc _).alloc _).alloc _).trans hg | exact HG2.out.drew.trans hg | exact (HG2.out.alloc _).drew.trans hg); have HS3 := Lib.hid hS; have HX3 := Lib.hid hx; have HD3 := Lib.hid hg; clear hR hg hS hx); (have HBr3 := Lib.hid (HD3.out.keep (hb_alloc HBr2.out _) (by omega))); (have HBd3 := Lib.hid (HD3.out.keep (hb_alloc HBd2.out _) (by omega))); (have HBx3 := Lib.hid (HD3.out.keep (hb_alloc HBx2.out _) (by omega))); have u3a := hb_at HBr3.out 0 rfl; have u3b := hb_at HBd3.out 0 rfl; have u3c := hb_lt HBr3.out; have u3d := hb_lt HBd3.out; have u3e := hb_lt HBx3.out; obtain ⟨x30, x31, x32, x33, x34, y30, y31, y32, y33, y34⟩ := box5 HBx3.out; (have HK3 : RowKit.Hid (RowG termK W1.heap.size w3 (.slice (some ⟨w2.heap.size, 0, none⟩) 1 1) [a2]) := Lib.hid (by obtain ⟨D, h⟩ := HV2.out; exact (RowG.one (K := termK) (base := W1.heap.size) (cs := [.int .i64 k2, .string p2, .string n2, .int .i64 N2, .slice q2 l2 c2]) ⟨_, _, _, _, _, D, rfl, h⟩ HD2.out.size _ rfl).move fun b hb hl => HD3.out.same hl (by omega))))
    | (go_at_call 69; (with_reducible refine (several_l r E sBar (armP E (patP E g) (exprP E g)) 70 _ _ _ (by first | exact HR3.out | exact HR3.out.alloc _ | exact (HR3.out.alloc _).alloc _ | exact ((HR3.out.alloc _).alloc _).alloc _ | exact HR3.out.upto (fun _ _ _ => rfl) | exact (HR3.out.alloc _).upto (fun _ _ _ => rfl)) HM.out HCF.out (match1_any r E g d hd HIH.out _ _ w3 HBr3.out HBd3.out (by omega) (by omega))).mono ?_); rintro e w4 h4; rcases h4.step HS3.out with ⟨v4, a4, ts4, rfl, hV, hR, hg, hS, hx⟩ | ⟨y, rfl, hg, hSE⟩; rotate_left; (have hGE : Rg r w w4 := (by first | exact HG3.out.trans hg | exact (HG3.out.alloc _).trans hg | exact ((HG3.out.alloc _).alloc _).trans hg | exact (((HG3.out.alloc _).alloc _).alloc _).trans hg | exact HG3.out.drew.trans hg | exact (HG3.out.alloc _).drew.trans hg)); rotate_left; (obtain ⟨q4, c4, hv⟩ := hV.1.shape; subst hv; have HV4 := Lib.hid hV); (have HR4 := Lib.hid hR; have HG4 : RowKit.Hid (Rg r w w4) := Lib.hid (by first | exact HG3.out.trans hg | exact (HG3.out.alloc _).trans hg | exact ((HG3.out.alloc _).alloc _).trans hg | exact (((HG3.out.alloc _).alloc _).alloc _).trans hg | exact HG3.out.drew.trans hg | exact (HG3.out.alloc _).drew.trans hg); have HS4 := Lib.hid hS; have HX4 := Lib.hid hx; have HD4 := Lib.hid hg; clear hR hg hS hx hV); (have HBr4 := Lib.hid (HD4.out.keep HBr3.out (by omega))); (have HBd4 := Lib.hid (HD4.out.keep HBd3.out (by omega))); (have HBx4 := Lib.hid (HD4.out.keep HBx3.out (by omega))); have u4a := hb_at HBr4.out 0 rfl; have u4b := hb_at HBd4.out 0 rfl; have u4c := hb_lt HBr4.out; have u4d := hb_lt HBd4.out; have u4e := hb_lt HBx4.out; obtain ⟨x40, x41, x42, x43, x44, y40, y41, y42, y43, y44⟩ := box5 HBx4.out; have HK4 := Lib.hid (HK3.out.move fun b hb hl => HD4.out.same hl (by omega)))
    | (go_at_call 68; (with_reducible refine (key_any r E kEnd _ _ (by first | exact HR4.out | exact HR4.out.alloc _ | exact (HR4.out.alloc _).alloc _ | exact ((HR4.out.alloc _).alloc _).alloc _ | exact HR4.out.upto (fun _ _ _ => rfl) | exact (HR4.out.alloc _).upto (fun _ _ _ => rfl))).mono ?_); rintro e w5 h5; rcases h5.step HS4.out with ⟨v5, a5, ts5, rfl, hV, hR, hg, hS, hx⟩ | ⟨y, rfl, hg, hSE⟩; rotate_left; (have hGE : Rg r w w5 := (by first | exact HG4.out.trans hg | exact (HG4.out.alloc _).trans hg | exact ((HG4.out.alloc _).alloc _).trans hg | exact (((HG4.out.alloc _).alloc _).alloc _).trans hg | exact HG4.out.drew.trans hg | exact (HG4.out.alloc _).drew.trans hg)); rotate_left; (obtain rfl := hV); (have HR5 := Lib.hid hR; have HG5 : RowKit.Hid (Rg r w w5) := Lib.hid (by first | exact HG4.out.trans hg | exact (HG4.out.alloc _).trans hg | exact ((HG4.out.alloc _).alloc _).trans hg | exact (((HG4.out.alloc _).alloc _).alloc _).trans hg | exact HG4.out.drew.trans hg | exact (HG4.out.alloc _).drew.trans hg); have HS5 := Lib.hid hS; have HX5 := Lib.hid hx; have HD5 := Lib.hid hg; clear hR hg hS hx); (have HBr5 := Lib.hid (HD5.out.keep HBr4.out (by omega))); (have HBd5 := Lib.hid (HD5.out.keep HBd4.out (by omega))); (have HBx5 := Lib.hid (HD5.out.keep HBx4.out (by omega))); have u5a := hb_at HBr5.out 0 rfl; have u5b := hb_at HBd5.out 0 rfl; have u5c := hb_lt HBr5.out; have u5d := hb_lt HBd5.out; have u5e := hb_lt HBx5.out; obtain ⟨x50, x51, x52, x53, x54, y50, y51, y52, y53, y54⟩ := box5 HBx5.out; have HK5 := Lib.hid (HK4.out.move fun b hb hl => HD5.out.same hl (by omega))))
  all_goals first | exact ⟨rfl, hGE, rfl⟩ | exact ⟨rfl, hGE, by rw [hSE]⟩ | skip
  have hz2 := HD2.out.size
  have hz3 : w2.heap.size + 1 ≤ w3.heap.size := by have h := HD3.out.size; rw [World.size_alloc] at h; exact h
  have hz4 := HD4.out.size
  have hz5 := HD5.out.size
  have HA : RowKit.Hid (SlG listK (fun b => w3.heap.size ≤ b) w5 (.slice q4 a4.length c4) a4) := Lib.hid (HV4.out.1.all fun b hb hl => HD5.out.same hl (by omega))
  have hal := HV4.out.2
  go_wp2
  go_loopw [5, 8, 22] (fun kv av iv wr => ∃ (m : Nat) (acc : List Tm), iv = .int .i64 m ∧ m ≤ a4.length ∧ acc = a2 :: (a4.take m).flatten ∧ RowG termK W1.heap.size wr kv acc ∧ (∀ g, kv.ownBlock = some g → g = w2.heap.size ∨ w5.heap.size ≤ g) ∧ Rg w2.heap.size w5 wr) (fun _ _ iv _ => a4.length - (intOf iv).toNat)
  case atStart =>
    exact ⟨0, [a2], rfl, by omega, rfl, HK5.out, fun g hg => .inl (by cases hg; rfl), Rg.refl _ _⟩
  case round =>
    obtain ⟨m, acc, rfl, hm, hacc, hrow, hown, hg⟩ := hrel
    have h2 : ∀ x ∈ a4, x.length = 2 := by
      intro x hx
      obtain ⟨j, hj⟩ := List.getElem?_of_mem hx
      obtain ⟨q, c, _, hel⟩ := HA.out
      obtain ⟨_, _, _, _, _, _, _, _, _, hl⟩ := hel j x hj
      exact hl
    have hlen : acc.length = 1 + 2 * m := by
      rw [hacc, List.length_cons, flatten_two _ (fun x hx => h2 x (List.mem_of_mem_take hx)), List.length_take, Nat.min_eq_left hm]
      omega
    have HLEN := Lib.hid hlen
    have H2 := Lib.hid h2
    have HACC := Lib.hid hacc
    have HROW := Lib.hid hrow
    have HOWN := Lib.hid hown
    have HGW := Lib.hid hg
    have hzr := hg.size
    obtain ⟨kq, kc, hkv⟩ := hrow.shape
    subst hkv
    clear hrow hown hg hacc hlen h2
    by_cases hlt : m < a4.length
    · have hki : (m : Int) < (a4.length : Int) := by omega
      have hw1 : IntKind.i64.wrap ((m : Int) + 1) = (m : Int) + 1 := IntWalk.i64_in _ (by omega)
      obtain ⟨l, hl⟩ : ∃ l, a4[m]? = some l := ⟨a4[m], List.getElem?_eq_getElem hlt⟩
      obtain ⟨q, c, hq, hel⟩ := HA.out
      obtain ⟨b, o, cs, hqb, hb3, hc, s, hcs, hsl, hl2⟩ := hel m l hl
      subst hcs
      cases hq
      subst hqb
      obtain ⟨x, y, hxy⟩ : ∃ x y, l = [x, y] := by
        match l, hl2 with
        | [x, y], _ => exact ⟨x, y, rfl⟩
      subst hxy
      clear hl2
      obtain ⟨sq, sc, hs, hmem⟩ := hsl
      have hs2 : s = .slice sq 2 sc := hs
      subst hs2
      clear hs
      have hb3' : w3.heap.size ≤ b := hb3
      have e0 : o + m * listK.size + 0 = o + m := by show o + m * 1 + 0 = o + m; omega
      have hcell := hc 0 _ rfl
      rw [e0] at hcell
      have hbl : b < w5.heap.size := block_lt_of_cell hcell
      have x0 := HGW.out.cell hcell (by omega)
      have hbl2 : b < wr.heap.size := by omega
      obtain ⟨g0, o0, _, hsq, hg0, _⟩ := hmem 0 x rfl
      have hg0' : w3.heap.size ≤ g0 := hg0
      subst hsq
      obtain ⟨v', w6, hrun, hrow2, hgr, hblk⟩ := RowG.append2 (K := termK) (ms := [x, y]) HROW.out (by omega) (g := g0) (o := o0) (cc := sc) (fun i z hz => by
        obtain ⟨b', o', cs', e', hb', hc', hV'⟩ := hmem i z hz
        obtain ⟨rfl, rfl⟩ : g0 = b' ∧ o0 = o' := by cases e'; exact ⟨rfl, rfl⟩
        have hb2' : w3.heap.size ≤ g0 := hb'
        have hbw : g0 < w5.heap.size := block_lt_of_cell (hc' 0 (cs'[0]'(by have h := termK.len hV'; rw [h]; decide)) (List.getElem?_eq_getElem _))
        refine ⟨cs', fun j u hu => HGW.out.cell (hc' j u hu) (by omega), termK.move (fun b1 hb1 hl1 => by
          have hb2 : w3.heap.size ≤ b1 := hb1
          refine ⟨⟨by omega, fun e => ?_⟩, HGW.out.same hl1 (by omega)⟩
          have := HOWN.out b1 e.symm
          omega) hV'⟩) (by have := HLEN.out; omega) (by simp)
      have hgo : ∀ g, Value.ownBlock (.slice kq acc.length kc) = some g → g = w2.heap.size ∨ w5.heap.size ≤ g := HOWN.out
      obtain ⟨vq, vc, hv⟩ := hrow2.shape
      subst hv
      have hlen2 : (acc ++ [x, y]).length = acc.length + 2 := by simp
      rw [hlen2] at hrow2 hblk hrun
      clear hlen2
      have HRUN : RowKit.Hid ((Builtin.append_ #[37, 37] 37 #[.slice kq acc.length kc, .slice (some ⟨g0, o0, none⟩) 2 sc]).run Tryz.prog wr = .ok _ w6) := Lib.hid hrun
      have HROW2 := Lib.hid hrow2
      have HGR := Lib.hid hgr
      have HBLK := Lib.hid hblk
      have HL := Lib.hid hl
      have hz6 := hgr.size
      clear hrun hrow2 hgr hblk hel hmem hc hl hgo
      go_wp2_with (at_builtin; refine (fun h : True → _ => h trivial) ?_)
      intro _
      refine wpList_append_at rfl _ _ rfl rfl rfl rfl HRUN.out ?_
      go_wp2
      refine ⟨⟨m + 1, acc ++ [x, y], by simp, by omega, ?_, HROW2.out, ?_, ?_⟩, by simp [intOf]; omega⟩
      · rw [HACC.out, take_flat HL.out]; rfl
      · intro g hg
        rcases HBLK.out with h | h
        · exact HOWN.out g (h ▸ hg)
        · rw [hg] at h; have := Option.some.inj h; omega
      · refine ⟨HGR.out.os.trans HGW.out.os, HGR.out.tape.trans HGW.out.tape, HGR.out.output.trans HGW.out.output, Nat.le_trans HGW.out.size HGR.out.size, fun k hk hne => ?_⟩
        rw [HGR.out.block k (by omega) (fun e => ?_)]
        · exact HGW.out.block k hk hne
        · rcases HOWN.out k e.symm with h | h
          · exact hne (by rw [h])
          · omega
    · have hki : ¬ (m : Int) < (a4.length : Int) := by omega
      obtain rfl : m = a4.length := by omega
      have HBxr := Lib.hid (HGW.out.keep HBx5.out (by omega))
      obtain ⟨x0, x1, x2, x3, x4, y0, y1, y2, y3, y4⟩ := box5 HBxr.out
      have zx := hb_lt HBxr.out
      go_wp2
      have hS : S = .ok (.mk 29 e0 e0 0 acc, ts5) := by rw [HACC.out, List.take_length]; exact HS5.out
      exact fin5 (w0 := w) rfl rfl rfl HBxr.out (by omega) (HG5.out.grown HGW.out (fun k hk => by cases hk; omega)) hrl (HR5.out.grown HGW.out (fun k hk => by cases hk; omega)) hS W1.heap.size (by omega) (by omega) (kids_of (HROW.out.all fun _ _ _ => rfl) (by have := HLEN.out; omega) (by decide) (by decide))
end Go.Proofs.YtlbnaddgdgbckaaGreatDoor
