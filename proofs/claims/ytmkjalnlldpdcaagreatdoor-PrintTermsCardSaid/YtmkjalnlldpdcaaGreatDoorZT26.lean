/- Texts in a row: Pr Ps Pt Pu. -/
import Derived.Test.YtmkjalnlldpdcaaGreatDoorZT25
import Derived.Deep.CutBlock
import Derived.Defers
import Derived.Recover
set_option maxHeartbeats 16000000
set_option maxRecDepth 100000
namespace Go.Proofs.YtmkjalnlldpdcaaGreatDoor
open Go.RowKit
set_option linter.unusedSimpArgs false
set_option linter.unusedVariables false
theorem RowG.append2 {α : Type} {K : Mem α} {base : Nat} {w : World} {sv : Value} {l ms : List α} (h : RowG K base w sv l) (hbase : base ≤ w.heap.size)
 {g o cc : Nat} (hm : ∀ i a, ms[i]? = some a → ∃ cs, (∀ j u, cs[j]? = some u → w.cell? ⟨g, o + i * K.size + j, none⟩ = some u) ∧ K.V (fun b => base ≤ b ∧ some b ≠ sv.ownBlock) w cs a) (hn : l.length ≤ 100000) (hn2 : ms.length ≤ 100000) :
 ∃ v' w', (Builtin.append_ #[K.t, K.t] K.t #[sv, .slice (some ⟨g, o, none⟩) ms.length cc]).run Tryz.prog w = .ok v' w' ∧ RowG K base w' v' (l ++ ms) ∧ w.grownBy w' sv.ownBlock ∧ (v'.ownBlock = sv.ownBlock ∨ v'.ownBlock = some w.heap.size) := by
 obtain ⟨cl, hl, ho, hd⟩ := h
 obtain ⟨z, hz, hzc⟩ := K.inf
 obtain ⟨i0, hi, hz0, hz1, hz2⟩ := info_parts hz
 obtain ⟨ml, hml, hmp⟩ := pick_list (P := fun i cs => ∀ a, ms[i]? = some a → (∀ j u, cs[j]? = some u → w.cell? ⟨g, o + i * K.size + j, none⟩ = some u) ∧ K.V (fun b => base ≤ b ∧ some b ≠ sv.ownBlock) w cs a) ms.length (fun i hi => by
  obtain ⟨cs, h1, h2⟩ := hm i (ms[i]) (List.getElem?_eq_getElem hi)
  exact ⟨cs, fun a ha => by rw [List.getElem?_eq_getElem hi] at ha; cases ha; exact ⟨h1, h2⟩⟩)
 have hpick : ∀ i a, ms[i]? = some a → ∃ cs, ml[i]? = some cs ∧ (∀ j u, cs[j]? = some u → w.cell? ⟨g, o + i * K.size + j, none⟩ = some u) ∧ K.V (fun b => base ≤ b ∧ some b ≠ sv.ownBlock) w cs a := by
  intro i a ha
  have hi := (List.getElem?_eq_some_iff.1 ha).1
  have h1 : ml[i]? = some (ml[i]'(by omega)) := List.getElem?_eq_getElem _
  exact ⟨_, h1, hmp i _ h1 a ha⟩
 have hall : ∀ cs ∈ ml, cs.length = K.size := by
  intro cs hc
  obtain ⟨j, hj⟩ := List.getElem?_of_mem hc
  have hjl := (List.getElem?_eq_some_iff.1 hj).1
  obtain ⟨cs', e1, _, e2⟩ := hpick j (ms[j]'(by omega)) (List.getElem?_eq_getElem _)
  rw [hj] at e1
  cases e1
  exact K.len e2
 have hfew := K.few
 have hlt := ho.lt
 obtain ⟨v', w', h1, h2, h3, _, h5⟩ := run_append_own_at (P := Tryz.prog) w base K.t K.t K.e i0 z K.size K.bytes K.und hi hz0 hz1 hz2 hzc K.pos sv l.length cl.flatten ho ⟨g, o, none⟩ ms.length cc ml.flatten (by rw [flat_len ml hall, hml])
  (fun j u hu => by
   have hj := (List.getElem?_eq_some_iff.1 hu).1
   rw [flat_len ml hall, hml] at hj
   have hdiv : j / K.size < ms.length := Nat.div_lt_of_lt_mul (by rw [Nat.mul_comm]; exact hj)
   have hmod : j % K.size < K.size := Nat.mod_lt _ K.pos
   have hjj : j / K.size * K.size + j % K.size = j := by rw [Nat.mul_comm]; exact Nat.div_add_mod j K.size
   obtain ⟨cs, e1, e2, e3⟩ := hpick (j / K.size) (ms[j / K.size]) (List.getElem?_eq_getElem hdiv)
   have e4 := flat_at ml (j / K.size) (j % K.size) cs hall e1 hmod
   rw [hjj, hu] at e4
   have e5 := e2 _ _ e4.symm
   rw [Addr.add_lit]
   rw [Nat.add_assoc, hjj] at e5
   exact e5)
  (fun u hu => by
   obtain ⟨cs, hc, hu2⟩ := List.mem_flatten.1 hu
   obtain ⟨j, hj⟩ := List.getElem?_of_mem hc
   have hjl := (List.getElem?_eq_some_iff.1 hj).1
   obtain ⟨cs', e1, _, e2⟩ := hpick j (ms[j]'(by omega)) (List.getElem?_eq_getElem _)
   rw [hj] at e1
   cases e1
   exact K.one e2 u hu2)
  Q66 (by have : (l.length + ms.length) * K.bytes ≤ 200000 * 1000 := Nat.mul_le_mul (by omega) hfew; omega) hbase
 have hstep : ∀ b, (base ≤ b ∧ some b ≠ sv.ownBlock) → b < w.heap.size → (base ≤ b ∧ some b ≠ v'.ownBlock) ∧ w'.heap[b]? = w.heap[b]? := fun b hX hb => ⟨⟨hX.1, fun e => by
  rcases h5 with h | h
  · exact hX.2 (e.trans h)
  · rw [h] at e; have := Option.some.inj e; omega⟩, by rw [h3.block b hb hX.2]⟩
 refine ⟨v', w', h1, ⟨cl ++ ml, by simp [hl, hml], by rw [List.flatten_append, List.length_append]; exact h2, fun i a ha => ?_⟩, h3, h5⟩
 rw [List.getElem?_append] at ha
 split at ha
 · rename_i hi
   obtain ⟨cs, e1, e2⟩ := hd i a ha
   exact ⟨cs, by rw [List.getElem?_append_left (by omega)]; exact e1, K.move hstep e2⟩
 · rename_i hi
   obtain ⟨cs, e1, _, e2⟩ := hpick (i - l.length) a ha
   exact ⟨cs, by rw [List.getElem?_append_right (by omega), hl]; exact e1, K.move hstep e2⟩
theorem flatten_two : ∀ (l : List (List Tm)), (∀ x ∈ l, x.length = 2) → l.flatten.length = 2 * l.length
 | [], _ => rfl
 | x :: l, h => by
  have h1 := flatten_two l (fun y hy => h y (List.mem_cons_of_mem _ hy))
  have h2 := h x (List.mem_cons_self ..)
  rw [List.flatten_cons, List.length_append, h1, h2, List.length_cons]; omega
theorem take_flat {l : List (List Tm)} {m : Nat} {x : List Tm} (h : l[m]? = some x) : (l.take (m + 1)).flatten = (l.take m).flatten ++ x := by
 rw [List.take_add_one, h]
 simp
theorem matR_any (r E g d : Nat) (hd : d + g = 41) (IH : ExprC r E g d) (ts : Ts) (w : World) (hR : Rd r E w ts) : Calls Tryz.prog 133 #[rp r, .int .i64 (d : Nat)] w (Got r E TmV w (matP E (patP E g) (exprP E g) ts)) := by
 have HIH := Hd IH
 have HI : RowKit.Hid (∀ ts W, Rd r E W ts → Calls Tryz.prog 72 #[rp r, .int .i64 (d : Nat)] W (Got r E TmV W (exprP E g ts))) := Hd IH
 have HM := Hd (armP_mono (E := E) (patP_mono E g) (exprP_mono E g))
 have HCF : RowKit.Hid (∀ W, (callFunc 184 #[bp w.heap.size, bp (w.heap.size + 1)]).run Tryz.prog W = .ok (.enter 184 #[bp w.heap.size, bp (w.heap.size + 1)]) W) := Hd (fun W => by kernel_rfl)
 clear IH
 have HR0 := Hd hR
 have hrl := hR.lt
 have HG0 : RowKit.Hid (Rg r w w) := Hd (Rg.refl r w)
 obtain ⟨S, hS⟩ : ∃ S, S = matP E (patP E g) (exprP E g) ts := ⟨_, rfl⟩
 have HS0 := Hd hS
 rw [← hS]
 unfold matP at HS0
 clear hR hS
 go_enter Tryz.func133, Tryz.ntmps133
 go_upto_region 1 with (fail)
 obtain ⟨c0, c1, c2, hz3, hb3⟩ := boxes3 w (.cells #[rp r] 107) (.cells #[.int .i64 (d : Nat)] 3) (.cells #[.int .i64 0, .string ⟨#[]⟩, .string ⟨#[]⟩, .int .i64 0, .slice none 0 0] 24)
 generalize hW1 : ((w.alloc (.cells #[rp r] 107)).alloc (.cells #[.int .i64 (d : Nat)] 3)).alloc (.cells #[.int .i64 0, .string ⟨#[]⟩, .string ⟨#[]⟩, .int .i64 0, .slice none 0 0] 24) = W1 at *
 have HBr1 := Hd c0
 have HBd1 := Hd c1
 have HBx1 := Hd c2
 have HR1 : RowKit.Hid (Rd r E W1 ts) := Hd (HR0.out.below hb3)
 have HG1 : RowKit.Hid (Rg r w W1) := Hd (Rg.of_below hb3)
 have HS1 := HS0
 have x0 := hb_at c0 0 rfl
 have x1 := hb_at c1 0 rfl
 have q0 := hb_lt c0
 have q1 := hb_lt c1
 have q2 := hb_lt c2
 clear hW1 c0 c1 c2 hb3
 go_upto_region 5 with (first
  | (go_at_call 72; (with_reducible refine (HI.out _ _ Q14).mono ?_); rintro e w2 h2; rcases h2.step HS1.out with ⟨v2, a2, ts2, rfl, hV, hR, hg, hS, hx⟩ | ⟨y, rfl, hg, hSE⟩; rotate_left; (have hGE : Rg r w w2 := Q5); rotate_left; (obtain ⟨k2, p2, n2, N2, q2, l2, c2, rfl⟩ := hV.shape; have HV2 := Hd hV); (have HR2 := Hd hR; have HG2 : RowKit.Hid (Rg r w w2) := Hd Q5; have HS2 := Hd hS; have HX2 := Hd hx; have HD2 := Hd hg; clear hR hg hS hx hV); (have HBr2 := Hd (HD2.out.keep HBr1.out (by omega))); (have HBd2 := Hd (HD2.out.keep HBd1.out (by omega))); (have HBx2 := Hd (HD2.out.keep HBx1.out (by omega))); have u2a := hb_at HBr2.out 0 rfl; have u2b := hb_at HBd2.out 0 rfl; have u2c := hb_lt HBr2.out; have u2d := hb_lt HBd2.out; have u2e := hb_lt HBx2.out; obtain ⟨x20, x21, x22, x23, x24, y20, y21, y22, y23, y24⟩ := box5 HBx2.out)
  | (go_at_call 182; (with_reducible refine (key_any r E kWith _ _ Q15).mono ?_); rintro e w3 h3; rcases h3.step HS2.out with ⟨v3, a3, ts3, rfl, hV, hR, hg, hS, hx⟩ | ⟨y, rfl, hg, hSE⟩; rotate_left; (have hGE : Rg r w w3 := Q4); rotate_left; (obtain rfl := hV); (have HR3 := Hd hR; have HG3 : RowKit.Hid (Rg r w w3) := Hd Q4; have HS3 := Hd hS; have HX3 := Hd hx; have HD3 := Hd hg; clear hR hg hS hx); (have HBr3 := Hd (HD3.out.keep (hb_alloc HBr2.out _) (by omega))); (have HBd3 := Hd (HD3.out.keep (hb_alloc HBd2.out _) (by omega))); (have HBx3 := Hd (HD3.out.keep (hb_alloc HBx2.out _) (by omega))); have u3a := hb_at HBr3.out 0 rfl; have u3b := hb_at HBd3.out 0 rfl; have u3c := hb_lt HBr3.out; have u3d := hb_lt HBd3.out; have u3e := hb_lt HBx3.out; obtain ⟨x30, x31, x32, x33, x34, y30, y31, y32, y33, y34⟩ := box5 HBx3.out; (have HK3 : RowKit.Hid (RowG termK W1.heap.size w3 (.slice (some ⟨w2.heap.size, 0, none⟩) 1 1) [a2]) := Hd (by obtain ⟨D, h⟩ := HV2.out; exact (RowG.one (K := termK) (base := W1.heap.size) (cs := [.int .i64 k2, .string p2, .string n2, .int .i64 N2, .slice q2 l2 c2]) ⟨_, _, _, _, _, D, rfl, h⟩ HD2.out.size _ rfl).move fun b hb hl => HD3.out.same hl (by omega))))
  | (go_at_call 183; (with_reducible refine (several_l r E sBar (armP E (patP E g) (exprP E g)) 184 _ _ _ Q18 HM.out HCF.out (match1_any r E g d hd HIH.out _ _ w3 HBr3.out HBd3.out (by omega) (by omega))).mono ?_); rintro e w4 h4; rcases h4.step HS3.out with ⟨v4, a4, ts4, rfl, hV, hR, hg, hS, hx⟩ | ⟨y, rfl, hg, hSE⟩; rotate_left; (have hGE : Rg r w w4 := Q8); rotate_left; (obtain ⟨q4, c4, hv⟩ := hV.1.shape; subst hv; have HV4 := Hd hV); (have HR4 := Hd hR; have HG4 : RowKit.Hid (Rg r w w4) := Hd Q8; have HS4 := Hd hS; have HX4 := Hd hx; have HD4 := Hd hg; clear hR hg hS hx hV); (have HBr4 := Hd (HD4.out.keep HBr3.out (by omega))); (have HBd4 := Hd (HD4.out.keep HBd3.out (by omega))); (have HBx4 := Hd (HD4.out.keep HBx3.out (by omega))); have u4a := hb_at HBr4.out 0 rfl; have u4b := hb_at HBd4.out 0 rfl; have u4c := hb_lt HBr4.out; have u4d := hb_lt HBd4.out; have u4e := hb_lt HBx4.out; obtain ⟨x40, x41, x42, x43, x44, y40, y41, y42, y43, y44⟩ := box5 HBx4.out; have HK4 := Hd (HK3.out.move fun b hb hl => HD4.out.same hl (by omega)))
  | (go_at_call 182; (with_reducible refine (key_any r E kEnd _ _ Q17).mono ?_); rintro e w5 h5; rcases h5.step HS4.out with ⟨v5, a5, ts5, rfl, hV, hR, hg, hS, hx⟩ | ⟨y, rfl, hg, hSE⟩; rotate_left; (have hGE : Rg r w w5 := Q6); rotate_left; (obtain rfl := hV); (have HR5 := Hd hR; have HG5 : RowKit.Hid (Rg r w w5) := Hd Q6; have HS5 := Hd hS; have HX5 := Hd hx; have HD5 := Hd hg; clear hR hg hS hx); (have HBr5 := Hd (HD5.out.keep HBr4.out (by omega))); (have HBd5 := Hd (HD5.out.keep HBd4.out (by omega))); (have HBx5 := Hd (HD5.out.keep HBx4.out (by omega))); have u5a := hb_at HBr5.out 0 rfl; have u5b := hb_at HBd5.out 0 rfl; have u5c := hb_lt HBr5.out; have u5d := hb_lt HBd5.out; have u5e := hb_lt HBx5.out; obtain ⟨x50, x51, x52, x53, x54, y50, y51, y52, y53, y54⟩ := box5 HBx5.out; have HK5 := Hd (HK4.out.move fun b hb hl => HD5.out.same hl (by omega))))
 all_goals first | exact ⟨rfl, hGE, rfl⟩ | exact ⟨rfl, hGE, by rw [hSE]⟩ | skip
 have hz2 := HD2.out.size
 have hz3 : w2.heap.size + 1 ≤ w3.heap.size := by have h := HD3.out.size; rw [World.size_alloc] at h; exact h
 have hz4 := HD4.out.size
 have hz5 := HD5.out.size
 have HA : RowKit.Hid (SlG listK (fun b => w3.heap.size ≤ b) w5 (.slice q4 a4.length c4) a4) := Hd (HV4.out.1.all fun b hb hl => HD5.out.same hl (by omega))
 have hal := HV4.out.2
 go_wp2
 go_loopw [5, 8, 22] (fun kv av iv wr => ∃ (m : Nat) (acc : List Tm), iv = .int .i64 m ∧ m ≤ a4.length ∧ acc = a2 :: (a4.take m).flatten ∧ RowG termK W1.heap.size wr kv acc ∧ (∀ g, kv.ownBlock = some g → g = w2.heap.size ∨ w5.heap.size ≤ g) ∧ Rg w2.heap.size w5 wr) (fun _ _ iv _ => a4.length - (intOf iv).toNat)
 case atStart =>
  exact ⟨0, [a2], rfl, by omega, rfl, HK5.out, fun g hg => .inl (by cases hg; rfl), Rg.refl _ _⟩
 case round =>
  obtain ⟨m, acc, rfl, hm, hacc, hrow, hown, hg⟩ := hrel
  have h2 : ∀ x ∈ a4, x.length = 2 := by
   intro x hx
   obtain ⟨j, hj⟩ := List.getElem?_of_mem hx
   obtain ⟨q, c, _, hel⟩ := HA.out
   obtain ⟨_, _, _, _, _, _, _, _, _, hl⟩ := hel j x hj
   exact hl
  have hlen : acc.length = 1 + 2 * m := by
   rw [hacc, List.length_cons, flatten_two _ (fun x hx => h2 x (List.mem_of_mem_take hx)), List.length_take, Nat.min_eq_left hm]
   omega
  have HLEN := Hd hlen
  have H2 := Hd h2
  have HACC := Hd hacc
  have HROW := Hd hrow
  have HOWN := Hd hown
  have HGW := Hd hg
  have hzr := hg.size
  obtain ⟨kq, kc, hkv⟩ := hrow.shape
  subst hkv
  clear hrow hown hg hacc hlen h2
  by_cases hlt : m < a4.length
  · have hki : (m : Int) < (a4.length : Int) := by omega
    have hw1 : IntKind.i64.wrap ((m : Int) + 1) = (m : Int) + 1 := IntWalk.i64_in _ (by omega)
    obtain ⟨l, hl⟩ : ∃ l, a4[m]? = some l := ⟨a4[m], List.getElem?_eq_getElem hlt⟩
    obtain ⟨q, c, hq, hel⟩ := HA.out
    obtain ⟨b, o, cs, hqb, hb3, hc, s, hcs, hsl, hl2⟩ := hel m l hl
    subst hcs
    cases hq
    subst hqb
    obtain ⟨x, y, hxy⟩ : ∃ x y, l = [x, y] := by
     match l, hl2 with
     | [x, y], _ => exact ⟨x, y, rfl⟩
    subst hxy
    clear hl2
    obtain ⟨sq, sc, hs, hmem⟩ := hsl
    have hs2 : s = .slice sq 2 sc := hs
    subst hs2
    clear hs
    have hb3' : w3.heap.size ≤ b := hb3
    have e0 : o + m * listK.size + 0 = o + m := by show o + m * 1 + 0 = o + m; omega
    have hcell := hc 0 _ rfl
    rw [e0] at hcell
    have hbl : b < w5.heap.size := block_lt_of_cell hcell
    have x0 := HGW.out.cell hcell (by omega)
    have hbl2 : b < wr.heap.size := by omega
    obtain ⟨g0, o0, _, hsq, hg0, _⟩ := hmem 0 x rfl
    have hg0' : w3.heap.size ≤ g0 := hg0
    subst hsq
    obtain ⟨v', w6, hrun, hrow2, hgr, hblk⟩ := RowG.append2 (K := termK) (ms := [x, y]) HROW.out (by omega) (g := g0) (o := o0) (cc := sc) (fun i z hz => by
     obtain ⟨b', o', cs', e', hb', hc', hV'⟩ := hmem i z hz
     obtain ⟨rfl, rfl⟩ : g0 = b' ∧ o0 = o' := by cases e'; exact ⟨rfl, rfl⟩
     have hb2' : w3.heap.size ≤ g0 := hb'
     have hbw : g0 < w5.heap.size := block_lt_of_cell (hc' 0 (cs'[0]'(by have h := termK.len hV'; rw [h]; decide)) (List.getElem?_eq_getElem _))
     refine ⟨cs', fun j u hu => HGW.out.cell (hc' j u hu) (by omega), termK.move (fun b1 hb1 hl1 => by
      have hb2 : w3.heap.size ≤ b1 := hb1
      refine ⟨⟨by omega, fun e => ?_⟩, HGW.out.same hl1 (by omega)⟩
      have := HOWN.out b1 e.symm
      omega) hV'⟩) (by have := HLEN.out; omega) (by simp)
    have hgo : ∀ g, Value.ownBlock (.slice kq acc.length kc) = some g → g = w2.heap.size ∨ w5.heap.size ≤ g := HOWN.out
    obtain ⟨vq, vc, hv⟩ := hrow2.shape
    subst hv
    have hlen2 : (acc ++ [x, y]).length = acc.length + 2 := by simp
    rw [hlen2] at hrow2 hblk hrun
    clear hlen2
    have HRUN : RowKit.Hid ((Builtin.append_ #[22, 22] 22 #[.slice kq acc.length kc, .slice (some ⟨g0, o0, none⟩) 2 sc]).run Tryz.prog wr = .ok _ w6) := Hd hrun
    have HROW2 := Hd hrow2
    have HGR := Hd hgr
    have HBLK := Hd hblk
    have HL := Hd hl
    have hz6 := hgr.size
    clear hrun hrow2 hgr hblk hel hmem hc hl hgo
    go_wp2_with (at_builtin; refine (fun h : True → _ => h trivial) ?_)
    intro _
    refine wpList_append_at rfl _ _ rfl rfl rfl rfl HRUN.out ?_
    go_wp2
    refine ⟨⟨m + 1, acc ++ [x, y], by simp, by omega, ?_, HROW2.out, ?_, ?_⟩, by simp [intOf]; omega⟩
    · rw [HACC.out, take_flat HL.out]; rfl
    · intro g hg
      rcases HBLK.out with h | h
      · exact HOWN.out g (h ▸ hg)
      · rw [hg] at h; have := Option.some.inj h; omega
    · refine ⟨HGR.out.os.trans HGW.out.os, HGR.out.tape.trans HGW.out.tape, HGR.out.output.trans HGW.out.output, Nat.le_trans HGW.out.size HGR.out.size, fun k hk hne => ?_⟩
      rw [HGR.out.block k (by omega) (fun e => ?_)]
      · exact HGW.out.block k hk hne
      · rcases HOWN.out k e.symm with h | h
        · exact hne (by rw [h])
        · omega
  · have hki : ¬ (m : Int) < (a4.length : Int) := by omega
    obtain rfl : m = a4.length := by omega
    have HBxr := Hd (HGW.out.keep HBx5.out (by omega))
    obtain ⟨x0, x1, x2, x3, x4, y0, y1, y2, y3, y4⟩ := box5 HBxr.out
    have zx := hb_lt HBxr.out
    go_wp2
    have hS : S = .ok (.mk 29 e0 e0 0 acc, ts5) := by rw [HACC.out, List.take_length]; exact HS5.out
    exact fin5 (w0 := w) rfl rfl rfl HBxr.out (by omega) (HG5.out.grown HGW.out (fun k hk => by cases hk; omega)) hrl (HR5.out.grown HGW.out (fun k hk => by cases hk; omega)) hS W1.heap.size (by omega) (by omega) (kids_of (HROW.out.all fun _ _ _ => rfl) (by have := HLEN.out; omega) (by decide) (by decide))
theorem run_append_zero {P : Program} {w : World} (t ty e : TypeId) (i : TypeInfo) (ht : P.underlying t = some (.slice e)) (hi : P.info? e = some i) (ao : Option Addr) (n cap : Nat) (hnc : n ≤ cap) (a : Addr) (c : Nat) :
 (Builtin.append_ #[t, t] ty #[.slice ao n cap, .slice (some a) 0 c]).run P w = .ok (.slice ao n cap) w := by
 cases ao <;> simp [Builtin.append_, run_underlying ht, sizeOf, typeInfo, hi, Builtin.lenOf, Builtin.firstCells, hnc, storeCells, loadCells, loadCellsFrom]
theorem run_append_zero0 {P : Program} {w : World} (t ty e : TypeId) (i : TypeInfo) (ht : P.underlying t = some (.slice e)) (hi : P.info? e = some i) (ao : Option Addr) (n cap : Nat) (hnc : n ≤ cap) :
 (Builtin.append_ #[t, t] ty #[.slice ao n cap, .slice none 0 0]).run P w = .ok (.slice ao n cap) w := by
 cases ao <;> simp [Builtin.append_, run_underlying ht, sizeOf, typeInfo, hi, Builtin.lenOf, Builtin.firstCells, hnc, storeCells, loadCells, loadCellsFrom]
theorem step_append37 {w w' : World} {ops : Array Oper} {o : Oper} {a : Act} {K : Act → World → Prop} {Q : Exit → Act → World → Prop} {E : Prop} (hgd : o.guard = none) (s x : Operand)
 (ho : o.op = .call { callee := .builtin .append, args := #[s, x], argTypes := #[22, 22] }) (hty : o.type = 22) {v vx v' : Value} (hs : a.eval s = v) (hx : a.eval x = vx)
 (hrun : (Builtin.append_ #[22, 22] 22 #[v, vx]).run Tryz.prog w = .ok v' w') (h : K (a.put o.dst v') w') : if Region.wanted o (yielded ops a.tmps) = true then Oper.wp Tryz.prog o a w K Q else E := by
 have hw : Region.wanted o (yielded ops a.tmps) = true := by simp [Region.wanted, hgd]
 rw [if_pos hw]
 unfold Oper.wp execOp
 simp only [ho, hty, resolve, invoke, builtin, Sem.run_bind, Sem.run_pure, Result.andThen_ok, List.map_toArray, List.map_cons, List.map_nil, hs, hx, hrun]
 exact h
theorem RowG.two {base : Nat} {w : World} {k1 N1 k2 N2 : Int} {p1 n1 p2 n2 : ByteArray} {s1 s2 : Value} {t1 t2 : Tm} (h1 : termK.V (fun b => base ≤ b) w [.int .i64 k1, .string p1, .string n1, .int .i64 N1, s1] t1)
 (h2 : termK.V (fun b => base ≤ b) w [.int .i64 k2, .string p2, .string n2, .int .i64 N2, s2] t2) (hb : base ≤ w.heap.size) :
 RowG termK base (w.alloc (.cells #[.int .i64 k1, .string p1, .string n1, .int .i64 N1, s1, .int .i64 k2, .string p2, .string n2, .int .i64 N2, s2] 24)) (.slice (some ⟨w.heap.size, 0, none⟩) 2 2) [t1, t2] := by
 have hstep : ∀ b, base ≤ b → b < w.heap.size → (base ≤ b ∧ some b ≠ Value.ownBlock (.slice (some ⟨w.heap.size, 0, none⟩) 2 2)) ∧ (w.alloc (.cells #[.int .i64 k1, .string p1, .string n1, .int .i64 N1, s1, .int .i64 k2, .string p2, .string n2, .int .i64 N2, s2] 24)).heap[b]? = w.heap[b]? :=
  fun b hX hlt => ⟨⟨hX, fun e => by simp [Value.ownBlock] at e; omega⟩, Below.heap_alloc w _ b hlt⟩
 refine ⟨[[.int .i64 k1, .string p1, .string n1, .int .i64 N1, s1], [.int .i64 k2, .string p2, .string n2, .int .i64 N2, s2]], rfl, ⟨rfl, .inr ⟨_, 2, _, rfl, hb, heap_alloc_new w _, Nat.le_refl _, by decide, rfl, rfl⟩⟩, fun i x hx => ?_⟩
 match i, hx with
 | 0, hx =>
  obtain rfl : t1 = x := by simpa using hx
  exact ⟨_, rfl, termK.move hstep h1⟩
 | 1, hx =>
  obtain rfl : t2 = x := by simpa using hx
  exact ⟨_, rfl, termK.move hstep h2⟩
 | i + 2, hx => simp at hx
theorem app_ann {W wa : World} {base : Nat} {q : Option Addr} {n c : Nat} {l : List Tm} (h : RowG termK base W (.slice q n c) l) (hbase : base ≤ W.heap.size) (hnc : n ≤ c) (va : Value) (ann : List Tm) (hA : LsV wa W va ann)
 (hA2 : SlG termK (fun b => base ≤ b ∧ some b ≠ Value.ownBlock (.slice q n c)) W va ann) (hn : l.length ≤ 10000) :
 ∃ q' c' w', (Builtin.append_ #[22, 22] 22 #[.slice q n c, va]).run Tryz.prog W = .ok (.slice q' (l ++ ann).length c') w' ∧ RowG termK base w' (.slice q' (l ++ ann).length c') (l ++ ann) ∧ W.grownBy w' (Value.ownBlock (.slice q n c)) := by
 obtain ⟨i0, hi, _⟩ := info_parts termK.inf.choose_spec.1
 have hlen : n = l.length := by obtain ⟨q2, c2, e⟩ := h.shape; cases e; rfl
 cases ann with
 | nil =>
  obtain ⟨⟨cl, hcl, ⟨_, ho⟩, _⟩, _⟩ := hA
  refine ⟨q, c, W, ?_, ?_, ⟨rfl, rfl, rfl, Nat.le_refl _, fun _ _ _ => rfl⟩⟩
  · rw [List.append_nil, ← hlen]
    rcases ho with ⟨rfl, _⟩ | ⟨g, cap, cur, rfl, _⟩
    · exact run_append_zero0 22 22 24 i0 Tryz.underlying22 hi q n c hnc
    · exact run_append_zero 22 22 24 i0 Tryz.underlying22 hi q n c hnc _ _
  · rw [List.append_nil, ← hlen]; exact h
 | cons x ann =>
  obtain ⟨qa, ca, rfl, hel⟩ := hA2
  obtain ⟨b, o, cs, rfl, _, _, _⟩ := hel 0 x rfl
  obtain ⟨v', w', h1, h2, h3, _⟩ := RowG.append2 (K := termK) (ms := x :: ann) h hbase (g := b) (o := o) (cc := ca) (fun i a ha => by
   obtain ⟨b', o', cs', e, hb', hc', hV'⟩ := hel i a ha
   obtain ⟨rfl, rfl⟩ : b = b' ∧ o = o' := by cases e; exact ⟨rfl, rfl⟩
   exact ⟨cs', hc', hV'⟩) (by omega) (by have := hA.2; omega)
  obtain ⟨vq, vc, rfl⟩ := h2.shape
  exact ⟨vq, vc, w', h1, h2, h3⟩
theorem let_any (r E g d : Nat) (hd : d + g = 41) (IH : ExprC r E g d) (ts : Ts) (w : World) (hR : Rd r E w ts) : Calls Tryz.prog 132 #[rp r, .int .i64 (d : Nat)] w (Got r E TmV w (letP E (exprP E g) (typP E g) ts)) := by
 have HI : RowKit.Hid (∀ ts W, Rd r E W ts → Calls Tryz.prog 72 #[rp r, .int .i64 (d : Nat)] W (Got r E TmV W (exprP E g ts))) := Hd IH
 clear IH
 have HR0 := Hd hR
 have hrl := hR.lt
 have HG0 : RowKit.Hid (Rg r w w) := Hd (Rg.refl r w)
 obtain ⟨S, hS⟩ : ∃ S, S = letP E (exprP E g) (typP E g) ts := ⟨_, rfl⟩
 have HS0 := Hd hS
 rw [← hS]
 unfold letP at HS0
 clear hR hS
 have HK := Hd (fun W hW => skipKey_any r E kRec ts W hW)
 obtain ⟨N, tsN, hN⟩ : ∃ N tsN, (N, tsN) = (if isB 7 kRec ts then ((1 : Int), ts.tail) else (0, ts)) := ⟨_, _, rfl⟩
 have HSN : RowKit.Hid (S = letR E (exprP E g) (typP E g) N tsN) := Hd (by
  have h := HS0.out
  cases hB : isB 7 kRec ts with
  | true => rw [hB, if_pos rfl] at h hN; cases hN; exact h
  | false => rw [hB, if_neg (by decide)] at h hN; cases hN; exact h)
 clear HS0
 go_enter Tryz.func132, Tryz.ntmps132
 go_upto_region 2 with (fail)
 have c0 := hb_alloc (hb_new w (.cells #[.int .i64 0, .string ⟨#[]⟩, .string ⟨#[]⟩, .int .i64 0, .slice none 0 0] 24)) (.cells #[.int .i64 28, .string ⟨#[]⟩, .string ⟨#[]⟩, .int .i64 0, .slice none 0 0] 24)
 have c1 := hb_new (w.alloc (.cells #[.int .i64 0, .string ⟨#[]⟩, .string ⟨#[]⟩, .int .i64 0, .slice none 0 0] 24)) (.cells #[.int .i64 28, .string ⟨#[]⟩, .string ⟨#[]⟩, .int .i64 0, .slice none 0 0] 24)
 rw [World.size_alloc] at c1
 have hr1 := (HR0.out.alloc (.cells #[.int .i64 0, .string ⟨#[]⟩, .string ⟨#[]⟩, .int .i64 0, .slice none 0 0] 24)).alloc (.cells #[.int .i64 28, .string ⟨#[]⟩, .string ⟨#[]⟩, .int .i64 0, .slice none 0 0] 24)
 have hg1 := (HG0.out.alloc (.cells #[.int .i64 0, .string ⟨#[]⟩, .string ⟨#[]⟩, .int .i64 0, .slice none 0 0] 24)).alloc (.cells #[.int .i64 28, .string ⟨#[]⟩, .string ⟨#[]⟩, .int .i64 0, .slice none 0 0] 24)
 generalize (w.alloc (.cells #[.int .i64 0, .string ⟨#[]⟩, .string ⟨#[]⟩, .int .i64 0, .slice none 0 0] 24)).alloc (.cells #[.int .i64 28, .string ⟨#[]⟩, .string ⟨#[]⟩, .int .i64 0, .slice none 0 0] 24) = W1 at *
 have HBx1 := Hd c0
 have HBt1 := Hd c1
 have HR1 := Hd hr1
 have HG1 : RowKit.Hid (Rg r w W1) := Hd hg1
 clear c0 c1 hr1 hg1
 cases hB : isB 7 kRec ts <;> rw [hB] at HK hN
 · rw [if_neg (by decide)] at hN
   obtain ⟨rfl, rfl⟩ : N = 0 ∧ tsN = ts := by cases hN; exact ⟨rfl, rfl⟩
   clear hN hB
   go_upto_region 4 with (go_at_call 130; (with_reducible refine (HK.out _ HR1.out).mono ?_); rintro e w2 ⟨rfl, hg, hr⟩; have HD2 := Hd hg; have HG2 : RowKit.Hid (Rg r w w2) := Hd (HG1.out.trans hg); have HR2 : RowKit.Hid (Rd r E w2 tsN) := Hd hr; (have HBx2 := Hd (HD2.out.keep HBx1.out (by omega))); (have HBt2 := Hd (HD2.out.keep HBt1.out (by omega))); have zt2 := hb_lt HBt2.out; clear hg hr)
   have HS2 : RowKit.Hid (S = letR E (exprP E g) (typP E g) _ _) := HSN
   unfold letR at HS2
   go_upto_region 5 with ((go_at_call 180; (with_reducible refine (take_st r E 1 _ (by decide) _ Q15).mono ?_); rintro e w3 h3; rcases h3.step HS2.out with ⟨v3, a3, ts3, rfl, hV, hR, hg, hS, hx⟩ | ⟨y, rfl, hg, hSE⟩; rotate_left; (have hGE : Rg r w w3 := Q4); rotate_left; (obtain ⟨rfl, hst3⟩ := hV); (have HR3 := Hd hR; have HG3 : RowKit.Hid (Rg r w w3) := Hd Q4; have HS3 := Hd hS; have HX3 := Hd hx; have HD3 := Hd hg; clear hR hg hS hx); (have HBx3 := Hd (HD3.out.keep HBx2.out (by omega))); (have HBt3 := Hd (HD3.out.keep HBt2.out (by omega))); obtain ⟨m30, m31, m32, m33, m34, n30, n31, n32, n33, n34⟩ := box5 HBt3.out; have zt3 := hb_lt HBt3.out))
   all_goals first | exact ⟨rfl, hGE, rfl⟩ | exact ⟨rfl, hGE, by rw [hSE]⟩ | skip
   have hz3 := HD3.out.size
   have hz4 : (w3.setCell ⟨w.heap.size + 1, 2, none⟩ (.string a3)).heap.size = w3.heap.size := by simp [World.setCell]
   have c1 : (w3.setCell ⟨w.heap.size + 1, 2, none⟩ (.string a3)).heap[w.heap.size + 1]? = some (.cells #[.int .i64 28, .string ⟨#[]⟩, .string a3, .int .i64 _, .slice none 0 0] 24 (0, 0)) := hb_set_same HBt3.out 2 (.string a3)
   have c0 := hb_set_other HBx3.out (a := ⟨w.heap.size + 1, 2, none⟩) (.string a3) Q52
   have hr4 := HR3.out.set_new (g := w.heap.size + 1) (by omega) 2 (.string a3)
   have hg4 := HG3.out.set_new (g := w.heap.size + 1) (by omega) 2 (.string a3)
   have HS4 := HS3
   generalize w3.setCell ⟨w.heap.size + 1, 2, none⟩ (.string a3) = W4 at *
   have HBt4 := Hd c1
   have HBx4 := Hd c0
   have HR4 := Hd hr4
   have HG4 : RowKit.Hid (Rg r w W4) := Hd hg4
   have zt4 := hb_lt c1
   clear c0 c1 hr4 hg4 hz3
   go_upto_region 9 with (first
    | (go_at_call 181; (with_reducible refine (annotation_any r E g d hd _ _ Q17).mono ?_); rintro e w5 h5; rcases h5.step HS4.out with ⟨v5, a5, ts5, rfl, hV, hR, hg, hS, hx⟩ | ⟨y, rfl, hg, hSE⟩; rotate_left; (have hGE : Rg r w w5 := Q6); rotate_left; (obtain ⟨q5, c5, hv⟩ := hV.1.shape; subst hv; have HV5 := Hd hV; have HL5 := Hd hV.2); (have HR5 := Hd hR; have HG5 : RowKit.Hid (Rg r w w5) := Hd Q6; have HS5 := Hd hS; have HX5 := Hd hx; have HD5 := Hd hg; clear hR hg hS hx hV); (have HBx5 := Hd (HD5.out.keep HBx4.out (by omega))); (have HBt5 := Hd (HD5.out.keep HBt4.out (by omega))); have hz5 := HD5.out.size)
    | (go_at_call 125; (with_reducible refine (sign_any r E sEq _ _ Q22).mono ?_); rintro e w6 h6; rcases h6.step HS5.out with ⟨v6, a6, ts6, rfl, hV, hR, hg, hS, hx⟩ | ⟨y, rfl, hg, hSE⟩; rotate_left; (have hGE : Rg r w w6 := Q12); rotate_left; (obtain rfl := hV); (have HR6 := Hd hR; have HG6 : RowKit.Hid (Rg r w w6) := Hd Q12; have HS6 := Hd hS; have HX6 := Hd hx; have HD6 := Hd hg; clear hR hg hS hx); (have HBx6 := Hd (HD6.out.keep HBx5.out (by omega))); (have HBt6 := Hd (HD6.out.keep HBt5.out (by omega))); have hz6 := HD6.out.size)
    | (go_at_call 72; (with_reducible refine (HI.out _ _ Q20).mono ?_); rintro e w7 h7; rcases h7.step HS6.out with ⟨v7, a7, ts7, rfl, hV, hR, hg, hS, hx⟩ | ⟨y, rfl, hg, hSE⟩; rotate_left; (have hGE : Rg r w w7 := Q10); rotate_left; (obtain ⟨k7, p7, n7, N7, q7, l7, c7, rfl⟩ := hV.shape; have HV7 := Hd hV); (have HR7 := Hd hR; have HG7 : RowKit.Hid (Rg r w w7) := Hd Q10; have HS7 := Hd hS; have HX7 := Hd hx; have HD7 := Hd hg; clear hR hg hS hx hV); (have HBx7 := Hd (HD7.out.keep HBx6.out (by omega))); (have HBt7 := Hd (HD7.out.keep HBt6.out (by omega))); have hz7 := HD7.out.size)
    | (go_at_call 182; (with_reducible refine (key_any r E kIn _ _ Q21).mono ?_); rintro e w8 h8; rcases h8.step HS7.out with ⟨v8, a8, ts8, rfl, hV, hR, hg, hS, hx⟩ | ⟨y, rfl, hg, hSE⟩; rotate_left; (have hGE : Rg r w w8 := Q11); rotate_left; (obtain rfl := hV); (have HR8 := Hd hR; have HG8 : RowKit.Hid (Rg r w w8) := Hd Q11; have HS8 := Hd hS; have HX8 := Hd hx; have HD8 := Hd hg; clear hR hg hS hx); (have HBx8 := Hd (HD8.out.keep (hb_alloc HBx7.out _) (by omega))); (have HBt8 := Hd (HD8.out.keep (hb_alloc HBt7.out _) (by omega))); (have HBv8 := Hd (HD8.out.keep (hb_new _ _) (by omega))); obtain ⟨s0, s1, s2, s3, s4, _⟩ := box5 HBv8.out; have sv := hb_lt HBv8.out; (have hz8 : w7.heap.size + 1 ≤ w8.heap.size := (by have h := HD8.out.size; rw [World.size_alloc] at h; exact h))))
   all_goals first | exact ⟨rfl, hGE, rfl⟩ | exact ⟨rfl, hGE, by rw [hSE]⟩ | skip
   refine wp_region_any Q70 ?_
   try (change wpAny _ _ _ _ _ _ _ (World.drew _))
   refine wpAny_take (i := 1) (v := ?_) rfl Q70 Q70 Q70 (fun _ _ _ h => h) (Or.inl ⟨by rfl, ?_⟩) ?_
   rotate_left
   · intro w
     go_simp
     first | done | with_reducible rfl
   refine wpAny_take (i := 2) (v := ?_) rfl Q70 Q70 Q70 (fun _ _ _ h => h) (Or.inl ⟨by rfl, ?_⟩) ?_
   rotate_left
   · intro w
     go_simp
     first | done | with_reducible rfl
   refine wpAny_take (i := 5) (v := ?_) rfl Q70 Q70 Q70 (fun _ _ _ h => h) (Or.inl ⟨by rfl, ?_⟩) ?_
   rotate_left
   · intro w
     go_simp
     first | done | with_reducible rfl
   refine wpAny_ready (rs := [0, 3]) Q70 (by simp) ?_
   refine AllReady.cons rfl (fun K hK => ?_) (AllReady.cons rfl (fun K hK => ?_) AllReady.nil)
   · go_simp
     refine hK _ _ ?_
     clear hK K
     refine wpAny_ready (rs := [3]) Q70 (by simp) ?_
     refine AllReady.cons rfl (fun K hK => ?_) AllReady.nil
     go_simp
     go_wp2_with ((go_at_call 72; (with_reducible refine (HI.out _ _ Q19).mono ?_); rintro e w9 h9; rcases h9.step HS8.out with ⟨v9, a9, ts9, rfl, hV, hR, hg, hS, hx⟩ | ⟨y, rfl, hg, hSE⟩; rotate_left; (have hGE : Rg r w w9 := Q9; subst hSE; exact ⟨rfl, hGE, rfl⟩); (obtain ⟨k9, p9, n9, N9, q9, l9, c9, rfl⟩ := hV.shape; have HV9 := Hd hV); (have HR9 := Hd hR; have HG9 : RowKit.Hid (Rg r w w9) := Hd Q9; have HS9 := Hd hS; have HX9 := Hd hx; have HD9 := Hd hg; clear hR hg hS hx hV); (have HBx9 := Hd (HD9.out.keep HBx8.out (by omega))); (have HBt9 := Hd (HD9.out.keep HBt8.out (by omega))); (have HBv9 := Hd (HD9.out.keep HBv8.out (by omega))); obtain ⟨u0, u1, u2, u3, u4, _⟩ := box5 HBv9.out; have su := hb_lt HBv9.out; (have hz9 : w8.heap.size ≤ w9.heap.size := HD9.out.size); (have hv7 : termK.V (fun b => W4.heap.size ≤ b) w9 [.int .i64 k7, .string p7, .string n7, .int .i64 N7, .slice q7 l7 c7] a7 := (by obtain ⟨D, h⟩ := HV7.out; exact ⟨_, _, _, _, _, D, rfl, h.move fun b hb hl => by
               have hb' : w6.heap.size ≤ b := hb
               refine ⟨by omega, ?_⟩
               rw [HD9.out.same Q58 (by omega)]
               show w8.heap[b]? = _
               rw [HD8.out.same Q57 (by omega), Below.heap_alloc _ _ _ hl]⟩)); (have hv9 : termK.V (fun b => W4.heap.size ≤ b) w9 [.int .i64 k9, .string p9, .string n9, .int .i64 N9, .slice q9 l9 c9] a9 := (by obtain ⟨D, h⟩ := HV9.out; exact ⟨_, _, _, _, _, D, rfl, h.move fun b hb hl => by
               have hb' : w8.heap.size ≤ b := hb
               exact ⟨by omega, rfl⟩⟩)); (have hrow9 := RowG.two hv7 hv9 (by omega)); (have hst9 : ∀ b, W4.heap.size ≤ b → b < w5.heap.size → (w9.alloc (.cells #[.int .i64 k7, .string p7, .string n7, .int .i64 N7, .slice q7 l7 c7, .int .i64 k9, .string p9, .string n9, .int .i64 N9, .slice q9 l9 c9] 24)).heap[b]? = w5.heap[b]? := (by
               intro b hb hl
               rw [Below.heap_alloc _ _ _ (by omega), HD9.out.same Q58 (by omega)]
               show w8.heap[b]? = _
               rw [HD8.out.same Q57 (by omega), Below.heap_alloc _ _ _ (by omega), HD7.out.same (by omega) (by omega), HD6.out.same hl (by omega)])); (obtain ⟨q10, c10, w10, hu, hrow10, hgr10⟩ := app_ann (wa := W4) hrow9 Q57 (Nat.le_refl _) (.slice q5 a5.length c5) a5 ⟨HV5.out.1.move hst9, HV5.out.2⟩ (HV5.out.sl.move fun b hb hl => ⟨⟨hb, fun e => by have e2 : some b = some w9.heap.size := e; have e3 := Option.some.inj e2; have hl2 : b < w5.heap.size := hl; omega⟩, hst9 b hb hl⟩) (by simp)); (have hlen10 : ([a7, a9] ++ a5).length = a5.length + 2 := (by simp)); rw [hlen10] at hu hrow10; (have hgo : ∀ k, Value.ownBlock (.slice (some ⟨w9.heap.size, 0, none⟩) 2 2) = some k → k = w9.heap.size := fun k hk => (by cases hk; rfl)); (have HBx10 := Hd (hb_grown (hb_alloc HBx9.out _) hgr10 (fun e => by have := hgo _ e.symm; omega))); (have HBt10 := Hd (hb_grown (hb_alloc HBt9.out _) hgr10 (fun e => by have := hgo _ e.symm; omega))); (have HR10 : RowKit.Hid (Rd r E w10 ts9) := Hd ((HR9.out.alloc _).grown hgr10 (fun k hk => by have := hgo k hk; omega))); (have HG10 : RowKit.Hid (Rg r w w10) := Hd ((HG9.out.alloc _).grown hgr10 (fun k hk => by have := hgo k hk; omega))); (have HROW10 := Hd hrow10); (have hz10 : w9.heap.size < w10.heap.size := Q46); clear hv7 hv9 hrow9 hst9 hrow10 hgr10 hlen10 hgo; obtain ⟨e0, e1, e2, e3, e4, f0, f1, f2, f3, f4⟩ := box5 HBt10.out; obtain ⟨g0, g1, g2, g3, g4, i0, i1, i2, i3, i4⟩ := box5 HBx10.out; have zt10 := hb_lt HBt10.out; have zx10 := hb_lt HBx10.out))
     try (refine hK _ _ ?_; clear hK K)
     refine wpAny_ready (rs := [4]) Q70 (by simp) ?_
     refine AllReady.cons rfl (fun K hK => ?_) AllReady.nil
     go_simp
     refine hK _ _ ?_
     clear hK K
     refine wpAny_ready (rs := [6]) Q70 (by simp) ?_
     refine AllReady.cons rfl (fun K hK => ?_) AllReady.nil
     refine step_append37 rfl _ _ rfl rfl rfl rfl hu ?_
     refine hK _ _ ?_
     clear hK K
     refine wpAny_take (i := 7) (v := ?_) rfl Q70 Q70 Q70 (fun _ _ _ h => h) (Or.inl ⟨by rfl, ?_⟩) ?_
     rotate_left
     · intro w
       go_simp
       first | done | with_reducible rfl
     refine wpAny_ready (rs := [8]) Q70 (by simp) ?_
     refine AllReady.cons rfl (fun K hK => ?_) AllReady.nil
     go_simp
     refine hK _ _ ?_
     clear hK K
     refine wpAny_done Q70 ?_ _
     go_wp2
     exact fin5 (w0 := w) (W := w10.setCell ⟨w.heap.size + 1, 4, none⟩ (.slice q10 (a5.length + 2) c10)) rfl rfl rfl (hb_set_other HBx10.out (a := ⟨w.heap.size + 1, 4, none⟩) _ Q52) (Nat.le_refl _) (HG10.out.set_new (g := w.heap.size + 1) (by omega) 4 _) hrl (HR10.out.set_new (g := w.heap.size + 1) (by omega) 4 _) HS9.out W4.heap.size (by omega) (by omega) (kids_of (HROW10.out.all fun b hb hl => Below.heap_setCell _ _ _ _ (by show b ≠ w.heap.size + 1; omega)) (by have := HV5.out.2; simp; omega) (by decide) hst3)
   · go_simp
     go_wp2_with ((go_at_call 72; (with_reducible refine (HI.out _ _ Q19).mono ?_); rintro e w9 h9; rcases h9.step HS8.out with ⟨v9, a9, ts9, rfl, hV, hR, hg, hS, hx⟩ | ⟨y, rfl, hg, hSE⟩; rotate_left; (have hGE : Rg r w w9 := Q9; subst hSE; exact ⟨rfl, hGE, rfl⟩); (obtain ⟨k9, p9, n9, N9, q9, l9, c9, rfl⟩ := hV.shape; have HV9 := Hd hV); (have HR9 := Hd hR; have HG9 : RowKit.Hid (Rg r w w9) := Hd Q9; have HS9 := Hd hS; have HX9 := Hd hx; have HD9 := Hd hg; clear hR hg hS hx hV); (have HBx9 := Hd (HD9.out.keep HBx8.out (by omega))); (have HBt9 := Hd (HD9.out.keep HBt8.out (by omega))); (have HBv9 := Hd (HD9.out.keep HBv8.out (by omega))); obtain ⟨u0, u1, u2, u3, u4, _⟩ := box5 HBv9.out; have su := hb_lt HBv9.out; (have hz9 : w8.heap.size ≤ w9.heap.size := HD9.out.size); (have hv7 : termK.V (fun b => W4.heap.size ≤ b) w9 [.int .i64 k7, .string p7, .string n7, .int .i64 N7, .slice q7 l7 c7] a7 := (by obtain ⟨D, h⟩ := HV7.out; exact ⟨_, _, _, _, _, D, rfl, h.move fun b hb hl => by
               have hb' : w6.heap.size ≤ b := hb
               refine ⟨by omega, ?_⟩
               rw [HD9.out.same Q58 (by omega)]
               show w8.heap[b]? = _
               rw [HD8.out.same Q57 (by omega), Below.heap_alloc _ _ _ hl]⟩)); (have hv9 : termK.V (fun b => W4.heap.size ≤ b) w9 [.int .i64 k9, .string p9, .string n9, .int .i64 N9, .slice q9 l9 c9] a9 := (by obtain ⟨D, h⟩ := HV9.out; exact ⟨_, _, _, _, _, D, rfl, h.move fun b hb hl => by
               have hb' : w8.heap.size ≤ b := hb
               exact ⟨by omega, rfl⟩⟩)); (have hrow9 := RowG.two hv7 hv9 (by omega)); (have hst9 : ∀ b, W4.heap.size ≤ b → b < w5.heap.size → (w9.alloc (.cells #[.int .i64 k7, .string p7, .string n7, .int .i64 N7, .slice q7 l7 c7, .int .i64 k9, .string p9, .string n9, .int .i64 N9, .slice q9 l9 c9] 24)).heap[b]? = w5.heap[b]? := (by
               intro b hb hl
               rw [Below.heap_alloc _ _ _ (by omega), HD9.out.same Q58 (by omega)]
               show w8.heap[b]? = _
               rw [HD8.out.same Q57 (by omega), Below.heap_alloc _ _ _ (by omega), HD7.out.same (by omega) (by omega), HD6.out.same hl (by omega)])); (obtain ⟨q10, c10, w10, hu, hrow10, hgr10⟩ := app_ann (wa := W4) hrow9 Q57 (Nat.le_refl _) (.slice q5 a5.length c5) a5 ⟨HV5.out.1.move hst9, HV5.out.2⟩ (HV5.out.sl.move fun b hb hl => ⟨⟨hb, fun e => by have e2 : some b = some w9.heap.size := e; have e3 := Option.some.inj e2; have hl2 : b < w5.heap.size := hl; omega⟩, hst9 b hb hl⟩) (by simp)); (have hlen10 : ([a7, a9] ++ a5).length = a5.length + 2 := (by simp)); rw [hlen10] at hu hrow10; (have hgo : ∀ k, Value.ownBlock (.slice (some ⟨w9.heap.size, 0, none⟩) 2 2) = some k → k = w9.heap.size := fun k hk => (by cases hk; rfl)); (have HBx10 := Hd (hb_grown (hb_alloc HBx9.out _) hgr10 (fun e => by have := hgo _ e.symm; omega))); (have HBt10 := Hd (hb_grown (hb_alloc HBt9.out _) hgr10 (fun e => by have := hgo _ e.symm; omega))); (have HR10 : RowKit.Hid (Rd r E w10 ts9) := Hd ((HR9.out.alloc _).grown hgr10 (fun k hk => by have := hgo k hk; omega))); (have HG10 : RowKit.Hid (Rg r w w10) := Hd ((HG9.out.alloc _).grown hgr10 (fun k hk => by have := hgo k hk; omega))); (have HROW10 := Hd hrow10); (have hz10 : w9.heap.size < w10.heap.size := Q46); clear hv7 hv9 hrow9 hst9 hrow10 hgr10 hlen10 hgo; obtain ⟨e0, e1, e2, e3, e4, f0, f1, f2, f3, f4⟩ := box5 HBt10.out; obtain ⟨g0, g1, g2, g3, g4, i0, i1, i2, i3, i4⟩ := box5 HBx10.out; have zt10 := hb_lt HBt10.out; have zx10 := hb_lt HBx10.out))
     try (refine hK _ _ ?_; clear hK K)
     refine wpAny_ready (rs := [0]) Q70 (by simp) ?_
     refine AllReady.cons rfl (fun K hK => ?_) AllReady.nil
     go_simp
     refine hK _ _ ?_
     clear hK K
     refine wpAny_ready (rs := [4]) Q70 (by simp) ?_
     refine AllReady.cons rfl (fun K hK => ?_) AllReady.nil
     go_simp
     refine hK _ _ ?_
     clear hK K
     refine wpAny_ready (rs := [6]) Q70 (by simp) ?_
     refine AllReady.cons rfl (fun K hK => ?_) AllReady.nil
     refine step_append37 rfl _ _ rfl rfl rfl rfl hu ?_
     refine hK _ _ ?_
     clear hK K
     refine wpAny_take (i := 7) (v := ?_) rfl Q70 Q70 Q70 (fun _ _ _ h => h) (Or.inl ⟨by rfl, ?_⟩) ?_
     rotate_left
     · intro w
       go_simp
       first | done | with_reducible rfl
     refine wpAny_ready (rs := [8]) Q70 (by simp) ?_
     refine AllReady.cons rfl (fun K hK => ?_) AllReady.nil
     go_simp
     refine hK _ _ ?_
     clear hK K
     refine wpAny_done Q70 ?_ _
     go_wp2
     exact fin5 (w0 := w) (W := w10.setCell ⟨w.heap.size + 1, 4, none⟩ (.slice q10 (a5.length + 2) c10)) rfl rfl rfl (hb_set_other HBx10.out (a := ⟨w.heap.size + 1, 4, none⟩) _ Q52) (Nat.le_refl _) (HG10.out.set_new (g := w.heap.size + 1) (by omega) 4 _) hrl (HR10.out.set_new (g := w.heap.size + 1) (by omega) 4 _) HS9.out W4.heap.size (by omega) (by omega) (kids_of (HROW10.out.all fun b hb hl => Below.heap_setCell _ _ _ _ (by show b ≠ w.heap.size + 1; omega)) (by have := HV5.out.2; simp; omega) (by decide) hst3)
 · rw [if_pos rfl] at hN
   obtain ⟨rfl, rfl⟩ : N = 1 ∧ tsN = ts.tail := by cases hN; exact ⟨rfl, rfl⟩
   clear hN hB
   go_upto_region 4 with (go_at_call 130; (with_reducible refine (HK.out _ HR1.out).mono ?_); rintro e w2 ⟨rfl, hg, hr⟩; have HD2 := Hd hg; have HG2 : RowKit.Hid (Rg r w w2) := Hd (HG1.out.trans hg); have HR2 : RowKit.Hid (Rd r E w2 ts.tail) := Hd hr; (have HBx2 := Hd (HD2.out.keep HBx1.out (by omega))); (have HBt2 := Hd (HD2.out.keep HBt1.out (by omega))); obtain ⟨m20, m21, m22, m23, m24, n20, n21, n22, n23, n24⟩ := box5 HBt2.out; have zt2 := hb_lt HBt2.out; clear hg hr)
   have hz4 : (w2.setCell ⟨w.heap.size + 1, 3, none⟩ (.int .i64 1)).heap.size = w2.heap.size := by simp [World.setCell]
   have c1 : (w2.setCell ⟨w.heap.size + 1, 3, none⟩ (.int .i64 1)).heap[w.heap.size + 1]? = some (.cells #[.int .i64 28, .string ⟨#[]⟩, .string ⟨#[]⟩, .int .i64 1, .slice none 0 0] 24 (0, 0)) := hb_set_same HBt2.out 3 (.int .i64 1)
   have c0 := hb_set_other HBx2.out (a := ⟨w.heap.size + 1, 3, none⟩) (.int .i64 1) Q52
   have hr4 := HR2.out.set_new (g := w.heap.size + 1) (by omega) 3 (.int .i64 1)
   have hg4 := HG2.out.set_new (g := w.heap.size + 1) (by omega) 3 (.int .i64 1)
   clear HR2 HG2 HBt2 HBx2 HD2
   generalize w2.setCell ⟨w.heap.size + 1, 3, none⟩ (.int .i64 1) = w2' at *
   have HBt2 := Hd c1
   have HBx2 := Hd c0
   have HR2 := Hd hr4
   have HG2 : RowKit.Hid (Rg r w w2') := Hd hg4
   have zt2 := hb_lt c1
   clear c0 c1 hr4 hg4 hz4
   have HS2 : RowKit.Hid (S = letR E (exprP E g) (typP E g) _ _) := HSN
   unfold letR at HS2
   go_upto_region 5 with ((go_at_call 180; (with_reducible refine (take_st r E 1 _ (by decide) _ Q15).mono ?_); rintro e w3 h3; rcases h3.step HS2.out with ⟨v3, a3, ts3, rfl, hV, hR, hg, hS, hx⟩ | ⟨y, rfl, hg, hSE⟩; rotate_left; (have hGE : Rg r w w3 := Q4); rotate_left; (obtain ⟨rfl, hst3⟩ := hV); (have HR3 := Hd hR; have HG3 : RowKit.Hid (Rg r w w3) := Hd Q4; have HS3 := Hd hS; have HX3 := Hd hx; have HD3 := Hd hg; clear hR hg hS hx); (have HBx3 := Hd (HD3.out.keep HBx2.out (by omega))); (have HBt3 := Hd (HD3.out.keep HBt2.out (by omega))); obtain ⟨m30, m31, m32, m33, m34, n30, n31, n32, n33, n34⟩ := box5 HBt3.out; have zt3 := hb_lt HBt3.out))
   all_goals first | exact ⟨rfl, hGE, rfl⟩ | exact ⟨rfl, hGE, by rw [hSE]⟩ | skip
   have hz3 := HD3.out.size
   have hz4 : (w3.setCell ⟨w.heap.size + 1, 2, none⟩ (.string a3)).heap.size = w3.heap.size := by simp [World.setCell]
   have c1 : (w3.setCell ⟨w.heap.size + 1, 2, none⟩ (.string a3)).heap[w.heap.size + 1]? = some (.cells #[.int .i64 28, .string ⟨#[]⟩, .string a3, .int .i64 _, .slice none 0 0] 24 (0, 0)) := hb_set_same HBt3.out 2 (.string a3)
   have c0 := hb_set_other HBx3.out (a := ⟨w.heap.size + 1, 2, none⟩) (.string a3) Q52
   have hr4 := HR3.out.set_new (g := w.heap.size + 1) (by omega) 2 (.string a3)
   have hg4 := HG3.out.set_new (g := w.heap.size + 1) (by omega) 2 (.string a3)
   have HS4 := HS3
   generalize w3.setCell ⟨w.heap.size + 1, 2, none⟩ (.string a3) = W4 at *
   have HBt4 := Hd c1
   have HBx4 := Hd c0
   have HR4 := Hd hr4
   have HG4 : RowKit.Hid (Rg r w W4) := Hd hg4
   have zt4 := hb_lt c1
   clear c0 c1 hr4 hg4 hz3
   go_upto_region 9 with (first
    | (go_at_call 181; (with_reducible refine (annotation_any r E g d hd _ _ Q17).mono ?_); rintro e w5 h5; rcases h5.step HS4.out with ⟨v5, a5, ts5, rfl, hV, hR, hg, hS, hx⟩ | ⟨y, rfl, hg, hSE⟩; rotate_left; (have hGE : Rg r w w5 := Q6); rotate_left; (obtain ⟨q5, c5, hv⟩ := hV.1.shape; subst hv; have HV5 := Hd hV; have HL5 := Hd hV.2); (have HR5 := Hd hR; have HG5 : RowKit.Hid (Rg r w w5) := Hd Q6; have HS5 := Hd hS; have HX5 := Hd hx; have HD5 := Hd hg; clear hR hg hS hx hV); (have HBx5 := Hd (HD5.out.keep HBx4.out (by omega))); (have HBt5 := Hd (HD5.out.keep HBt4.out (by omega))); have hz5 := HD5.out.size)
    | (go_at_call 125; (with_reducible refine (sign_any r E sEq _ _ Q22).mono ?_); rintro e w6 h6; rcases h6.step HS5.out with ⟨v6, a6, ts6, rfl, hV, hR, hg, hS, hx⟩ | ⟨y, rfl, hg, hSE⟩; rotate_left; (have hGE : Rg r w w6 := Q12); rotate_left; (obtain rfl := hV); (have HR6 := Hd hR; have HG6 : RowKit.Hid (Rg r w w6) := Hd Q12; have HS6 := Hd hS; have HX6 := Hd hx; have HD6 := Hd hg; clear hR hg hS hx); (have HBx6 := Hd (HD6.out.keep HBx5.out (by omega))); (have HBt6 := Hd (HD6.out.keep HBt5.out (by omega))); have hz6 := HD6.out.size)
    | (go_at_call 72; (with_reducible refine (HI.out _ _ Q20).mono ?_); rintro e w7 h7; rcases h7.step HS6.out with ⟨v7, a7, ts7, rfl, hV, hR, hg, hS, hx⟩ | ⟨y, rfl, hg, hSE⟩; rotate_left; (have hGE : Rg r w w7 := Q10); rotate_left; (obtain ⟨k7, p7, n7, N7, q7, l7, c7, rfl⟩ := hV.shape; have HV7 := Hd hV); (have HR7 := Hd hR; have HG7 : RowKit.Hid (Rg r w w7) := Hd Q10; have HS7 := Hd hS; have HX7 := Hd hx; have HD7 := Hd hg; clear hR hg hS hx hV); (have HBx7 := Hd (HD7.out.keep HBx6.out (by omega))); (have HBt7 := Hd (HD7.out.keep HBt6.out (by omega))); have hz7 := HD7.out.size)
    | (go_at_call 182; (with_reducible refine (key_any r E kIn _ _ Q21).mono ?_); rintro e w8 h8; rcases h8.step HS7.out with ⟨v8, a8, ts8, rfl, hV, hR, hg, hS, hx⟩ | ⟨y, rfl, hg, hSE⟩; rotate_left; (have hGE : Rg r w w8 := Q11); rotate_left; (obtain rfl := hV); (have HR8 := Hd hR; have HG8 : RowKit.Hid (Rg r w w8) := Hd Q11; have HS8 := Hd hS; have HX8 := Hd hx; have HD8 := Hd hg; clear hR hg hS hx); (have HBx8 := Hd (HD8.out.keep (hb_alloc HBx7.out _) (by omega))); (have HBt8 := Hd (HD8.out.keep (hb_alloc HBt7.out _) (by omega))); (have HBv8 := Hd (HD8.out.keep (hb_new _ _) (by omega))); obtain ⟨s0, s1, s2, s3, s4, _⟩ := box5 HBv8.out; have sv := hb_lt HBv8.out; (have hz8 : w7.heap.size + 1 ≤ w8.heap.size := (by have h := HD8.out.size; rw [World.size_alloc] at h; exact h))))
   all_goals first | exact ⟨rfl, hGE, rfl⟩ | exact ⟨rfl, hGE, by rw [hSE]⟩ | skip
   refine wp_region_any Q70 ?_
   try (change wpAny _ _ _ _ _ _ _ (World.drew _))
   refine wpAny_take (i := 1) (v := ?_) rfl Q70 Q70 Q70 (fun _ _ _ h => h) (Or.inl ⟨by rfl, ?_⟩) ?_
   rotate_left
   · intro w
     go_simp
     first | done | with_reducible rfl
   refine wpAny_take (i := 2) (v := ?_) rfl Q70 Q70 Q70 (fun _ _ _ h => h) (Or.inl ⟨by rfl, ?_⟩) ?_
   rotate_left
   · intro w
     go_simp
     first | done | with_reducible rfl
   refine wpAny_take (i := 5) (v := ?_) rfl Q70 Q70 Q70 (fun _ _ _ h => h) (Or.inl ⟨by rfl, ?_⟩) ?_
   rotate_left
   · intro w
     go_simp
     first | done | with_reducible rfl
   refine wpAny_ready (rs := [0, 3]) Q70 (by simp) ?_
   refine AllReady.cons rfl (fun K hK => ?_) (AllReady.cons rfl (fun K hK => ?_) AllReady.nil)
   · go_simp
     refine hK _ _ ?_
     clear hK K
     refine wpAny_ready (rs := [3]) Q70 (by simp) ?_
     refine AllReady.cons rfl (fun K hK => ?_) AllReady.nil
     go_simp
     go_wp2_with ((go_at_call 72; (with_reducible refine (HI.out _ _ Q19).mono ?_); rintro e w9 h9; rcases h9.step HS8.out with ⟨v9, a9, ts9, rfl, hV, hR, hg, hS, hx⟩ | ⟨y, rfl, hg, hSE⟩; rotate_left; (have hGE : Rg r w w9 := Q9; subst hSE; exact ⟨rfl, hGE, rfl⟩); (obtain ⟨k9, p9, n9, N9, q9, l9, c9, rfl⟩ := hV.shape; have HV9 := Hd hV); (have HR9 := Hd hR; have HG9 : RowKit.Hid (Rg r w w9) := Hd Q9; have HS9 := Hd hS; have HX9 := Hd hx; have HD9 := Hd hg; clear hR hg hS hx hV); (have HBx9 := Hd (HD9.out.keep HBx8.out (by omega))); (have HBt9 := Hd (HD9.out.keep HBt8.out (by omega))); (have HBv9 := Hd (HD9.out.keep HBv8.out (by omega))); obtain ⟨u0, u1, u2, u3, u4, _⟩ := box5 HBv9.out; have su := hb_lt HBv9.out; (have hz9 : w8.heap.size ≤ w9.heap.size := HD9.out.size); (have hv7 : termK.V (fun b => W4.heap.size ≤ b) w9 [.int .i64 k7, .string p7, .string n7, .int .i64 N7, .slice q7 l7 c7] a7 := (by obtain ⟨D, h⟩ := HV7.out; exact ⟨_, _, _, _, _, D, rfl, h.move fun b hb hl => by
               have hb' : w6.heap.size ≤ b := hb
               refine ⟨by omega, ?_⟩
               rw [HD9.out.same Q58 (by omega)]
               show w8.heap[b]? = _
               rw [HD8.out.same Q57 (by omega), Below.heap_alloc _ _ _ hl]⟩)); (have hv9 : termK.V (fun b => W4.heap.size ≤ b) w9 [.int .i64 k9, .string p9, .string n9, .int .i64 N9, .slice q9 l9 c9] a9 := (by obtain ⟨D, h⟩ := HV9.out; exact ⟨_, _, _, _, _, D, rfl, h.move fun b hb hl => by
               have hb' : w8.heap.size ≤ b := hb
               exact ⟨by omega, rfl⟩⟩)); (have hrow9 := RowG.two hv7 hv9 (by omega)); (have hst9 : ∀ b, W4.heap.size ≤ b → b < w5.heap.size → (w9.alloc (.cells #[.int .i64 k7, .string p7, .string n7, .int .i64 N7, .slice q7 l7 c7, .int .i64 k9, .string p9, .string n9, .int .i64 N9, .slice q9 l9 c9] 24)).heap[b]? = w5.heap[b]? := (by
               intro b hb hl
               rw [Below.heap_alloc _ _ _ (by omega), HD9.out.same Q58 (by omega)]
               show w8.heap[b]? = _
               rw [HD8.out.same Q57 (by omega), Below.heap_alloc _ _ _ (by omega), HD7.out.same (by omega) (by omega), HD6.out.same hl (by omega)])); (obtain ⟨q10, c10, w10, hu, hrow10, hgr10⟩ := app_ann (wa := W4) hrow9 Q57 (Nat.le_refl _) (.slice q5 a5.length c5) a5 ⟨HV5.out.1.move hst9, HV5.out.2⟩ (HV5.out.sl.move fun b hb hl => ⟨⟨hb, fun e => by have e2 : some b = some w9.heap.size := e; have e3 := Option.some.inj e2; have hl2 : b < w5.heap.size := hl; omega⟩, hst9 b hb hl⟩) (by simp)); (have hlen10 : ([a7, a9] ++ a5).length = a5.length + 2 := (by simp)); rw [hlen10] at hu hrow10; (have hgo : ∀ k, Value.ownBlock (.slice (some ⟨w9.heap.size, 0, none⟩) 2 2) = some k → k = w9.heap.size := fun k hk => (by cases hk; rfl)); (have HBx10 := Hd (hb_grown (hb_alloc HBx9.out _) hgr10 (fun e => by have := hgo _ e.symm; omega))); (have HBt10 := Hd (hb_grown (hb_alloc HBt9.out _) hgr10 (fun e => by have := hgo _ e.symm; omega))); (have HR10 : RowKit.Hid (Rd r E w10 ts9) := Hd ((HR9.out.alloc _).grown hgr10 (fun k hk => by have := hgo k hk; omega))); (have HG10 : RowKit.Hid (Rg r w w10) := Hd ((HG9.out.alloc _).grown hgr10 (fun k hk => by have := hgo k hk; omega))); (have HROW10 := Hd hrow10); (have hz10 : w9.heap.size < w10.heap.size := Q46); clear hv7 hv9 hrow9 hst9 hrow10 hgr10 hlen10 hgo; obtain ⟨e0, e1, e2, e3, e4, f0, f1, f2, f3, f4⟩ := box5 HBt10.out; obtain ⟨g0, g1, g2, g3, g4, i0, i1, i2, i3, i4⟩ := box5 HBx10.out; have zt10 := hb_lt HBt10.out; have zx10 := hb_lt HBx10.out))
     try (refine hK _ _ ?_; clear hK K)
     refine wpAny_ready (rs := [4]) Q70 (by simp) ?_
     refine AllReady.cons rfl (fun K hK => ?_) AllReady.nil
     go_simp
     refine hK _ _ ?_
     clear hK K
     refine wpAny_ready (rs := [6]) Q70 (by simp) ?_
     refine AllReady.cons rfl (fun K hK => ?_) AllReady.nil
     refine step_append37 rfl _ _ rfl rfl rfl rfl hu ?_
     refine hK _ _ ?_
     clear hK K
     refine wpAny_take (i := 7) (v := ?_) rfl Q70 Q70 Q70 (fun _ _ _ h => h) (Or.inl ⟨by rfl, ?_⟩) ?_
     rotate_left
     · intro w
       go_simp
       first | done | with_reducible rfl
     refine wpAny_ready (rs := [8]) Q70 (by simp) ?_
     refine AllReady.cons rfl (fun K hK => ?_) AllReady.nil
     go_simp
     refine hK _ _ ?_
     clear hK K
     refine wpAny_done Q70 ?_ _
     go_wp2
     exact fin5 (w0 := w) (W := w10.setCell ⟨w.heap.size + 1, 4, none⟩ (.slice q10 (a5.length + 2) c10)) rfl rfl rfl (hb_set_other HBx10.out (a := ⟨w.heap.size + 1, 4, none⟩) _ Q52) (Nat.le_refl _) (HG10.out.set_new (g := w.heap.size + 1) (by omega) 4 _) hrl (HR10.out.set_new (g := w.heap.size + 1) (by omega) 4 _) HS9.out W4.heap.size (by omega) (by omega) (kids_of (HROW10.out.all fun b hb hl => Below.heap_setCell _ _ _ _ (by show b ≠ w.heap.size + 1; omega)) (by have := HV5.out.2; simp; omega) (by decide) hst3)
   · go_simp
     go_wp2_with ((go_at_call 72; (with_reducible refine (HI.out _ _ Q19).mono ?_); rintro e w9 h9; rcases h9.step HS8.out with ⟨v9, a9, ts9, rfl, hV, hR, hg, hS, hx⟩ | ⟨y, rfl, hg, hSE⟩; rotate_left; (have hGE : Rg r w w9 := Q9; subst hSE; exact ⟨rfl, hGE, rfl⟩); (obtain ⟨k9, p9, n9, N9, q9, l9, c9, rfl⟩ := hV.shape; have HV9 := Hd hV); (have HR9 := Hd hR; have HG9 : RowKit.Hid (Rg r w w9) := Hd Q9; have HS9 := Hd hS; have HX9 := Hd hx; have HD9 := Hd hg; clear hR hg hS hx hV); (have HBx9 := Hd (HD9.out.keep HBx8.out (by omega))); (have HBt9 := Hd (HD9.out.keep HBt8.out (by omega))); (have HBv9 := Hd (HD9.out.keep HBv8.out (by omega))); obtain ⟨u0, u1, u2, u3, u4, _⟩ := box5 HBv9.out; have su := hb_lt HBv9.out; (have hz9 : w8.heap.size ≤ w9.heap.size := HD9.out.size); (have hv7 : termK.V (fun b => W4.heap.size ≤ b) w9 [.int .i64 k7, .string p7, .string n7, .int .i64 N7, .slice q7 l7 c7] a7 := (by obtain ⟨D, h⟩ := HV7.out; exact ⟨_, _, _, _, _, D, rfl, h.move fun b hb hl => by
               have hb' : w6.heap.size ≤ b := hb
               refine ⟨by omega, ?_⟩
               rw [HD9.out.same Q58 (by omega)]
               show w8.heap[b]? = _
               rw [HD8.out.same Q57 (by omega), Below.heap_alloc _ _ _ hl]⟩)); (have hv9 : termK.V (fun b => W4.heap.size ≤ b) w9 [.int .i64 k9, .string p9, .string n9, .int .i64 N9, .slice q9 l9 c9] a9 := (by obtain ⟨D, h⟩ := HV9.out; exact ⟨_, _, _, _, _, D, rfl, h.move fun b hb hl => by
               have hb' : w8.heap.size ≤ b := hb
               exact ⟨by omega, rfl⟩⟩)); (have hrow9 := RowG.two hv7 hv9 (by omega)); (have hst9 : ∀ b, W4.heap.size ≤ b → b < w5.heap.size → (w9.alloc (.cells #[.int .i64 k7, .string p7, .string n7, .int .i64 N7, .slice q7 l7 c7, .int .i64 k9, .string p9, .string n9, .int .i64 N9, .slice q9 l9 c9] 24)).heap[b]? = w5.heap[b]? := (by
               intro b hb hl
               rw [Below.heap_alloc _ _ _ (by omega), HD9.out.same Q58 (by omega)]
               show w8.heap[b]? = _
               rw [HD8.out.same Q57 (by omega), Below.heap_alloc _ _ _ (by omega), HD7.out.same (by omega) (by omega), HD6.out.same hl (by omega)])); (obtain ⟨q10, c10, w10, hu, hrow10, hgr10⟩ := app_ann (wa := W4) hrow9 Q57 (Nat.le_refl _) (.slice q5 a5.length c5) a5 ⟨HV5.out.1.move hst9, HV5.out.2⟩ (HV5.out.sl.move fun b hb hl => ⟨⟨hb, fun e => by have e2 : some b = some w9.heap.size := e; have e3 := Option.some.inj e2; have hl2 : b < w5.heap.size := hl; omega⟩, hst9 b hb hl⟩) (by simp)); (have hlen10 : ([a7, a9] ++ a5).length = a5.length + 2 := (by simp)); rw [hlen10] at hu hrow10; (have hgo : ∀ k, Value.ownBlock (.slice (some ⟨w9.heap.size, 0, none⟩) 2 2) = some k → k = w9.heap.size := fun k hk => (by cases hk; rfl)); (have HBx10 := Hd (hb_grown (hb_alloc HBx9.out _) hgr10 (fun e => by have := hgo _ e.symm; omega))); (have HBt10 := Hd (hb_grown (hb_alloc HBt9.out _) hgr10 (fun e => by have := hgo _ e.symm; omega))); (have HR10 : RowKit.Hid (Rd r E w10 ts9) := Hd ((HR9.out.alloc _).grown hgr10 (fun k hk => by have := hgo k hk; omega))); (have HG10 : RowKit.Hid (Rg r w w10) := Hd ((HG9.out.alloc _).grown hgr10 (fun k hk => by have := hgo k hk; omega))); (have HROW10 := Hd hrow10); (have hz10 : w9.heap.size < w10.heap.size := Q46); clear hv7 hv9 hrow9 hst9 hrow10 hgr10 hlen10 hgo; obtain ⟨e0, e1, e2, e3, e4, f0, f1, f2, f3, f4⟩ := box5 HBt10.out; obtain ⟨g0, g1, g2, g3, g4, i0, i1, i2, i3, i4⟩ := box5 HBx10.out; have zt10 := hb_lt HBt10.out; have zx10 := hb_lt HBx10.out))
     try (refine hK _ _ ?_; clear hK K)
     refine wpAny_ready (rs := [0]) Q70 (by simp) ?_
     refine AllReady.cons rfl (fun K hK => ?_) AllReady.nil
     go_simp
     refine hK _ _ ?_
     clear hK K
     refine wpAny_ready (rs := [4]) Q70 (by simp) ?_
     refine AllReady.cons rfl (fun K hK => ?_) AllReady.nil
     go_simp
     refine hK _ _ ?_
     clear hK K
     refine wpAny_ready (rs := [6]) Q70 (by simp) ?_
     refine AllReady.cons rfl (fun K hK => ?_) AllReady.nil
     refine step_append37 rfl _ _ rfl rfl rfl rfl hu ?_
     refine hK _ _ ?_
     clear hK K
     refine wpAny_take (i := 7) (v := ?_) rfl Q70 Q70 Q70 (fun _ _ _ h => h) (Or.inl ⟨by rfl, ?_⟩) ?_
     rotate_left
     · intro w
       go_simp
       first | done | with_reducible rfl
     refine wpAny_ready (rs := [8]) Q70 (by simp) ?_
     refine AllReady.cons rfl (fun K hK => ?_) AllReady.nil
     go_simp
     refine hK _ _ ?_
     clear hK K
     refine wpAny_done Q70 ?_ _
     go_wp2
     exact fin5 (w0 := w) (W := w10.setCell ⟨w.heap.size + 1, 4, none⟩ (.slice q10 (a5.length + 2) c10)) rfl rfl rfl (hb_set_other HBx10.out (a := ⟨w.heap.size + 1, 4, none⟩) _ Q52) (Nat.le_refl _) (HG10.out.set_new (g := w.heap.size + 1) (by omega) 4 _) hrl (HR10.out.set_new (g := w.heap.size + 1) (by omega) 4 _) HS9.out W4.heap.size (by omega) (by omega) (kids_of (HROW10.out.all fun b hb hl => Below.heap_setCell _ _ _ _ (by show b ≠ w.heap.size + 1; omega)) (by have := HV5.out.2; simp; omega) (by decide) hst3)
theorem exprA_any (r E : Nat) : ∀ (g d : Nat), d + g = 41 → ExprC r E g d := by
 intro g
 induction g with
 | zero =>
  intro d hd ts w hR
  have hd41 : 40 < d := by omega
  have HR0 := Hd hR
  have hrl := hR.lt
  have HB := Hd (fun W hW => begin_no r E d hd41 ts W hW)
  have hS : exprP E 0 ts = .error ((nx E ts).2, 9) := rfl
  rw [hS]
  clear hR hS hd hd41
  go_enter Tryz.func72, Tryz.ntmps72
  go_wp2_with (go_at_call 129; (with_reducible refine (HB.out _ Q16).mono ?_); rintro e w1 ⟨rfl, hg⟩)
  exact ⟨rfl, (((Rg.refl r w).alloc _).alloc _ |>.alloc _).trans hg, rfl⟩
 | succ g ih =>
  intro d hd ts w hR
  have hd40 : d ≤ 40 := by omega
  have hI : ExprC r E g (d + 1) := ih (d + 1) (by omega)
  have hc : ((d + 1 : Nat) : Int) = (d : Int) + 1 := by omega
  have HFUN : RowKit.Hid (∀ ts W, Rd r E W ts → Calls Tryz.prog 131 #[rp r, .int .i64 ((d : Int) + 1)] W (Got r E TmV W (funP E (exprP E g) ts))) := Hd (fun ts W hW => hc ▸ fun_any r E g (d + 1) hI ts W hW)
  have HLET : RowKit.Hid (∀ ts W, Rd r E W ts → Calls Tryz.prog 132 #[rp r, .int .i64 ((d : Int) + 1)] W (Got r E TmV W (letP E (exprP E g) (typP E g) ts))) := Hd (fun ts W hW => hc ▸ let_any r E g (d + 1) (by omega) hI ts W hW)
  have HMAT : RowKit.Hid (∀ ts W, Rd r E W ts → Calls Tryz.prog 133 #[rp r, .int .i64 ((d : Int) + 1)] W (Got r E TmV W (matP E (patP E g) (exprP E g) ts))) := Hd (fun ts W hW => hc ▸ matR_any r E g (d + 1) (by omega) hI ts W hW)
  have HAT := Hd (fun ts W hW => atom_any r E g (d + 1) (by omega) hI ts W hW)
  have HCF : RowKit.Hid (∀ W, (callFunc 135 #[bp w.heap.size, bp (w.heap.size + 1)]).run Tryz.prog W = .ok (.enter 135 #[bp w.heap.size, bp (w.heap.size + 1)]) W) := Hd (fun W => by kernel_rfl)
  have HR0 := Hd hR
  have hrl := hR.lt
  have HBG := Hd (fun W hW => begin_ok r E d hd40 ts W hW)
  have HG0 : RowKit.Hid (Rg r w w) := Hd (Rg.refl r w)
  have HK1 := Hd (fun W hW => skipKey_any r E kFun ts W hW)
  have HK2 := Hd (fun W hW => skipKey_any r E kLet ts W hW)
  have HK3 := Hd (fun W hW => skipKey_any r E kMatch ts W hW)
  obtain ⟨S, hS⟩ : ∃ S, S = exprP E (g + 1) ts := ⟨_, rfl⟩
  have HS0 := Hd hS
  rw [← hS]
  unfold exprP at HS0
  clear hR hS ih hI hc
  cases hB1 : isB 7 kFun ts
  rotate_left
  · have h := HS0.out
    rw [hB1, if_pos rfl] at h
    rw [hB1] at HK1
    have HSa := Hd h
    clear HS0 h hB1
    have HS0 := HSa
    go_enter Tryz.func72, Tryz.ntmps72
    go_upto_region 1 with (fail)
    obtain ⟨c0, c1, c2, hz3, hb3⟩ := boxes3 w (.cells #[rp r] 107) (.cells #[.int .i64 (d : Nat)] 3) (.cells #[.int .i64 0, .string ⟨#[]⟩, .string ⟨#[]⟩, .int .i64 0, .slice none 0 0] 24)
    generalize hW1 : ((w.alloc (.cells #[rp r] 107)).alloc (.cells #[.int .i64 (d : Nat)] 3)).alloc (.cells #[.int .i64 0, .string ⟨#[]⟩, .string ⟨#[]⟩, .int .i64 0, .slice none 0 0] 24) = W1 at *
    have HBr1 := Hd c0
    have HBd1 := Hd c1
    have HBx1 := Hd c2
    have HR1 : RowKit.Hid (Rd r E W1 ts) := Hd (HR0.out.below hb3)
    have HG1 : RowKit.Hid (Rg r w W1) := Hd (Rg.of_below hb3)
    have HS1 := HS0
    have x0 := hb_at c0 0 rfl
    have x1 := hb_at c1 0 rfl
    have q0 := hb_lt c0
    have q1 := hb_lt c1
    have q2 := hb_lt c2
    clear hW1 c0 c1 c2 hb3
    go_wp2_with (first
     | (go_at_call 129; (with_reducible refine (HBG.out _ HR1.out).mono ?_); rintro e w2 ⟨rfl, rfl⟩)
     | (go_at_call 130; (with_reducible refine (HK1.out _ Q14).mono ?_); rintro e w2 ⟨rfl, hg, hr⟩; have HD2 := Hd hg; have HG2 : RowKit.Hid (Rg r w w2) := Hd Q5; have HR2 : RowKit.Hid (Rd r E w2 ts.tail) := Hd hr; (have HBr2 := Hd (HD2.out.keep HBr1.out (by omega))); (have HBd2 := Hd (HD2.out.keep HBd1.out (by omega))); (have HBx2 := Hd (HD2.out.keep HBx1.out (by omega))); have u2a := hb_at HBr2.out 0 rfl; have u2b := hb_at HBd2.out 0 rfl; have u2c := hb_lt HBr2.out; have u2d := hb_lt HBd2.out; have u2e := hb_lt HBx2.out; obtain ⟨x20, x21, x22, x23, x24, y20, y21, y22, y23, y24⟩ := box5 HBx2.out; have HS2 := HS1; clear hg hr)
     | (go_at_call 131; (with_reducible refine (HFUN.out _ _ Q15).mono ?_); rintro e w3 h3; rcases h3.step (HS2.out.trans (bnd_id _).symm) with ⟨v3, a3, ts3, rfl, hV, hR, hg, hS, hx⟩ | ⟨y, rfl, hg, hSE⟩; rotate_left; (have hGE : Rg r w w3 := Q4); rotate_left; (obtain ⟨k3, p3, n3, N3, q3, l3, c3, rfl⟩ := hV.shape; have HV3 := Hd hV); (have HR3 := Hd hR; have HG3 : RowKit.Hid (Rg r w w3) := Hd Q4; have HS3 := Hd hS; have HX3 := Hd hx; have HD3 := Hd hg; clear hR hg hS hx hV); (have HBr3 := Hd (HD3.out.keep HBr2.out (by omega))); (have HBd3 := Hd (HD3.out.keep HBd2.out (by omega))); (have HBx3 := Hd (HD3.out.keep HBx2.out (by omega))); have u3a := hb_at HBr3.out 0 rfl; have u3b := hb_at HBd3.out 0 rfl; have u3c := hb_lt HBr3.out; have u3d := hb_lt HBd3.out; have u3e := hb_lt HBx3.out; obtain ⟨x30, x31, x32, x33, x34, y30, y31, y32, y33, y34⟩ := box5 HBx3.out))
    all_goals first | exact ⟨rfl, hGE, rfl⟩ | exact ⟨rfl, hGE, by rw [hSE]⟩ | skip
    have hzz := HG2.out.size
    exact fin5 (w0 := w) rfl rfl rfl HBx3.out (by omega) HG3.out hrl HR3.out HS3.out w2.heap.size (by omega) (by omega) HV3.out
  cases hB2 : isB 7 kLet ts
  rotate_left
  · have h := HS0.out
    rw [hB1, if_neg (by decide), hB2, if_pos rfl] at h
    rw [hB1] at HK1
    rw [hB2] at HK2
    have HSa := Hd h
    clear HS0 h hB1 hB2
    have HS0 := HSa
    go_enter Tryz.func72, Tryz.ntmps72
    go_upto_region 1 with (fail)
    obtain ⟨c0, c1, c2, hz3, hb3⟩ := boxes3 w (.cells #[rp r] 107) (.cells #[.int .i64 (d : Nat)] 3) (.cells #[.int .i64 0, .string ⟨#[]⟩, .string ⟨#[]⟩, .int .i64 0, .slice none 0 0] 24)
    generalize hW1 : ((w.alloc (.cells #[rp r] 107)).alloc (.cells #[.int .i64 (d : Nat)] 3)).alloc (.cells #[.int .i64 0, .string ⟨#[]⟩, .string ⟨#[]⟩, .int .i64 0, .slice none 0 0] 24) = W1 at *
    have HBr1 := Hd c0
    have HBd1 := Hd c1
    have HBx1 := Hd c2
    have HR1 : RowKit.Hid (Rd r E W1 ts) := Hd (HR0.out.below hb3)
    have HG1 : RowKit.Hid (Rg r w W1) := Hd (Rg.of_below hb3)
    have HS1 := HS0
    have x0 := hb_at c0 0 rfl
    have x1 := hb_at c1 0 rfl
    have q0 := hb_lt c0
    have q1 := hb_lt c1
    have q2 := hb_lt c2
    clear hW1 c0 c1 c2 hb3
    go_wp2_with (first
     | (go_at_call 129; (with_reducible refine (HBG.out _ HR1.out).mono ?_); rintro e w2 ⟨rfl, rfl⟩)
     | (go_at_call 130; (with_reducible refine (HK1.out _ Q14).mono ?_); rintro e w2 ⟨rfl, hg, hr⟩; have HD2 := Hd hg; have HG2 : RowKit.Hid (Rg r w w2) := Hd Q5; have HR2 : RowKit.Hid (Rd r E w2 ts) := Hd hr; (have HBr2 := Hd (HD2.out.keep HBr1.out (by omega))); (have HBd2 := Hd (HD2.out.keep HBd1.out (by omega))); (have HBx2 := Hd (HD2.out.keep HBx1.out (by omega))); have u2a := hb_at HBr2.out 0 rfl; have u2b := hb_at HBd2.out 0 rfl; have u2c := hb_lt HBr2.out; have u2d := hb_lt HBd2.out; have u2e := hb_lt HBx2.out; obtain ⟨x20, x21, x22, x23, x24, y20, y21, y22, y23, y24⟩ := box5 HBx2.out; have HS2 := HS1; clear hg hr)
     | (go_at_call 130; (with_reducible refine (HK2.out _ Q15).mono ?_); rintro e w3 ⟨rfl, hg, hr⟩; have HD3 := Hd hg; have HG3 : RowKit.Hid (Rg r w w3) := Hd Q4; have HR3 : RowKit.Hid (Rd r E w3 ts.tail) := Hd hr; (have HBr3 := Hd (HD3.out.keep HBr2.out (by omega))); (have HBd3 := Hd (HD3.out.keep HBd2.out (by omega))); (have HBx3 := Hd (HD3.out.keep HBx2.out (by omega))); have u3a := hb_at HBr3.out 0 rfl; have u3b := hb_at HBd3.out 0 rfl; have u3c := hb_lt HBr3.out; have u3d := hb_lt HBd3.out; have u3e := hb_lt HBx3.out; obtain ⟨x30, x31, x32, x33, x34, y30, y31, y32, y33, y34⟩ := box5 HBx3.out; have HS3 := HS2; clear hg hr)
     | (go_at_call 132; (with_reducible refine (HLET.out _ _ Q18).mono ?_); rintro e w4 h4; rcases h4.step (HS3.out.trans (bnd_id _).symm) with ⟨v4, a4, ts4, rfl, hV, hR, hg, hS, hx⟩ | ⟨y, rfl, hg, hSE⟩; rotate_left; (have hGE : Rg r w w4 := Q8); rotate_left; (obtain ⟨k4, p4, n4, N4, q4, l4, c4, rfl⟩ := hV.shape; have HV4 := Hd hV); (have HR4 := Hd hR; have HG4 : RowKit.Hid (Rg r w w4) := Hd Q8; have HS4 := Hd hS; have HX4 := Hd hx; have HD4 := Hd hg; clear hR hg hS hx hV); (have HBr4 := Hd (HD4.out.keep HBr3.out (by omega))); (have HBd4 := Hd (HD4.out.keep HBd3.out (by omega))); (have HBx4 := Hd (HD4.out.keep HBx3.out (by omega))); have u4a := hb_at HBr4.out 0 rfl; have u4b := hb_at HBd4.out 0 rfl; have u4c := hb_lt HBr4.out; have u4d := hb_lt HBd4.out; have u4e := hb_lt HBx4.out; obtain ⟨x40, x41, x42, x43, x44, y40, y41, y42, y43, y44⟩ := box5 HBx4.out))
    all_goals first | exact ⟨rfl, hGE, rfl⟩ | exact ⟨rfl, hGE, by rw [hSE]⟩ | skip
    have hzz := HG3.out.size
    exact fin5 (w0 := w) rfl rfl rfl HBx4.out (by omega) HG4.out hrl HR4.out HS4.out w3.heap.size (by omega) (by omega) HV4.out
  cases hB3 : isB 7 kMatch ts
  rotate_left
  · have h := HS0.out
    rw [hB1, if_neg (by decide), hB2, if_neg (by decide), hB3, if_pos rfl] at h
    rw [hB1] at HK1
    rw [hB2] at HK2
    rw [hB3] at HK3
    have HSa := Hd h
    clear HS0 h hB1 hB2 hB3
    have HS0 := HSa
    go_enter Tryz.func72, Tryz.ntmps72
    go_upto_region 1 with (fail)
    obtain ⟨c0, c1, c2, hz3, hb3⟩ := boxes3 w (.cells #[rp r] 107) (.cells #[.int .i64 (d : Nat)] 3) (.cells #[.int .i64 0, .string ⟨#[]⟩, .string ⟨#[]⟩, .int .i64 0, .slice none 0 0] 24)
    generalize hW1 : ((w.alloc (.cells #[rp r] 107)).alloc (.cells #[.int .i64 (d : Nat)] 3)).alloc (.cells #[.int .i64 0, .string ⟨#[]⟩, .string ⟨#[]⟩, .int .i64 0, .slice none 0 0] 24) = W1 at *
    have HBr1 := Hd c0
    have HBd1 := Hd c1
    have HBx1 := Hd c2
    have HR1 : RowKit.Hid (Rd r E W1 ts) := Hd (HR0.out.below hb3)
    have HG1 : RowKit.Hid (Rg r w W1) := Hd (Rg.of_below hb3)
    have HS1 := HS0
    have x0 := hb_at c0 0 rfl
    have x1 := hb_at c1 0 rfl
    have q0 := hb_lt c0
    have q1 := hb_lt c1
    have q2 := hb_lt c2
    clear hW1 c0 c1 c2 hb3
    go_wp2_with (first
     | (go_at_call 129; (with_reducible refine (HBG.out _ HR1.out).mono ?_); rintro e w2 ⟨rfl, rfl⟩)
     | (go_at_call 130; (with_reducible refine (HK1.out _ Q14).mono ?_); rintro e w2 ⟨rfl, hg, hr⟩; have HD2 := Hd hg; have HG2 : RowKit.Hid (Rg r w w2) := Hd Q5; have HR2 : RowKit.Hid (Rd r E w2 ts) := Hd hr; (have HBr2 := Hd (HD2.out.keep HBr1.out (by omega))); (have HBd2 := Hd (HD2.out.keep HBd1.out (by omega))); (have HBx2 := Hd (HD2.out.keep HBx1.out (by omega))); have u2a := hb_at HBr2.out 0 rfl; have u2b := hb_at HBd2.out 0 rfl; have u2c := hb_lt HBr2.out; have u2d := hb_lt HBd2.out; have u2e := hb_lt HBx2.out; obtain ⟨x20, x21, x22, x23, x24, y20, y21, y22, y23, y24⟩ := box5 HBx2.out; have HS2 := HS1; clear hg hr)
     | (go_at_call 130; (with_reducible refine (HK2.out _ Q15).mono ?_); rintro e w3 ⟨rfl, hg, hr⟩; have HD3 := Hd hg; have HG3 : RowKit.Hid (Rg r w w3) := Hd Q4; have HR3 : RowKit.Hid (Rd r E w3 ts) := Hd hr; (have HBr3 := Hd (HD3.out.keep HBr2.out (by omega))); (have HBd3 := Hd (HD3.out.keep HBd2.out (by omega))); (have HBx3 := Hd (HD3.out.keep HBx2.out (by omega))); have u3a := hb_at HBr3.out 0 rfl; have u3b := hb_at HBd3.out 0 rfl; have u3c := hb_lt HBr3.out; have u3d := hb_lt HBd3.out; have u3e := hb_lt HBx3.out; obtain ⟨x30, x31, x32, x33, x34, y30, y31, y32, y33, y34⟩ := box5 HBx3.out; have HS3 := HS2; clear hg hr)
     | (go_at_call 130; (with_reducible refine (HK3.out _ Q18).mono ?_); rintro e w4 ⟨rfl, hg, hr⟩; have HD4 := Hd hg; have HG4 : RowKit.Hid (Rg r w w4) := Hd Q8; have HR4 : RowKit.Hid (Rd r E w4 ts.tail) := Hd hr; (have HBr4 := Hd (HD4.out.keep HBr3.out (by omega))); (have HBd4 := Hd (HD4.out.keep HBd3.out (by omega))); (have HBx4 := Hd (HD4.out.keep HBx3.out (by omega))); have u4a := hb_at HBr4.out 0 rfl; have u4b := hb_at HBd4.out 0 rfl; have u4c := hb_lt HBr4.out; have u4d := hb_lt HBd4.out; have u4e := hb_lt HBx4.out; obtain ⟨x40, x41, x42, x43, x44, y40, y41, y42, y43, y44⟩ := box5 HBx4.out; have HS4 := HS3; clear hg hr)
     | (go_at_call 133; (with_reducible refine (HMAT.out _ _ Q17).mono ?_); rintro e w5 h5; rcases h5.step (HS4.out.trans (bnd_id _).symm) with ⟨v5, a5, ts5, rfl, hV, hR, hg, hS, hx⟩ | ⟨y, rfl, hg, hSE⟩; rotate_left; (have hGE : Rg r w w5 := Q6); rotate_left; (obtain ⟨k5, p5, n5, N5, q5, l5, c5, rfl⟩ := hV.shape; have HV5 := Hd hV); (have HR5 := Hd hR; have HG5 : RowKit.Hid (Rg r w w5) := Hd Q6; have HS5 := Hd hS; have HX5 := Hd hx; have HD5 := Hd hg; clear hR hg hS hx hV); (have HBr5 := Hd (HD5.out.keep HBr4.out (by omega))); (have HBd5 := Hd (HD5.out.keep HBd4.out (by omega))); (have HBx5 := Hd (HD5.out.keep HBx4.out (by omega))); have u5a := hb_at HBr5.out 0 rfl; have u5b := hb_at HBd5.out 0 rfl; have u5c := hb_lt HBr5.out; have u5d := hb_lt HBd5.out; have u5e := hb_lt HBx5.out; obtain ⟨x50, x51, x52, x53, x54, y50, y51, y52, y53, y54⟩ := box5 HBx5.out))
    all_goals first | exact ⟨rfl, hGE, rfl⟩ | exact ⟨rfl, hGE, by rw [hSE]⟩ | skip
    have hzz := HG4.out.size
    exact fin5 (w0 := w) rfl rfl rfl HBx5.out (by omega) HG5.out hrl HR5.out HS5.out w4.heap.size (by omega) (by omega) HV5.out
  have h := HS0.out
  rw [hB1, if_neg (by decide), hB2, if_neg (by decide), hB3, if_neg (by decide)] at h
  rw [hB1] at HK1
  rw [hB2] at HK2
  rw [hB3] at HK3
  have HSa := Hd h
  clear HS0 h hB1 hB2 hB3
  have HS0 := HSa
  go_enter Tryz.func72, Tryz.ntmps72
  go_upto_region 1 with (fail)
  obtain ⟨c0, c1, c2, hz3, hb3⟩ := boxes3 w (.cells #[rp r] 107) (.cells #[.int .i64 (d : Nat)] 3) (.cells #[.int .i64 0, .string ⟨#[]⟩, .string ⟨#[]⟩, .int .i64 0, .slice none 0 0] 24)
  generalize hW1 : ((w.alloc (.cells #[rp r] 107)).alloc (.cells #[.int .i64 (d : Nat)] 3)).alloc (.cells #[.int .i64 0, .string ⟨#[]⟩, .string ⟨#[]⟩, .int .i64 0, .slice none 0 0] 24) = W1 at *
  have HBr1 := Hd c0
  have HBd1 := Hd c1
  have HBx1 := Hd c2
  have HR1 : RowKit.Hid (Rd r E W1 ts) := Hd (HR0.out.below hb3)
  have HG1 : RowKit.Hid (Rg r w W1) := Hd (Rg.of_below hb3)
  have HS1 := HS0
  have x0 := hb_at c0 0 rfl
  have x1 := hb_at c1 0 rfl
  have q0 := hb_lt c0
  have q1 := hb_lt c1
  have q2 := hb_lt c2
  clear hW1 c0 c1 c2 hb3
  go_wp2_with (first
    | (go_at_call 129; (with_reducible refine (HBG.out _ HR1.out).mono ?_); rintro e w2 ⟨rfl, rfl⟩)
    | (go_at_call 130; (with_reducible refine (HK1.out _ Q14).mono ?_); rintro e w2 ⟨rfl, hg, hr⟩; have HD2 := Hd hg; have HG2 : RowKit.Hid (Rg r w w2) := Hd Q5; have HR2 : RowKit.Hid (Rd r E w2 ts) := Hd hr; (have HBr2 := Hd (HD2.out.keep HBr1.out (by omega))); (have HBd2 := Hd (HD2.out.keep HBd1.out (by omega))); (have HBx2 := Hd (HD2.out.keep HBx1.out (by omega))); have u2a := hb_at HBr2.out 0 rfl; have u2b := hb_at HBd2.out 0 rfl; have u2c := hb_lt HBr2.out; have u2d := hb_lt HBd2.out; have u2e := hb_lt HBx2.out; obtain ⟨x20, x21, x22, x23, x24, y20, y21, y22, y23, y24⟩ := box5 HBx2.out; have HS2 := HS1; clear hg hr)
    | (go_at_call 130; (with_reducible refine (HK2.out _ Q15).mono ?_); rintro e w3 ⟨rfl, hg, hr⟩; have HD3 := Hd hg; have HG3 : RowKit.Hid (Rg r w w3) := Hd Q4; have HR3 : RowKit.Hid (Rd r E w3 ts) := Hd hr; (have HBr3 := Hd (HD3.out.keep HBr2.out (by omega))); (have HBd3 := Hd (HD3.out.keep HBd2.out (by omega))); (have HBx3 := Hd (HD3.out.keep HBx2.out (by omega))); have u3a := hb_at HBr3.out 0 rfl; have u3b := hb_at HBd3.out 0 rfl; have u3c := hb_lt HBr3.out; have u3d := hb_lt HBd3.out; have u3e := hb_lt HBx3.out; obtain ⟨x30, x31, x32, x33, x34, y30, y31, y32, y33, y34⟩ := box5 HBx3.out; have HS3 := HS2; clear hg hr)
    | (go_at_call 130; (with_reducible refine (HK3.out _ Q18).mono ?_); rintro e w4 ⟨rfl, hg, hr⟩; have HD4 := Hd hg; have HG4 : RowKit.Hid (Rg r w w4) := Hd Q8; have HR4 : RowKit.Hid (Rd r E w4 ts) := Hd hr; (have HBr4 := Hd (HD4.out.keep HBr3.out (by omega))); (have HBd4 := Hd (HD4.out.keep HBd3.out (by omega))); (have HBx4 := Hd (HD4.out.keep HBx3.out (by omega))); have u4a := hb_at HBr4.out 0 rfl; have u4b := hb_at HBd4.out 0 rfl; have u4c := hb_lt HBr4.out; have u4d := hb_lt HBd4.out; have u4e := hb_lt HBx4.out; obtain ⟨x40, x41, x42, x43, x44, y40, y41, y42, y43, y44⟩ := box5 HBx4.out; have HS4 := HS3; clear hg hr)
    | (go_at_call 134; (with_reducible refine (applied_t r E (atomP E (exprP E g) (typP E g)) 135 _ _ _ Q17 HCF.out (expr1_any r E d g hd40 HAT.out _ _ w4 HBr4.out HBd4.out (by omega) (by omega))).mono ?_); rintro e w5 h5; rcases h5.step (HS4.out.trans (bnd_id _).symm) with ⟨v5, a5, ts5, rfl, hV, hR, hg, hS, hx⟩ | ⟨y, rfl, hg, hSE⟩; rotate_left; (have hGE : Rg r w w5 := Q6); rotate_left; (obtain ⟨k5, p5, n5, N5, q5, l5, c5, rfl⟩ := hV.shape; have HV5 := Hd hV); (have HR5 := Hd hR; have HG5 : RowKit.Hid (Rg r w w5) := Hd Q6; have HS5 := Hd hS; have HX5 := Hd hx; have HD5 := Hd hg; clear hR hg hS hx hV); (have HBr5 := Hd (HD5.out.keep HBr4.out (by omega))); (have HBd5 := Hd (HD5.out.keep HBd4.out (by omega))); (have HBx5 := Hd (HD5.out.keep HBx4.out (by omega))); have u5a := hb_at HBr5.out 0 rfl; have u5b := hb_at HBd5.out 0 rfl; have u5c := hb_lt HBr5.out; have u5d := hb_lt HBd5.out; have u5e := hb_lt HBx5.out; obtain ⟨x50, x51, x52, x53, x54, y50, y51, y52, y53, y54⟩ := box5 HBx5.out))
  all_goals first | exact ⟨rfl, hGE, rfl⟩ | exact ⟨rfl, hGE, by rw [hSE]⟩ | skip
  have hzz := HG4.out.size
  exact fin5 (w0 := w) rfl rfl rfl HBx5.out (by omega) HG5.out hrl HR5.out HS5.out w4.heap.size (by omega) (by omega) HV5.out
abbrev zT : Value := tv 0 ⟨#[]⟩ ⟨#[]⟩ 0 (.slice none 0 0)
theorem catch_idle (p q r : Nat) (w : World) : CallsD Tryz.prog 128 #[bp p, bp q, bp r] .returning w fun e u' w' => e = .returned (.tuple #[]) ∧ u' = .returning ∧ w' = w := by
 refine callsD_of_wpS Tryz.func128 rfl fun c₀ cs hu => ?_
 apply wpS_seq
 apply wpS_region
 simp [wpOpsS, go_sem, recoverD, hu, Tryz.ntmps128, Exit.thenS]
 have e : (#[bp p, bp q, bp r] ++ ((Array.replicate 20 undef).setIfInBounds 4 Value.nilIface).setIfInBounds 0 Value.nilIface : Array Value) = #[bp p, bp q, bp r, .nilIface, undef, undef, undef, .nilIface, undef, undef, undef, undef, undef, undef, undef, undef, undef, undef, undef, undef, undef, undef, undef] := by kernel_rfl
 rw [e]
 refine wpS_of_wp ?_
 go_wp2
 exact ⟨rfl, .returning, by cases c₀; cases hu; rfl, .tuple #[], by simp [results, Tryz.results128, go_sem], rfl, rfl, rfl⟩
def catW (w : World) (p q r x y : Nat) : World :=
 ((((set5w w p 0 ⟨#[]⟩ ⟨#[]⟩ 0 (.slice none 0 0)).setCell ⟨q, 0, none⟩ (.int .i64 x)).setCell ⟨r, 0, none⟩ (.int .i64 y)).alloc (.cells #[.int .i64 x, .int .i64 y] 146)).alloc (.cells #[.int .i64 0, .string ⟨#[]⟩, .string ⟨#[]⟩, .int .i64 0, .slice none 0 0] 24)
def CatF (w : World) (p q r x y : Nat) (w' : World) : Prop :=
 w'.heap[p]? = some (.cells #[.int .i64 0, .string ⟨#[]⟩, .string ⟨#[]⟩, .int .i64 0, .slice none 0 0] 24 (0, 0)) ∧ w'.heap[q]? = some (.cells #[.int .i64 x] 3 (0, 0)) ∧ w'.heap[r]? = some (.cells #[.int .i64 y] 36 (0, 0)) ∧
   w'.os = w.os ∧ w'.tape = w.tape ∧ w'.output = w.output ∧ w.heap.size ≤ w'.heap.size ∧ ∀ k, k < w.heap.size → k ≠ p → k ≠ q → k ≠ r → w'.heap[k]? = w.heap[k]?
theorem CatF.drew {w V : World} {p q r x y : Nat} (h : CatF w p q r x y V) : CatF w p q r x y V.drew := h
theorem catF {p q r x y : Nat} {c0 c1 c2 c3 c4 d0 f0 : Value} {w : World} (hp : w.heap[p]? = some (.cells #[c0, c1, c2, c3, c4] 24 (0, 0))) (hq : w.heap[q]? = some (.cells #[d0] 3 (0, 0))) (hr : w.heap[r]? = some (.cells #[f0] 36 (0, 0))) (hpq : p ≠ q) (hpr : p ≠ r) (hqr : q ≠ r)
 (W : World) (hW : W = (catW w p q r x y).drew) : CatF w p q r x y W := by
 rw [hW]
 clear hW
 apply CatF.drew
 have hP := set5w_box hp 0 ⟨#[]⟩ ⟨#[]⟩ 0 (.slice none 0 0)
 have hQ : (set5w w p 0 ⟨#[]⟩ ⟨#[]⟩ 0 (.slice none 0 0)).heap[q]? = some (.cells #[d0] 3 (0, 0)) := by rw [set5w_other (fun e => hpq e.symm)]; exact hq
 have hR : (set5w w p 0 ⟨#[]⟩ ⟨#[]⟩ 0 (.slice none 0 0)).heap[r]? = some (.cells #[f0] 36 (0, 0)) := by rw [set5w_other (fun e => hpr e.symm)]; exact hr
 have hsz : ((((set5w w p 0 ⟨#[]⟩ ⟨#[]⟩ 0 (.slice none 0 0)).setCell ⟨q, 0, none⟩ (.int .i64 (x : Nat))).setCell ⟨r, 0, none⟩ (.int .i64 (y : Nat)))).heap.size = w.heap.size := by simp [set5w, World.setCell]
 unfold catW
 have o1 : ∀ (V : World) (o : Obj), (V.alloc o).os = V.os ∧ (V.alloc o).tape = V.tape ∧ (V.alloc o).output = V.output := fun _ _ => ⟨rfl, rfl, rfl⟩
 have o2 : ∀ (V : World) (a : Addr) (v : Value), (V.setCell a v).os = V.os ∧ (V.setCell a v).tape = V.tape ∧ (V.setCell a v).output = V.output := fun _ _ _ => ⟨rfl, rfl, rfl⟩
 refine ⟨?_, ?_, ?_, by simp only [set5w, o1, o2], by simp only [set5w, o1, o2], by simp only [set5w, o1, o2], by rw [World.size_alloc, World.size_alloc, hsz]; omega, fun k hk h1 h2 h3 => ?_⟩
 · exact hb_alloc (hb_alloc (hb_set_other (hb_set_other hP (a := ⟨q, 0, none⟩) _ hpq) (a := ⟨r, 0, none⟩) _ hpr) _) _
 · exact hb_alloc (hb_alloc (hb_set_other (hb_set_same hQ 0 _) (a := ⟨r, 0, none⟩) _ hqr) _) _
 · exact hb_alloc (hb_alloc (hb_set_same (hb_set_other hR (a := ⟨q, 0, none⟩) _ (fun e => hqr e.symm)) 0 _) _) _
 · rw [Below.heap_alloc _ _ _ (by rw [World.size_alloc, hsz]; omega), Below.heap_alloc _ _ _ (by rw [hsz]; exact hk), Below.heap_setCell _ _ _ _ h3, Below.heap_setCell _ _ _ _ h2]
   exact set5w_other h1
theorem assert_fault (V : Value) (w : World) : (Instr.typeAssert (.iface 146 V) 20 146 true).run Tryz.prog w = .ok (.tuple #[V, .bool true]) w := by kernel_rfl
theorem catch_panicking (p q r : Nat) (x y : Nat) (older : List PanicEntry) (c0 c1 c2 c3 c4 d0 f0 : Value) (w : World) (hp : w.heap[p]? = some (.cells #[c0, c1, c2, c3, c4] 24 (0, 0))) (hq : w.heap[q]? = some (.cells #[d0] 3 (0, 0))) (hr : w.heap[r]? = some (.cells #[f0] 36 (0, 0))) (hpq : p ≠ q) (hpr : p ≠ r) (hqr : q ≠ r) :
 CallsD Tryz.prog 128 #[bp p, bp q, bp r] (.panicking ({ v := .iface 146 (.agg #[.int .i64 x, .int .i64 y]), recovered := false } :: older)) w fun e u' w' =>
  e = .returned (.tuple #[]) ∧ u' = .panicking ({ v := .iface 146 (.agg #[.int .i64 x, .int .i64 y]), recovered := true } :: older) ∧
  CatF w p q r x y w' := by
 obtain ⟨x0, x1, x2, x3, x4, y0, y1, y2, y3, y4⟩ := box5 hp
 have s0 := hb_at hq 0 rfl
 have s1 := hb_free hq 0
 have t0 := hb_at hr 0 rfl
 have t1 := hb_free hr 0
 have z1 := hb_lt hp
 have z2 := hb_lt hq
 have z3 := hb_lt hr
 refine callsD_of_wpS Tryz.func128 rfl fun c₀ cs hu => ?_
 apply wpS_seq
 apply wpS_region
 simp [wpOpsS, go_sem, recoverD, hu, Tryz.ntmps128, Exit.thenS]
 have e : (#[bp p, bp q, bp r] ++ ((Array.replicate 20 undef).setIfInBounds 4 (Value.iface 146 (.agg #[.int .i64 x, .int .i64 y]))).setIfInBounds 0 (Value.iface 146 (.agg #[.int .i64 x, .int .i64 y])) : Array Value) = #[bp p, bp q, bp r, (Value.iface 146 (.agg #[.int .i64 x, .int .i64 y])), undef, undef, undef, (Value.iface 146 (.agg #[.int .i64 x, .int .i64 y])), undef, undef, undef, undef, undef, undef, undef, undef, undef, undef, undef, undef, undef, undef, undef] := by kernel_rfl
 rw [e]
 clear e
 refine wpS_of_wp ?_
 have ha := assert_fault (.agg #[.int .i64 x, .int .i64 y])
 go_wp2
 go_region_with (fail)
 all_goals
  go_wp2
  exact ⟨rfl, _, rfl, .tuple #[], by simp [results, Tryz.results128, go_sem], rfl, rfl, catF hp hq hr hpq hpr hqr _ rfl⟩
end Go.Proofs.YtmkjalnlldpdcaaGreatDoor
