/- Texts in a row: Pi Pj Pk Pl. -/
import Derived.Test.YtmkjalnlldpdcaaGreatDoorZT23
set_option maxHeartbeats 16000000
set_option maxRecDepth 100000
namespace Go.Proofs.YtmkjalnlldpdcaaGreatDoor
open Go.RowKit
set_option linter.unusedSimpArgs false
set_option linter.unusedVariables false
theorem boxes3 (w : World) (a b c : Obj) : (((w.alloc a).alloc b).alloc c).heap[w.heap.size]? = some a ∧ (((w.alloc a).alloc b).alloc c).heap[w.heap.size + 1]? = some b ∧ (((w.alloc a).alloc b).alloc c).heap[w.heap.size + 2]? = some c ∧
 (((w.alloc a).alloc b).alloc c).heap.size = w.heap.size + 3 ∧ Below w.heap.size w (((w.alloc a).alloc b).alloc c) := by
 have h1 := hb_new (w.alloc a) b
 have h2 := hb_new ((w.alloc a).alloc b) c
 rw [World.size_alloc] at h1
 rw [World.size_alloc, World.size_alloc] at h2
 refine ⟨hb_alloc (hb_alloc (hb_new w a) b) c, hb_alloc h1 c, h2, by simp, ?_⟩
 exact (((Below.refl _ w).alloc (Nat.le_refl _) a).alloc (by simp) b).alloc Q69 c
abbrev bp (b : Nat) : Value := .pointer (some ⟨b, 0, none⟩)
theorem typ1_any (r E d g : Nat) (hd : d ≤ 40) (IH : ∀ ts W, Rd r E W ts → Calls Tryz.prog 74 #[rp r, .int .i64 ((d + 1 : Nat) : Int)] W (Got r E TmV W (typP E g ts))) (br bd : Nat) (w0 : World)
 (hbr : w0.heap[br]? = some (.cells #[rp r] 107 (0, 0))) (hbd : w0.heap[bd]? = some (.cells #[.int .i64 (d : Nat)] 3 (0, 0))) (h1 : br ≠ r) (h2 : bd ≠ r) : OneT r E (typP E g) 138 #[bp br, bp bd] w0 := by
 intro w ts hg hR
 have kr := hg.keep hbr h1
 have kd := hg.keep hbd h2
 have x0 := hb_at kr 0 rfl
 have x1 := hb_at kd 0 rfl
 have z0 := hb_lt kr
 have z1 := hb_lt kd
 have hrl := hR.lt
 have HR0 := Hd hR
 have HG0 : RowKit.Hid (Rg r w w) := Hd (Rg.refl r w)
 obtain ⟨S, hS⟩ : ∃ S, S = typP E g ts := ⟨_, rfl⟩
 have HS0 := Hd hS
 rw [← hS]
 have HI := Hd IH
 clear hR hS hg hbr hbd kr kd IH
 have hc : ((d + 1 : Nat) : Int) = (d : Int) + 1 := by omega
 rw [hc] at HI
 go_enter Tryz.func138, Tryz.ntmps138
 go_wp2_with (go_at_call 74; (with_reducible refine (HI.out _ _ Q16).mono ?_); rintro e w1 h1; rcases h1.step (HS0.out.trans (bnd_id _).symm) with ⟨v1, a1, ts1, rfl, hV, hR, hg, hS, hx⟩ | ⟨y, rfl, hg, hSE⟩; rotate_left; (have hGE : Rg r w w1 := Q7); rotate_left; (obtain ⟨k1, p1, n1, N1, q1, l1, c1, rfl⟩ := hV.shape; have HV1 := Hd hV); (have HR1 := Hd hR; have HG1 : RowKit.Hid (Rg r w w1) := Hd Q7; have HS1 := Hd hS; have HX1 := Hd hx; have HD1 := Hd hg; clear hR hg hS hx hV); (have HBr1 := Hd (HD1.out.keep (hb_new _ _) (by omega)); obtain ⟨x0, x1, x2, x3, x4, y0, y1, y2, y3, y4⟩ := box5 HBr1.out))
 all_goals first | exact ⟨rfl, hGE, rfl⟩ | exact ⟨rfl, hGE, by rw [hSE]⟩ | skip
 exact fin5 (w0 := w) rfl rfl rfl HBr1.out (Nat.le_refl _) HG1.out hrl HR1.out HS1.out (w.heap.size + 1) (by omega) (by omega) Q31
theorem typA_any (r E : Nat) : ∀ (g d : Nat), d + g = 41 → ∀ (ts : Ts) (w : World), Rd r E w ts → Calls Tryz.prog 74 #[rp r, .int .i64 (d : Nat)] w (Got r E TmV w (typP E g ts)) := by
 intro g
 induction g with
 | zero =>
  intro d hd ts w hR
  have hd41 : 40 < d := by omega
  have HR0 := Hd hR
  have hrl := hR.lt
  have HB := Hd (fun W hW => begin_no r E d hd41 ts W hW)
  have hS : typP E 0 ts = .error ((nx E ts).2, 9) := rfl
  rw [hS]
  clear hR hS hd hd41
  go_enter Tryz.func74, Tryz.ntmps74
  go_wp2_with (go_at_call 129; (with_reducible refine (HB.out _ Q16).mono ?_); rintro e w1 ⟨rfl, hg⟩)
  exact ⟨rfl, (((Rg.refl r w).alloc _).alloc _ |>.alloc _).trans hg, rfl⟩
 | succ g ih =>
  intro d hd ts w hR
  have hd40 : d ≤ 40 := by omega
  have HIH := Hd (ih (d + 1) (by omega))
  have HIN : RowKit.Hid (∀ (ts : Ts) (w : World), Rd r E w ts → Calls Tryz.prog 74 #[rp r, .int .i64 ((d : Int) + 1)] w (Got r E TmV w (typP E g ts))) := Hd (ih (d + 1) (by omega))
  have hw1 : IntKind.i64.wrap ((d : Int) + 1) = (d : Int) + 1 := IntWalk.i64_in _ (by omega)
  have HR0 := Hd hR
  have hrl := hR.lt
  have HBG := Hd (fun W hW => begin_ok r E d hd40 ts W hW)
  have HM := Hd (typP_mono E g)
  have HCF : RowKit.Hid (∀ W, (callFunc 138 #[bp w.heap.size, bp (w.heap.size + 1)]).run Tryz.prog W = .ok (.enter 138 #[bp w.heap.size, bp (w.heap.size + 1)]) W) := Hd (fun W => by kernel_rfl)
  obtain ⟨S, hS⟩ : ∃ S, S = typP E (g + 1) ts := ⟨_, rfl⟩
  have HS0 := Hd hS
  rw [← hS]
  unfold typP at HS0
  clear hR hS ih
  go_enter Tryz.func74, Tryz.ntmps74
  go_upto_region 1 with (fail)
  obtain ⟨c0, c1, c2, hz3, hb3⟩ := boxes3 w (.cells #[rp r] 107) (.cells #[.int .i64 (d : Nat)] 3) (.cells #[.int .i64 0, .string ⟨#[]⟩, .string ⟨#[]⟩, .int .i64 0, .slice none 0 0] 24)
  generalize hW1 : ((w.alloc (.cells #[rp r] 107)).alloc (.cells #[.int .i64 (d : Nat)] 3)).alloc (.cells #[.int .i64 0, .string ⟨#[]⟩, .string ⟨#[]⟩, .int .i64 0, .slice none 0 0] 24) = W1 at *
  have HBr1 := Hd c0
  have HBd1 := Hd c1
  have HBx1 := Hd c2
  have HR1 : RowKit.Hid (Rd r E W1 ts) := Hd (HR0.out.below hb3)
  have HG1 : RowKit.Hid (Rg r w W1) := Hd (Rg.of_below hb3)
  have HS1 := HS0
  have x0 := hb_at c0 0 rfl
  have x1 := hb_at c1 0 rfl
  have q0 := hb_lt c0
  have q1 := hb_lt c1
  have q2 := hb_lt c2
  clear hW1 c0 c1 c2 hb3
  go_upto_region 2 with (go_at_call 129; (with_reducible refine (HBG.out _ HR1.out).mono ?_); rintro e w2 ⟨rfl, rfl⟩)
  go_wp2_with (first
   | (go_at_call 137; (with_reducible refine (typeAtom_t r E (typP E g) 138 _ _ _ Q14 HM.out HCF.out (typ1_any r E d g hd40 HIH.out _ _ _ HBr1.out HBd1.out (by omega) (by omega))).mono ?_); rintro e w2 h2; rcases h2.step HS1.out with ⟨v2, a2, ts2, rfl, hV, hR, hg, hS, hx⟩ | ⟨y, rfl, hg, hSE⟩; rotate_left; (have hGE : Rg r w w2 := Q5); rotate_left; (obtain ⟨k2, p2, n2, N2, q2, l2, c2, rfl⟩ := hV.shape; have HV2 := Hd hV); (have HR2 := Hd hR; have HG2 : RowKit.Hid (Rg r w w2) := Hd Q5; have HS2 := Hd hS; have HX2 := Hd hx; have HD2 := Hd hg; clear hR hg hS hx hV); (have HBr2 := Hd (HD2.out.keep HBr1.out (by omega))); (have HBd2 := Hd (HD2.out.keep HBd1.out (by omega))); (have HBx2 := Hd (HD2.out.keep HBx1.out (by omega))); have u2a := hb_at HBr2.out 0 rfl; have u2b := hb_at HBd2.out 0 rfl; have u2c := hb_lt HBr2.out; have u2d := hb_lt HBd2.out; have u2e := hb_lt HBx2.out; obtain ⟨x20, x21, x22, x23, x24, y20, y21, y22, y23, y24⟩ := box5 HBx2.out)
   | (go_at_call 139; (with_reducible refine (skipSign_any r E sArrow ts2 _ Q15).mono ?_); rintro e w3 ⟨rfl, hg, hr⟩; have HD3 := Hd hg; have HG3 : RowKit.Hid (Rg r w w3) := Hd Q4; have HBt3 := Hd (HD3.out.keep (hb_new _ _) (by omega)); have hS2 := HS2.out; (have HBr3 := Hd (HD3.out.keep (hb_alloc HBr2.out _) (by omega))); (have HBd3 := Hd (HD3.out.keep (hb_alloc HBd2.out _) (by omega))); (have HBx3 := Hd (HD3.out.keep (hb_alloc HBx2.out _) (by omega))); have u3a := hb_at HBr3.out 0 rfl; have u3b := hb_at HBd3.out 0 rfl; have u3c := hb_lt HBr3.out; have u3d := hb_lt HBd3.out; have u3e := hb_lt HBx3.out; obtain ⟨x30, x31, x32, x33, x34, y30, y31, y32, y33, y34⟩ := box5 HBx3.out; obtain ⟨s0, s1, s2, s3, s4, _⟩ := box5 HBt3.out; (cases hB : isB 8 sArrow ts2 <;> (rw [hB] at hS2 hr; first | rw [if_pos rfl] at hS2 hr | rw [if_neg (by decide)] at hS2 hr) <;> (have HS3 := Hd hS2; have HR3 := Hd hr; clear hS2 hr hB hg))))
  all_goals first | exact ⟨rfl, hGE, rfl⟩ | exact ⟨rfl, hGE, by rw [hSE]⟩ | skip
  · exact fin5 (w0 := w) rfl rfl rfl HBx3.out (by omega) HG3.out hrl HR3.out HS3.out (w.heap.size + 3) (by omega) (by omega) (by
     obtain ⟨D, h⟩ := HV2.out
     exact ⟨D, h.move fun b hb hl => by
      unfold New at hb
      exact ⟨by omega, by rw [HD3.out.same Q69 (by omega), Below.heap_alloc _ _ _ hl]⟩⟩)
  · go_region_with (go_at_call 74; (with_reducible refine (HIN.out _ _ Q18).mono ?_); rintro e w4 h4; rcases h4.step HS3.out with ⟨v4, a4, ts4, rfl, hV, hR, hg, hS, hx⟩ | ⟨y, rfl, hg, hSE⟩; rotate_left; (have hGE : Rg r w w4 := Q8; subst hSE; exact ⟨rfl, hGE, rfl⟩); (obtain ⟨k4, p4, n4, N4, q4, l4, c4, rfl⟩ := hV.shape; have HV4 := Hd hV); (have HR4 := Hd hR; have HG4 : RowKit.Hid (Rg r w w4) := Hd Q8; have HS4 := Hd hS; have HX4 := Hd hx; have HD4 := Hd hg; clear hR hg hS hx hV); (have HBr4 := Hd (HD4.out.keep HBr3.out (by omega))); (have HBd4 := Hd (HD4.out.keep HBd3.out (by omega))); (have HBx4 := Hd (HD4.out.keep HBx3.out (by omega))); have u4a := hb_at HBr4.out 0 rfl; have u4b := hb_at HBd4.out 0 rfl; have u4c := hb_lt HBr4.out; have u4d := hb_lt HBd4.out; have u4e := hb_lt HBx4.out; obtain ⟨x40, x41, x42, x43, x44, y40, y41, y42, y43, y44⟩ := box5 HBx4.out; have HBt4 := Hd (HD4.out.keep HBt3.out (by omega)); obtain ⟨t0, t1, t2, t3, t4, _⟩ := box5 HBt4.out; have qt4 := hb_lt HBt4.out)
    all_goals
     go_wp2
     have hz4 := HD4.out.size
     refine fin_t (w0 := w) (Wf := (set5w w4 (w.heap.size + 1 + 1) 3 ⟨#[]⟩ ⟨#[]⟩ 0 (.slice (some ⟨w4.heap.size, 0, none⟩) 2 2)).alloc (.cells #[.int .i64 k2, .string p2, .string n2, .int .i64 N2, .slice q2 l2 c2, .int .i64 k4, .string p4, .string n4, .int .i64 N4, .slice q4 l4 c4] 24)) rfl rfl rfl (hb_alloc (set5w_box HBx4.out _ _ _ _ _) _) ((HG4.out.set5w (by omega) _ _ _ _ _).alloc _) ((HR4.out.set5w (by omega) _ _ _ _ _).alloc _) HS4.out ?_
     refine kids_of (SlG.two (show w.heap.size ≤ w4.heap.size by omega) (set5a_new _ _ _ _ _ _ _ _) ?_ ?_) (by simp) (by decide) (by decide)
     · obtain ⟨D, h⟩ := HV2.out
       exact ⟨D, h.move fun b hb hl => by
        unfold New at hb
        have e3 : w3.heap[b]? = w2.heap[b]? := by rw [HD3.out.same Q69 (by omega), Below.heap_alloc _ _ _ hl]
        have z3 := HD3.out.size
        rw [World.size_alloc] at z3
        exact ⟨by omega, by rw [set5a_other (by omega) (by omega), HD4.out.same (by show b < w3.heap.size; omega) (by omega)]; exact e3⟩⟩
     · obtain ⟨D, h⟩ := HV4.out
       exact ⟨D, h.move fun b hb hl => by
        unfold New at hb
        have hb2 : w3.heap.size ≤ b := hb
        exact ⟨by omega, set5a_other (by omega) hl⟩⟩
theorem box4 {w : World} {g : Nat} {c0 c1 c2 c3 : Value} {t : TypeId} (hb : w.heap[g]? = some (.cells #[c0, c1, c2, c3] t (0, 0))) : w.cell? ⟨g, 0, none⟩ = some c0 ∧ w.cell? ⟨g, 1, none⟩ = some c1 ∧ w.cell? ⟨g, 2, none⟩ = some c2 ∧ w.cell? ⟨g, 3, none⟩ = some c3 ∧ w.frozen? ⟨g, 0, none⟩ = false :=
 ⟨hb_at hb 0 rfl, hb_at hb 1 rfl, hb_at hb 2 rfl, hb_at hb 3 rfl, hb_free hb 0⟩
theorem LsV.single {w w1 : World} {k N : Int} {p n : ByteArray} {q : Option Addr} {l c : Nat} {t : Tm} (h : TmV w w1 (tv k p n N (.slice q l c)) t) (hs : w.heap.size ≤ w1.heap.size) :
 LsV w (w1.alloc (.cells #[.int .i64 k, .string p, .string n, .int .i64 N, .slice q l c] 24)) (.slice (some ⟨w1.heap.size, 0, none⟩) 1 1) [t] := by
 obtain ⟨d, h⟩ := h
 refine ⟨(RowG.one (K := termK) (base := w.heap.size) (cs := [.int .i64 k, .string p, .string n, .int .i64 N, .slice q l c]) ⟨_, _, _, _, _, d, rfl, h⟩ hs _ rfl), by simp⟩
theorem annotation_any (r E g d : Nat) (hd : d + g = 41) (ts : Ts) (w : World) (hR : Rd r E w ts) : Calls Tryz.prog 181 #[rp r, .int .i64 (d : Nat)] w (Got r E LsV w (annP E (typP E g) ts)) := by
 have HR0 := Hd hR
 have hrl := hR.lt
 have HG0 : RowKit.Hid (Rg r w w) := Hd (Rg.refl r w)
 obtain ⟨S, hS⟩ : ∃ S, S = annP E (typP E g) ts := ⟨_, rfl⟩
 have HS0 := Hd hS
 rw [← hS]
 unfold annP at HS0
 clear hR hS
 go_enter Tryz.func181, Tryz.ntmps181
 go_wp2_with (first
  | (go_at_call 139; (with_reducible refine (skipSign_any r E sColon ts _ Q16).mono ?_); rintro e w1 ⟨rfl, hg, hr⟩; have HD1 := Hd hg; have HG1 : RowKit.Hid (Rg r w w1) := Hd Q7; have hS := HS0.out; (cases hB : isB 8 sColon ts <;> (rw [hB] at hS hr; first | rw [if_pos rfl] at hS hr | rw [if_neg (by decide)] at hS hr) <;> (have HS1 := Hd hS; have HR1 := Hd hr; clear hS hr hB hg)))
  | (go_at_call 74; (with_reducible refine (typA_any r E g d hd _ _ Q14).mono ?_); rintro e w2 h2; rcases h2.step HS1.out with ⟨v2, a2, ts2, rfl, hV, hR, hg, hS, hx⟩ | ⟨y, rfl, hg, hSE⟩; rotate_left; (have hGE : Rg r w w2 := Q5); rotate_left; (obtain ⟨k2, p2, n2, N2, q2, l2, c2, rfl⟩ := hV.shape; have HV2 := Hd hV); (have HR2 := Hd hR; have HG2 : RowKit.Hid (Rg r w w2) := Hd Q5; have HS2 := Hd hS; have HX2 := Hd hx; have HD2 := Hd hg; clear hR hg hS hx hV)))
 all_goals first | exact ⟨rfl, hGE, rfl⟩ | exact ⟨rfl, hGE, by rw [hSE]⟩ | skip
 all_goals go_ret
 · exact ⟨HG1.out, by rw [HS1.out]; exact ⟨⟨_, rfl, LsV.nil _ _⟩, HR1.out⟩⟩
 · exact ⟨HG2.out.alloc _, by rw [HS2.out]; exact ⟨⟨_, rfl, (LsV.single HV2.out HD2.out.size).up HG1.out.size⟩, HR2.out.alloc _⟩⟩
theorem Rd.behind {r E : Nat} {w : World} {t : Tk × Nat} {ts : Ts} (h : Rd r E w (t :: ts)) : ∃ b o c, w.heap[r]? = some (.cells #[.slice (some ⟨b, o, none⟩) (ts.length + 1) c, .int .i64 (E : Nat)] 149 (0, 0)) ∧ ts.length + 1 ≤ c ∧ c ≤ maxLen ∧
 ∀ q' c', (ts = [] ∨ q' = some ⟨b, o + 4, none⟩) → ts.length ≤ c' → c' ≤ maxLen → Rd w.heap.size 0 (w.alloc (.cells #[.slice q' ts.length c', .int .i64 0] 149)) ts := by
 have hrl := h.lt
 obtain ⟨hE, v, hr, q, c, rfl, hlc, hcm, hl6, hts⟩ := h
 obtain ⟨hz, b, o, rfl, hbr, ht⟩ := hts 0 t rfl
 rw [List.length_cons] at hlc hl6
 refine ⟨b, o, c, hr, hlc, hcm, fun q' c' hq hc1 hc2 => ⟨by omega, _, hb_new w _, q', c', rfl, hc1, hc2, by omega, fun i x hx => ?_⟩⟩
 obtain ⟨hz2, b2, o2, e, hb2, ht2⟩ := hts (i + 1) x hx
 cases e
 rcases hq with rfl | rfl
 · simp at hx
 refine ⟨hz2, b, o + 4, rfl, by omega, ?_⟩
 have e2 : o + (i + 1) * 4 = o + 4 + i * 4 := by omega
 rw [e2] at ht2
 exact ht2.move (Below.heap_alloc _ _ _ ht2.lt)
theorem qualifier_any (r E : Nat) (ts : Ts) (hk : Proofs.YtmkjalnlldpdcaaGreatDoor.kd ts = 2) (w : World) (hR : Rd r E w ts) : Calls Tryz.prog 188 #[rp r] w (Got r E StV w (qualP E ts)) := by
 obtain ⟨t, ts, rfl⟩ := isB_cons (k := 2) (by decide) hk
 obtain ⟨b, o, c, hr, hlc, hcm, hbh⟩ := hR.behind
 have z0 := hb_at hr 0 rfl
 have HR0 := Hd hR
 have hrl := hR.lt
 have HG0 : RowKit.Hid (Rg r w w) := Hd (Rg.refl r w)
 obtain ⟨S, hS⟩ : ∃ S, S = qualP E (t :: ts) := ⟨_, rfl⟩
 have HS0 := Hd hS
 rw [← hS]
 unfold qualP at HS0
 clear hR hS
 have HB := Hd hbh
 clear hbh hr
 have hc1 : c = 1 ∨ c ≠ 1 := Nat.eq_or_lt_of_le (by omega : 1 ≤ c) |>.elim (fun h => .inl h.symm) (fun h => .inr (by omega))
 go_enter Tryz.func188, Tryz.ntmps188
 go_wp2_with (first
  | (go_at_call 191; (with_reducible refine (is_any w.heap.size 0 8 sDot ts _ (by first | exact HB.out _ _ (.inr rfl) (by omega) (by omega) | exact HB.out _ _ (.inl (List.eq_nil_of_length_eq_zero (by omega))) (by omega) (by omega))).mono ?_); rintro e w1 ⟨rfl, hb⟩; have HD1 := Hd hb; have HR1 : RowKit.Hid (Rd r E w1 (t :: ts)) := Hd ((HR0.out.alloc _).below hb); have HG1 : RowKit.Hid (Rg r w w1) := Hd ((HG0.out.alloc _).trans (Rg.of_below hb)); have hS := HS0.out; (cases hB : isB 8 sDot ts <;> (rw [List.tail_cons, hB] at hS; first | rw [if_pos rfl] at hS | rw [if_neg (by decide)] at hS) <;> (have HS1 := Hd hS; clear hS hB hb)))
  | (go_at_call 180; (with_reducible refine (take_st r E 2 _ (by decide) _ Q14).mono ?_); rintro e w2 h2; rcases h2.step HS1.out with ⟨v2, a2, ts2, rfl, hV, hR, hg, hS, hx⟩ | ⟨y, rfl, hg, hSE⟩; rotate_left; (have hGE : Rg r w w2 := Q5); rotate_left; (obtain ⟨rfl, hst2⟩ := hV); (have HR2 := Hd hR; have HG2 : RowKit.Hid (Rg r w w2) := Hd Q5; have HS2 := Hd hS; have HX2 := Hd hx; have HD2 := Hd hg; clear hR hg hS hx))
  | (go_at_call 125; (with_reducible refine (sign_any r E sDot _ _ Q15).mono ?_); rintro e w3 h3; rcases h3.step HS2.out with ⟨v3, a3, ts3, rfl, hV, hR, hg, hS, hx⟩ | ⟨y, rfl, hg, hSE⟩; rotate_left; (have hGE : Rg r w w3 := Q4); rotate_left; (obtain rfl := hV); (have HR3 := Hd hR; have HG3 : RowKit.Hid (Rg r w w3) := Hd Q4; have HS3 := Hd hS; have HX3 := Hd hx; have HD3 := Hd hg; clear hR hg hS hx)))
 all_goals first | exact ⟨rfl, hGE, rfl⟩ | exact ⟨rfl, hGE, by rw [hSE]⟩ | skip
 all_goals go_ret
 all_goals first
  | exact ⟨HG3.out, by rw [HS3.out]; exact ⟨⟨_, rfl, rfl, hst2⟩, HR3.out⟩⟩
  | exact ⟨HG1.out, by rw [HS1.out]; exact ⟨⟨_, rfl, rfl, (by decide : e0.size ≤ 4194304)⟩, HR1.out⟩⟩
theorem pat1_any (r E d g : Nat) (hd : d ≤ 40) (IH : ∀ ts W, Rd r E W ts → Calls Tryz.prog 185 #[rp r, .int .i64 ((d + 1 : Nat) : Int)] W (Got r E TmV W (patP E g ts))) (br bd : Nat) (w0 : World)
 (hbr : w0.heap[br]? = some (.cells #[rp r] 107 (0, 0))) (hbd : w0.heap[bd]? = some (.cells #[.int .i64 (d : Nat)] 3 (0, 0))) (h1 : br ≠ r) (h2 : bd ≠ r) : OneT r E (patP E g) 231 #[bp br, bp bd] w0 := by
 intro w ts hg hR
 have kr := hg.keep hbr h1
 have kd := hg.keep hbd h2
 have x0 := hb_at kr 0 rfl
 have x1 := hb_at kd 0 rfl
 have z0 := hb_lt kr
 have z1 := hb_lt kd
 have hrl := hR.lt
 have HR0 := Hd hR
 have HG0 : RowKit.Hid (Rg r w w) := Hd (Rg.refl r w)
 obtain ⟨S, hS⟩ : ∃ S, S = patP E g ts := ⟨_, rfl⟩
 have HS0 := Hd hS
 rw [← hS]
 have HI := Hd IH
 clear hR hS hg hbr hbd kr kd IH
 have hc : ((d + 1 : Nat) : Int) = (d : Int) + 1 := by omega
 rw [hc] at HI
 go_enter Tryz.func231, Tryz.ntmps231
 go_wp2_with (go_at_call 185; (with_reducible refine (HI.out _ _ Q16).mono ?_); rintro e w1 h1; rcases h1.step (HS0.out.trans (bnd_id _).symm) with ⟨v1, a1, ts1, rfl, hV, hR, hg, hS, hx⟩ | ⟨y, rfl, hg, hSE⟩; rotate_left; (have hGE : Rg r w w1 := Q7); rotate_left; (obtain ⟨k1, p1, n1, N1, q1, l1, c1, rfl⟩ := hV.shape; have HV1 := Hd hV); (have HR1 := Hd hR; have HG1 : RowKit.Hid (Rg r w w1) := Hd Q7; have HS1 := Hd hS; have HX1 := Hd hx; have HD1 := Hd hg; clear hR hg hS hx hV); (have HBr1 := Hd (HD1.out.keep (hb_new _ _) (by omega)); obtain ⟨x0, x1, x2, x3, x4, y0, y1, y2, y3, y4⟩ := box5 HBr1.out))
 all_goals first | exact ⟨rfl, hGE, rfl⟩ | exact ⟨rfl, hGE, by rw [hSE]⟩ | skip
 exact fin5 (w0 := w) rfl rfl rfl HBr1.out (Nat.le_refl _) HG1.out hrl HR1.out HS1.out (w.heap.size + 1) (by omega) (by omega) Q31
theorem patR_any (r E : Nat) : ∀ (g d : Nat), d + g = 41 → ∀ (ts : Ts) (w : World), Rd r E w ts → Calls Tryz.prog 185 #[rp r, .int .i64 (d : Nat)] w (Got r E TmV w (patP E g ts)) := by
 intro g
 induction g with
 | zero =>
  intro d hd ts w hR
  have hd41 : 40 < d := by omega
  have HR0 := Hd hR
  have hrl := hR.lt
  have HB := Hd (fun W hW => begin_no r E d hd41 ts W hW)
  have hS : patP E 0 ts = .error ((nx E ts).2, 9) := rfl
  rw [hS]
  clear hR hS hd hd41
  go_enter Tryz.func185, Tryz.ntmps185
  go_wp2_with (go_at_call 129; (with_reducible refine (HB.out _ Q16).mono ?_); rintro e w1 ⟨rfl, hg⟩)
  exact ⟨rfl, (((Rg.refl r w).alloc _).alloc _ |>.alloc _).trans hg, rfl⟩
 | succ g ih =>
  intro d hd ts w hR
  have hd40 : d ≤ 40 := by omega
  have HIH := Hd (ih (d + 1) (by omega))
  have HR0 := Hd hR
  have hrl := hR.lt
  have HBG := Hd (fun W hW => begin_ok r E d hd40 ts W hW)
  have HM := Hd (patP_mono E g)
  have HCF : RowKit.Hid (∀ W, (callFunc 231 #[bp w.heap.size, bp (w.heap.size + 1)]).run Tryz.prog W = .ok (.enter 231 #[bp w.heap.size, bp (w.heap.size + 1)]) W) := Hd (fun W => by kernel_rfl)
  obtain ⟨S, hS⟩ : ∃ S, S = patP E (g + 1) ts := ⟨_, rfl⟩
  have HS0 := Hd hS
  rw [← hS]
  unfold patP at HS0
  clear hR hS ih
  have HN0 := Hd (fun W hW => next_any r E ts W hW)
  have hnx : (nx E ts).1 = (nx 0 ts).1 := by cases ts <;> rfl
  unfold tokV at HN0
  unfold kd at HS0
  rw [← hnx] at HS0
  have HKD : RowKit.Hid (kd ts = (nx E ts).1.k) := Hd (by rw [hnx]; rfl)
  clear hnx
  generalize nx E ts = T at *
  obtain ⟨⟨nk, nz, nn⟩, na⟩ := T
  have HN : RowKit.Hid (∀ W, Rd r E W ts → Calls Tryz.prog 173 #[rp r] W fun e w' => e = .returned (.agg #[.int .i64 nk, .string nz, .int .i64 nn, .int .i64 (na : Nat)]) ∧ Below W.heap.size W w') := HN0
  clear HN0
  have hf0 := fld0 nk nn na nz
  by_cases h1 : nk = 1
  · have h := HS0.out
    rw [if_pos h1] at h
    have HSa := Hd h
    subst h1
    clear HS0 h 
    have HS0 := HSa
    go_enter Tryz.func185, Tryz.ntmps185
    go_upto_region 1 with (fail)
    obtain ⟨c0, c1, c2, hz3, hb3⟩ := boxes3 w (.cells #[rp r] 107) (.cells #[.int .i64 (d : Nat)] 3) (.cells #[.int .i64 0, .string ⟨#[]⟩, .string ⟨#[]⟩, .int .i64 0, .slice none 0 0] 24)
    generalize hW1 : ((w.alloc (.cells #[rp r] 107)).alloc (.cells #[.int .i64 (d : Nat)] 3)).alloc (.cells #[.int .i64 0, .string ⟨#[]⟩, .string ⟨#[]⟩, .int .i64 0, .slice none 0 0] 24) = W1 at *
    have HBr1 := Hd c0
    have HBd1 := Hd c1
    have HBx1 := Hd c2
    have HR1 : RowKit.Hid (Rd r E W1 ts) := Hd (HR0.out.below hb3)
    have HG1 : RowKit.Hid (Rg r w W1) := Hd (Rg.of_below hb3)
    have HS1 := HS0
    have x0 := hb_at c0 0 rfl
    have x1 := hb_at c1 0 rfl
    have q0 := hb_lt c0
    have q1 := hb_lt c1
    have q2 := hb_lt c2
    clear hW1 c0 c1 c2 hb3
    go_wp2_with (first
     | (go_at_call 129; (with_reducible refine (HBG.out _ HR1.out).mono ?_); rintro e w2 ⟨rfl, rfl⟩)
     | (go_at_call 173; (with_reducible refine (HN.out _ Q14).mono ?_); rintro e w2 ⟨rfl, hb⟩; have HG2 : RowKit.Hid (Rg r w w2) := Hd Q26; have HR2 : RowKit.Hid (Rd r E w2 ts) := Hd Q34; have HD2 := Hd (Rg.of_below (r := r) hb); have HS2 := HS1; (have HBr2 := Hd (HD2.out.keep HBr1.out (by omega))); (have HBd2 := Hd (HD2.out.keep HBd1.out (by omega))); (have HBx2 := Hd (HD2.out.keep HBx1.out (by omega))); have u2a := hb_at HBr2.out 0 rfl; have u2b := hb_at HBd2.out 0 rfl; have u2c := hb_lt HBr2.out; have u2d := hb_lt HBd2.out; have u2e := hb_lt HBx2.out; obtain ⟨x20, x21, x22, x23, x24, y20, y21, y22, y23, y24⟩ := box5 HBx2.out; clear hb)
     | (go_at_call 180; (with_reducible refine (take_st r E 1 _ (by decide) _ Q15).mono ?_); rintro e w3 h3; rcases h3.step HS2.out with ⟨v3, a3, ts3, rfl, hV, hR, hg, hS, hx⟩ | ⟨y, rfl, hg, hSE⟩; rotate_left; (have hGE : Rg r w w3 := Q4); rotate_left; (obtain ⟨rfl, hst3⟩ := hV); (have HR3 := Hd hR; have HG3 : RowKit.Hid (Rg r w w3) := Hd Q4; have HS3 := Hd hS; have HX3 := Hd hx; have HD3 := Hd hg; clear hR hg hS hx); (have HBr3 := Hd (HD3.out.keep (hb_alloc HBr2.out _) (by omega))); (have HBd3 := Hd (HD3.out.keep (hb_alloc HBd2.out _) (by omega))); (have HBx3 := Hd (HD3.out.keep (hb_alloc HBx2.out _) (by omega))); have u3a := hb_at HBr3.out 0 rfl; have u3b := hb_at HBd3.out 0 rfl; have u3c := hb_lt HBr3.out; have u3d := hb_lt HBd3.out; have u3e := hb_lt HBx3.out; obtain ⟨x30, x31, x32, x33, x34, y30, y31, y32, y33, y34⟩ := box5 HBx3.out))
    all_goals first | exact ⟨rfl, hGE, rfl⟩ | exact ⟨rfl, hGE, by rw [hSE]⟩ | skip
    have hz2 := HD2.out.size
    have hz3 := HD3.out.size
    rw [World.size_alloc] at hz3
    exact fin5 (w0 := w) rfl rfl rfl HBx3.out (by omega) HG3.out hrl HR3.out HS3.out w3.heap.size (by omega) (by omega) ⟨_, leafX _ _ _ _ _ _ (by decide) hst3⟩
  by_cases h4 : nk = 4
  · have h := HS0.out
    rw [if_neg h1, if_pos h4] at h
    have HSa := Hd h
    subst h4
    clear HS0 h h1
    have HS0 := HSa
    go_enter Tryz.func185, Tryz.ntmps185
    go_upto_region 1 with (fail)
    obtain ⟨c0, c1, c2, hz3, hb3⟩ := boxes3 w (.cells #[rp r] 107) (.cells #[.int .i64 (d : Nat)] 3) (.cells #[.int .i64 0, .string ⟨#[]⟩, .string ⟨#[]⟩, .int .i64 0, .slice none 0 0] 24)
    generalize hW1 : ((w.alloc (.cells #[rp r] 107)).alloc (.cells #[.int .i64 (d : Nat)] 3)).alloc (.cells #[.int .i64 0, .string ⟨#[]⟩, .string ⟨#[]⟩, .int .i64 0, .slice none 0 0] 24) = W1 at *
    have HBr1 := Hd c0
    have HBd1 := Hd c1
    have HBx1 := Hd c2
    have HR1 : RowKit.Hid (Rd r E W1 ts) := Hd (HR0.out.below hb3)
    have HG1 : RowKit.Hid (Rg r w W1) := Hd (Rg.of_below hb3)
    have HS1 := HS0
    have x0 := hb_at c0 0 rfl
    have x1 := hb_at c1 0 rfl
    have q0 := hb_lt c0
    have q1 := hb_lt c1
    have q2 := hb_lt c2
    clear hW1 c0 c1 c2 hb3
    go_wp2_with (first
     | (go_at_call 129; (with_reducible refine (HBG.out _ HR1.out).mono ?_); rintro e w2 ⟨rfl, rfl⟩)
     | (go_at_call 173; (with_reducible refine (HN.out _ Q14).mono ?_); rintro e w2 ⟨rfl, hb⟩; have HG2 : RowKit.Hid (Rg r w w2) := Hd Q26; have HR2 : RowKit.Hid (Rd r E w2 ts) := Hd Q34; have HD2 := Hd (Rg.of_below (r := r) hb); have HS2 := HS1; (have HBr2 := Hd (HD2.out.keep HBr1.out (by omega))); (have HBd2 := Hd (HD2.out.keep HBd1.out (by omega))); (have HBx2 := Hd (HD2.out.keep HBx1.out (by omega))); have u2a := hb_at HBr2.out 0 rfl; have u2b := hb_at HBd2.out 0 rfl; have u2c := hb_lt HBr2.out; have u2d := hb_lt HBd2.out; have u2e := hb_lt HBx2.out; obtain ⟨x20, x21, x22, x23, x24, y20, y21, y22, y23, y24⟩ := box5 HBx2.out; clear hb)
     | (go_at_call 180; (with_reducible refine (take_st r E 4 _ (by decide) _ Q15).mono ?_); rintro e w3 h3; rcases h3.step HS2.out with ⟨v3, a3, ts3, rfl, hV, hR, hg, hS, hx⟩ | ⟨y, rfl, hg, hSE⟩; rotate_left; (have hGE : Rg r w w3 := Q4); rotate_left; (obtain ⟨rfl, hst3⟩ := hV); (have HR3 := Hd hR; have HG3 : RowKit.Hid (Rg r w w3) := Hd Q4; have HS3 := Hd hS; have HX3 := Hd hx; have HD3 := Hd hg; clear hR hg hS hx); (have HBr3 := Hd (HD3.out.keep (hb_alloc HBr2.out _) (by omega))); (have HBd3 := Hd (HD3.out.keep (hb_alloc HBd2.out _) (by omega))); (have HBx3 := Hd (HD3.out.keep (hb_alloc HBx2.out _) (by omega))); have u3a := hb_at HBr3.out 0 rfl; have u3b := hb_at HBd3.out 0 rfl; have u3c := hb_lt HBr3.out; have u3d := hb_lt HBd3.out; have u3e := hb_lt HBx3.out; obtain ⟨x30, x31, x32, x33, x34, y30, y31, y32, y33, y34⟩ := box5 HBx3.out; (have HBt3 := Hd (HD3.out.keep (hb_new _ _) (by omega)); obtain ⟨s0, s1, s2, s3, _⟩ := box4 HBt3.out; have st := hb_lt HBt3.out)))
    all_goals first | exact ⟨rfl, hGE, rfl⟩ | exact ⟨rfl, hGE, by rw [hSE]⟩ | skip
    have hz2 := HD2.out.size
    have hz3 := HD3.out.size
    rw [World.size_alloc] at hz3
    exact fin5 (w0 := w) rfl rfl rfl HBx3.out (by omega) HG3.out hrl HR3.out HS3.out w3.heap.size (by omega) (by omega) ⟨_, leafX _ _ _ _ _ _ (by decide) (by decide)⟩
  by_cases h5 : nk = 5
  · have h := HS0.out
    rw [if_neg h1, if_neg h4, if_pos h5] at h
    have HSa := Hd h
    subst h5
    clear HS0 h h1 h4
    have HS0 := HSa
    go_enter Tryz.func185, Tryz.ntmps185
    go_upto_region 1 with (fail)
    obtain ⟨c0, c1, c2, hz3, hb3⟩ := boxes3 w (.cells #[rp r] 107) (.cells #[.int .i64 (d : Nat)] 3) (.cells #[.int .i64 0, .string ⟨#[]⟩, .string ⟨#[]⟩, .int .i64 0, .slice none 0 0] 24)
    generalize hW1 : ((w.alloc (.cells #[rp r] 107)).alloc (.cells #[.int .i64 (d : Nat)] 3)).alloc (.cells #[.int .i64 0, .string ⟨#[]⟩, .string ⟨#[]⟩, .int .i64 0, .slice none 0 0] 24) = W1 at *
    have HBr1 := Hd c0
    have HBd1 := Hd c1
    have HBx1 := Hd c2
    have HR1 : RowKit.Hid (Rd r E W1 ts) := Hd (HR0.out.below hb3)
    have HG1 : RowKit.Hid (Rg r w W1) := Hd (Rg.of_below hb3)
    have HS1 := HS0
    have x0 := hb_at c0 0 rfl
    have x1 := hb_at c1 0 rfl
    have q0 := hb_lt c0
    have q1 := hb_lt c1
    have q2 := hb_lt c2
    clear hW1 c0 c1 c2 hb3
    go_wp2_with (first
     | (go_at_call 129; (with_reducible refine (HBG.out _ HR1.out).mono ?_); rintro e w2 ⟨rfl, rfl⟩)
     | (go_at_call 173; (with_reducible refine (HN.out _ Q14).mono ?_); rintro e w2 ⟨rfl, hb⟩; have HG2 : RowKit.Hid (Rg r w w2) := Hd Q26; have HR2 : RowKit.Hid (Rd r E w2 ts) := Hd Q34; have HD2 := Hd (Rg.of_below (r := r) hb); have HS2 := HS1; (have HBr2 := Hd (HD2.out.keep HBr1.out (by omega))); (have HBd2 := Hd (HD2.out.keep HBd1.out (by omega))); (have HBx2 := Hd (HD2.out.keep HBx1.out (by omega))); have u2a := hb_at HBr2.out 0 rfl; have u2b := hb_at HBd2.out 0 rfl; have u2c := hb_lt HBr2.out; have u2d := hb_lt HBd2.out; have u2e := hb_lt HBx2.out; obtain ⟨x20, x21, x22, x23, x24, y20, y21, y22, y23, y24⟩ := box5 HBx2.out; clear hb)
     | (go_at_call 180; (with_reducible refine (take_st r E 5 _ (by decide) _ Q15).mono ?_); rintro e w3 h3; rcases h3.step HS2.out with ⟨v3, a3, ts3, rfl, hV, hR, hg, hS, hx⟩ | ⟨y, rfl, hg, hSE⟩; rotate_left; (have hGE : Rg r w w3 := Q4); rotate_left; (obtain ⟨rfl, hst3⟩ := hV); (have HR3 := Hd hR; have HG3 : RowKit.Hid (Rg r w w3) := Hd Q4; have HS3 := Hd hS; have HX3 := Hd hx; have HD3 := Hd hg; clear hR hg hS hx); (have HBr3 := Hd (HD3.out.keep (hb_alloc HBr2.out _) (by omega))); (have HBd3 := Hd (HD3.out.keep (hb_alloc HBd2.out _) (by omega))); (have HBx3 := Hd (HD3.out.keep (hb_alloc HBx2.out _) (by omega))); have u3a := hb_at HBr3.out 0 rfl; have u3b := hb_at HBd3.out 0 rfl; have u3c := hb_lt HBr3.out; have u3d := hb_lt HBd3.out; have u3e := hb_lt HBx3.out; obtain ⟨x30, x31, x32, x33, x34, y30, y31, y32, y33, y34⟩ := box5 HBx3.out))
    all_goals first | exact ⟨rfl, hGE, rfl⟩ | exact ⟨rfl, hGE, by rw [hSE]⟩ | skip
    have hz2 := HD2.out.size
    have hz3 := HD3.out.size
    rw [World.size_alloc] at hz3
    exact fin5 (w0 := w) rfl rfl rfl HBx3.out (by omega) HG3.out hrl HR3.out HS3.out w3.heap.size (by omega) (by omega) ⟨_, leafX _ _ _ _ _ _ (by decide) hst3⟩
  by_cases h2 : nk = 2
  · have h := HS0.out
    rw [if_neg h1, if_neg h4, if_neg h5, if_pos h2] at h
    have HSa := Hd h
    subst h2
    clear HS0 h h1 h4 h5
    have HS0 := HSa
    go_enter Tryz.func185, Tryz.ntmps185
    go_upto_region 1 with (fail)
    obtain ⟨c0, c1, c2, hz3, hb3⟩ := boxes3 w (.cells #[rp r] 107) (.cells #[.int .i64 (d : Nat)] 3) (.cells #[.int .i64 0, .string ⟨#[]⟩, .string ⟨#[]⟩, .int .i64 0, .slice none 0 0] 24)
    generalize hW1 : ((w.alloc (.cells #[rp r] 107)).alloc (.cells #[.int .i64 (d : Nat)] 3)).alloc (.cells #[.int .i64 0, .string ⟨#[]⟩, .string ⟨#[]⟩, .int .i64 0, .slice none 0 0] 24) = W1 at *
    have HBr1 := Hd c0
    have HBd1 := Hd c1
    have HBx1 := Hd c2
    have HR1 : RowKit.Hid (Rd r E W1 ts) := Hd (HR0.out.below hb3)
    have HG1 : RowKit.Hid (Rg r w W1) := Hd (Rg.of_below hb3)
    have HS1 := HS0
    have x0 := hb_at c0 0 rfl
    have x1 := hb_at c1 0 rfl
    have q0 := hb_lt c0
    have q1 := hb_lt c1
    have q2 := hb_lt c2
    clear hW1 c0 c1 c2 hb3
    go_wp2_with (first
     | (go_at_call 129; (with_reducible refine (HBG.out _ HR1.out).mono ?_); rintro e w2 ⟨rfl, rfl⟩)
     | (go_at_call 173; (with_reducible refine (HN.out _ Q14).mono ?_); rintro e w2 ⟨rfl, hb⟩; have HG2 : RowKit.Hid (Rg r w w2) := Hd Q26; have HR2 : RowKit.Hid (Rd r E w2 ts) := Hd Q34; have HD2 := Hd (Rg.of_below (r := r) hb); have HS2 := HS1; (have HBr2 := Hd (HD2.out.keep HBr1.out (by omega))); (have HBd2 := Hd (HD2.out.keep HBd1.out (by omega))); (have HBx2 := Hd (HD2.out.keep HBx1.out (by omega))); have u2a := hb_at HBr2.out 0 rfl; have u2b := hb_at HBd2.out 0 rfl; have u2c := hb_lt HBr2.out; have u2d := hb_lt HBd2.out; have u2e := hb_lt HBx2.out; obtain ⟨x20, x21, x22, x23, x24, y20, y21, y22, y23, y24⟩ := box5 HBx2.out; clear hb))
    go_region_with (first
     | (go_at_call 188; (with_reducible refine (qualifier_any r E ts HKD.out _ Q15).mono ?_); rintro e w3 h3; rcases h3.step HS2.out with ⟨v3, a3, ts3, rfl, hV, hR, hg, hS, hx⟩ | ⟨y, rfl, hg, hSE⟩; rotate_left; (have hGE : Rg r w w3 := Q4; subst hSE; exact ⟨rfl, hGE, rfl⟩); (obtain ⟨rfl, hst3⟩ := hV); (have HR3 := Hd hR; have HG3 : RowKit.Hid (Rg r w w3) := Hd Q4; have HS3 := Hd hS; have HX3 := Hd hx; have HD3 := Hd hg; clear hR hg hS hx); (have HBr3 := Hd (HD3.out.keep (hb_alloc HBr2.out _) (by omega))); (have HBd3 := Hd (HD3.out.keep (hb_alloc HBd2.out _) (by omega))); (have HBx3 := Hd (HD3.out.keep (hb_alloc HBx2.out _) (by omega))); have u3a := hb_at HBr3.out 0 rfl; have u3b := hb_at HBd3.out 0 rfl; have u3c := hb_lt HBr3.out; have u3d := hb_lt HBd3.out; have u3e := hb_lt HBx3.out; obtain ⟨x30, x31, x32, x33, x34, y30, y31, y32, y33, y34⟩ := box5 HBx3.out)
     | (go_at_call 189; (with_reducible refine (constructor_t 15 _ hst3 r E (patP E g) 231 _ _ _ Q18 HM.out HCF.out ((pat1_any r E d g hd40 HIH.out _ _ w3 HBr3.out HBd3.out (by omega) (by omega)).at Q25)).mono ?_); rintro e w4 h4; rcases h4.step (HS3.out.trans (bnd_id _).symm) with ⟨v4, a4, ts4, rfl, hV, hR, hg, hS, hx⟩ | ⟨y, rfl, hg, hSE⟩; rotate_left; (have hGE : Rg r w w4 := Q8; subst hSE; exact ⟨rfl, hGE, rfl⟩); (obtain ⟨k4, p4, n4, N4, q4, l4, c4, rfl⟩ := hV.shape; have HV4 := Hd hV); (have HR4 := Hd hR; have HG4 : RowKit.Hid (Rg r w w4) := Hd Q8; have HS4 := Hd hS; have HX4 := Hd hx; have HD4 := Hd hg; clear hR hg hS hx hV); (have HBr4 := Hd (HD4.out.keep HBr3.out (by omega))); (have HBd4 := Hd (HD4.out.keep HBd3.out (by omega))); (have HBx4 := Hd (HD4.out.keep HBx3.out (by omega))); have u4a := hb_at HBr4.out 0 rfl; have u4b := hb_at HBd4.out 0 rfl; have u4c := hb_lt HBr4.out; have u4d := hb_lt HBd4.out; have u4e := hb_lt HBx4.out; obtain ⟨x40, x41, x42, x43, x44, y40, y41, y42, y43, y44⟩ := box5 HBx4.out))
    all_goals
     go_wp2
     have hz3 := HG3.out.size
     have hz3b := HD3.out.size
     have hz4b : w2.heap.size + 1 ≤ w3.heap.size := by simpa using hz3b
     have hz2 := HD2.out.size
     exact fin5 (w0 := w) rfl rfl rfl HBx4.out (by omega) HG4.out hrl HR4.out HS4.out w3.heap.size (by omega) (by omega) HV4.out
  have h := HS0.out
  rw [if_neg h1, if_neg h4, if_neg h5, if_neg h2] at h
  have HSa := Hd h
  have d1 : (nk == 1) = false := by simpa using h1
  have d4 : (nk == 4) = false := by simpa using h4
  have d5 : (nk == 5) = false := by simpa using h5
  have d2 : (nk == 2) = false := by simpa using h2
  clear HS0 h h1 h4 h5 h2
  have HS0 := HSa
  go_enter Tryz.func185, Tryz.ntmps185
  go_upto_region 1 with (fail)
  obtain ⟨c0, c1, c2, hz3, hb3⟩ := boxes3 w (.cells #[rp r] 107) (.cells #[.int .i64 (d : Nat)] 3) (.cells #[.int .i64 0, .string ⟨#[]⟩, .string ⟨#[]⟩, .int .i64 0, .slice none 0 0] 24)
  generalize hW1 : ((w.alloc (.cells #[rp r] 107)).alloc (.cells #[.int .i64 (d : Nat)] 3)).alloc (.cells #[.int .i64 0, .string ⟨#[]⟩, .string ⟨#[]⟩, .int .i64 0, .slice none 0 0] 24) = W1 at *
  have HBr1 := Hd c0
  have HBd1 := Hd c1
  have HBx1 := Hd c2
  have HR1 : RowKit.Hid (Rd r E W1 ts) := Hd (HR0.out.below hb3)
  have HG1 : RowKit.Hid (Rg r w W1) := Hd (Rg.of_below hb3)
  have HS1 := HS0
  have x0 := hb_at c0 0 rfl
  have x1 := hb_at c1 0 rfl
  have q0 := hb_lt c0
  have q1 := hb_lt c1
  have q2 := hb_lt c2
  clear hW1 c0 c1 c2 hb3
  go_wp2_with (first
    | (go_at_call 129; (with_reducible refine (HBG.out _ HR1.out).mono ?_); rintro e w2 ⟨rfl, rfl⟩)
    | (go_at_call 173; (with_reducible refine (HN.out _ Q14).mono ?_); rintro e w2 ⟨rfl, hb⟩; have HG2 : RowKit.Hid (Rg r w w2) := Hd Q26; have HR2 : RowKit.Hid (Rd r E w2 ts) := Hd Q34; have HD2 := Hd (Rg.of_below (r := r) hb); have HS2 := HS1; (have HBr2 := Hd (HD2.out.keep HBr1.out (by omega))); (have HBd2 := Hd (HD2.out.keep HBd1.out (by omega))); (have HBx2 := Hd (HD2.out.keep HBx1.out (by omega))); have u2a := hb_at HBr2.out 0 rfl; have u2b := hb_at HBd2.out 0 rfl; have u2c := hb_lt HBr2.out; have u2d := hb_lt HBd2.out; have u2e := hb_lt HBx2.out; obtain ⟨x20, x21, x22, x23, x24, y20, y21, y22, y23, y24⟩ := box5 HBx2.out; clear hb)
    | (go_at_call 139; (with_reducible refine (skipSign_any r E sAny ts _ Q15).mono ?_); rintro e w3 ⟨rfl, hg, hr⟩; have HD3 := Hd hg; have HG3 : RowKit.Hid (Rg r w w3) := Hd Q4; (have HBr3 := Hd (HD3.out.keep (hb_alloc HBr2.out _) (by omega))); (have HBd3 := Hd (HD3.out.keep (hb_alloc HBd2.out _) (by omega))); (have HBx3 := Hd (HD3.out.keep (hb_alloc HBx2.out _) (by omega))); have u3a := hb_at HBr3.out 0 rfl; have u3b := hb_at HBd3.out 0 rfl; have u3c := hb_lt HBr3.out; have u3d := hb_lt HBd3.out; have u3e := hb_lt HBx3.out; obtain ⟨x30, x31, x32, x33, x34, y30, y31, y32, y33, y34⟩ := box5 HBx3.out; have hS := HS2.out; (cases hB : isB 8 sAny ts <;> (rw [hB] at hS hr; first | rw [if_pos rfl] at hS hr | rw [if_neg (by decide)] at hS hr) <;> (have HS3 := Hd hS; have HR3 := Hd hr; clear hS hr hB hg))))
  all_goals first | exact ⟨rfl, hGE, rfl⟩ | exact ⟨rfl, hGE, by rw [hSE]⟩ | skip
  · go_region_with (first
     | (go_at_call 190; (with_reducible refine (opened_t r E (patP E g) 231 _ _ _ Q18 HM.out HCF.out ((pat1_any r E d g hd40 HIH.out _ _ w3 HBr3.out HBd3.out (by omega) (by omega)).at Q25)).mono ?_); rintro e w4 h4; rcases h4.step HS3.out with ⟨v4, a4, ts4, rfl, hV, hR, hg, hS, hx⟩ | ⟨y, rfl, hg, hSE⟩; rotate_left; (have hGE : Rg r w w4 := Q8; subst hSE; exact ⟨rfl, hGE, rfl⟩); (obtain ⟨q4, c4, hv⟩ := hV.1.shape; subst hv; have HV4 := Hd hV; have HL4 := Hd hV.2); (have HR4 := Hd hR; have HG4 : RowKit.Hid (Rg r w w4) := Hd Q8; have HS4 := Hd hS; have HX4 := Hd hx; have HD4 := Hd hg; clear hR hg hS hx hV); (have HBr4 := Hd (HD4.out.keep HBr3.out (by omega))); (have HBd4 := Hd (HD4.out.keep HBd3.out (by omega))); (have HBx4 := Hd (HD4.out.keep HBx3.out (by omega))); have u4a := hb_at HBr4.out 0 rfl; have u4b := hb_at HBd4.out 0 rfl; have u4c := hb_lt HBr4.out; have u4d := hb_lt HBd4.out; have u4e := hb_lt HBx4.out; obtain ⟨x40, x41, x42, x43, x44, y40, y41, y42, y43, y44⟩ := box5 HBx4.out; have HV4b : RowKit.Hid (LsV w3 w4 (.slice q4 a4.length c4) a4) := HV4; have hz4 : w3.heap.size ≤ w4.heap.size := HD4.out.size)
     | (go_at_call 192; (with_reducible refine (closed_t r E 16 _ _ w3 _ (by omega) (by omega) HV4b.out _ Q17).mono ?_); rintro e w5 h5; rcases h5.step (HS4.out.trans (bnd_id _).symm) with ⟨v5, a5, ts5, rfl, hV, hR, hg, hS, hx⟩ | ⟨y, rfl, hg, hSE⟩; rotate_left; (have hGE : Rg r w w5 := Q6; subst hSE; exact ⟨rfl, hGE, rfl⟩); (obtain ⟨k5, p5, n5, N5, q5, l5, c5, rfl⟩ := hV.shape; have HV5 := Hd hV); (have HR5 := Hd hR; have HG5 : RowKit.Hid (Rg r w w5) := Hd Q6; have HS5 := Hd hS; have HX5 := Hd hx; have HD5 := Hd hg; clear hR hg hS hx hV); (have HBr5 := Hd (HD5.out.keep HBr4.out (by omega))); (have HBd5 := Hd (HD5.out.keep HBd4.out (by omega))); (have HBx5 := Hd (HD5.out.keep HBx4.out (by omega))); have u5a := hb_at HBr5.out 0 rfl; have u5b := hb_at HBd5.out 0 rfl; have u5c := hb_lt HBr5.out; have u5d := hb_lt HBd5.out; have u5e := hb_lt HBx5.out; obtain ⟨x50, x51, x52, x53, x54, y50, y51, y52, y53, y54⟩ := box5 HBx5.out))
    all_goals
     go_wp2
     have hz3b := HD3.out.size
     have hz4b : w2.heap.size + 1 ≤ w3.heap.size := by simpa using hz3b
     have hz2 := HD2.out.size
     exact fin5 (w0 := w) rfl rfl rfl HBx5.out (by omega) HG5.out hrl HR5.out HS5.out w3.heap.size (by omega) (by omega) HV5.out
  · have hz3b := HD3.out.size
    have hz4b : w2.heap.size + 1 ≤ w3.heap.size := by simpa using hz3b
    have hz2 := HD2.out.size
    exact fin5 (w0 := w) rfl rfl rfl HBx3.out (by omega) HG3.out hrl HR3.out HS3.out w3.heap.size (by omega) (by omega) ⟨_, leafX _ _ _ _ _ _ (by decide) (by decide)⟩
def ExprC (r E g d : Nat) : Prop := ∀ ts W, Rd r E W ts → Calls Tryz.prog 72 #[rp r, .int .i64 (d : Nat)] W (Got r E TmV W (exprP E g ts))
theorem atom1_any (r E d g : Nat) (IH : ExprC r E g d) (br bd : Nat) (w0 : World)
 (hbr : w0.heap[br]? = some (.cells #[rp r] 107 (0, 0))) (hbd : w0.heap[bd]? = some (.cells #[.int .i64 (d : Nat)] 3 (0, 0))) (h1 : br ≠ r) (h2 : bd ≠ r) : OneT r E (exprP E g) 187 #[bp br, bp bd] w0 := by
 intro w ts hg hR
 have kr := hg.keep hbr h1
 have kd := hg.keep hbd h2
 have x0 := hb_at kr 0 rfl
 have x1 := hb_at kd 0 rfl
 have z0 := hb_lt kr
 have z1 := hb_lt kd
 have hrl := hR.lt
 have HR0 := Hd hR
 have HG0 : RowKit.Hid (Rg r w w) := Hd (Rg.refl r w)
 obtain ⟨S, hS⟩ : ∃ S, S = exprP E g ts := ⟨_, rfl⟩
 have HS0 := Hd hS
 rw [← hS]
 have HI : RowKit.Hid (∀ ts W, Rd r E W ts → Calls Tryz.prog 72 #[rp r, .int .i64 (d : Nat)] W (Got r E TmV W (exprP E g ts))) := Hd IH
 clear hR hS hg hbr hbd kr kd IH
 go_enter Tryz.func187, Tryz.ntmps187
 go_wp2_with (go_at_call 72; (with_reducible refine (HI.out _ _ Q16).mono ?_); rintro e w1 h1; rcases h1.step (HS0.out.trans (bnd_id _).symm) with ⟨v1, a1, ts1, rfl, hV, hR, hg, hS, hx⟩ | ⟨y, rfl, hg, hSE⟩; rotate_left; (have hGE : Rg r w w1 := Q7); rotate_left; (obtain ⟨k1, p1, n1, N1, q1, l1, c1, rfl⟩ := hV.shape; have HV1 := Hd hV); (have HR1 := Hd hR; have HG1 : RowKit.Hid (Rg r w w1) := Hd Q7; have HS1 := Hd hS; have HX1 := Hd hx; have HD1 := Hd hg; clear hR hg hS hx hV); (have HBr1 := Hd (HD1.out.keep (hb_new _ _) (by omega)); obtain ⟨x0, x1, x2, x3, x4, y0, y1, y2, y3, y4⟩ := box5 HBr1.out))
 all_goals first | exact ⟨rfl, hGE, rfl⟩ | exact ⟨rfl, hGE, by rw [hSE]⟩ | skip
 exact fin5 (w0 := w) rfl rfl rfl HBr1.out (Nat.le_refl _) HG1.out hrl HR1.out HS1.out (w.heap.size + 1) (by omega) (by omega) Q31
theorem appF_no {E : Nat} {atom : Ts → Res Tm} {t : Tm} {ts : Ts} (h : begB ts = false) : ∀ k, appF E atom k t ts = .ok (t, ts)
 | 0 => by unfold appF; rw [if_neg (by rw [h]; decide)]
 | k + 1 => by unfold appF; rw [if_neg (by rw [h]; decide)]
theorem appF_end {E : Nat} {atom : Ts → Res Tm} {t : Tm} {ts : Ts} (h : begB ts = true) : appF E atom 0 t ts = .error ((nx E ts).2, 9) := if_pos h
theorem appF_more {E k : Nat} {atom : Ts → Res Tm} {t : Tm} {ts : Ts} (h : begB ts = true) : appF E atom (k + 1) t ts = bnd (atom ts) fun a ts => appF E atom k (.mk 27 e0 e0 0 [t, a]) ts := if_pos h
theorem applied_t (r E : Nat) (one : Ts → Res Tm) (n : Nat) (cap : Array Value) (w : World) (ts : Ts) (hR : Rd r E w ts) (hcf : ∀ W, (callFunc n cap).run Tryz.prog W = .ok (.enter n cap) W) (HC : OneT r E one n cap w) :
 Calls Tryz.prog 134 #[rp r, .func (.func n) #[] cap] w (Got r E TmV w (appP E one ts)) := by
 have HC : RowKit.Hid (∀ W ts, Rg r w W → Rd r E W ts → Calls Tryz.prog n cap W (Got r E TmV W (one ts))) := Hd HC
 have HR0 := Hd hR
 have hrl := hR.lt
 have HG0 : RowKit.Hid (Rg r w w) := Hd (Rg.refl r w)
 obtain ⟨S, hS⟩ : ∃ S, S = appP E one ts := ⟨_, rfl⟩
 have HS0 := Hd hS
 rw [← hS]
 unfold appP at HS0
 clear hR hS
 go_enter Tryz.func134, Tryz.ntmps134
 go_wp2_with ((with_reducible refine (HC.out _ _ (by first | exact HG0.out | exact HG0.out.alloc _) Q16).mono ?_); rintro e w1 h1; rcases h1.step HS0.out with ⟨v1, a1, ts1, rfl, hV, hR, hg, hS, hx⟩ | ⟨y, rfl, hg, hSE⟩; rotate_left; (have hGE : Rg r w w1 := Q7); rotate_left; (obtain ⟨k1, p1, n1, N1, q1, l1, c1, rfl⟩ := hV.shape; have HV1 := Hd hV); (have HR1 := Hd hR; have HG1 : RowKit.Hid (Rg r w w1) := Hd Q7; have HS1 := Hd hS; have HX1 := Hd hx; have HD1 := Hd hg; clear hR hg hS hx hV); (have HBx1 := Hd (HD1.out.keep (hb_new _ _) (by omega)); have hz1 := HD1.out.size; rw [World.size_alloc] at hz1))
 all_goals first | exact ⟨rfl, hGE, rfl⟩ | exact ⟨rfl, hGE, by rw [hSE]⟩ | skip
 go_loopw [6] (fun i wr => ∃ (m : Nat) (ts' : Ts) (t : Tm) (tk tN : Int) (tp tn : ByteArray) (tq : Option Addr) (tl tc : Nat), i = .int .i64 m ∧ m ≤ 50 ∧ S = appF E one (50 - m) t ts' ∧ Rg r w wr ∧ Rd r E wr ts' ∧ w1.heap.size < wr.heap.size ∧
  wr.heap[w.heap.size]? = some (.cells #[.int .i64 0, .string ⟨#[]⟩, .string ⟨#[]⟩, .int .i64 0, .slice none 0 0] 24 (0, 0)) ∧ wr.heap[w1.heap.size]? = some (.cells #[.int .i64 tk, .string tp, .string tn, .int .i64 tN, .slice tq tl tc] 24 (0, 0)) ∧
  ∃ D, IsX (fun b => w.heap.size < b ∧ b ≠ w1.heap.size) wr D (tv tk tp tn tN (.slice tq tl tc)) t) (fun i _ => 51 - (intOf i).toNat)
 case atStart =>
  obtain ⟨D, hX⟩ := HV1.out
  refine ⟨0, ts1, a1, k1, N1, p1, n1, q1, l1, c1, rfl, by omega, HS1.out, HG1.out.alloc _, HR1.out.alloc _, by simp, hb_alloc HBx1.out _, hb_new _ _, D, hX.move fun b hb hl => ⟨⟨?_, by omega⟩, Below.heap_alloc _ _ _ hl⟩⟩
  unfold New at hb
  rw [World.size_alloc] at hb
  omega
 case round =>
  obtain ⟨m, ts', t, tk, tN, tp, tn, tq, tl, tc, rfl, hm, hT, hg, hRd, hsz, hb1, hb2, D, hX⟩ := hrel
  have HT := Hd hT
  have HG2 : RowKit.Hid (Rg r w wr) := Hd hg
  have HR2 : RowKit.Hid (Rd r E wr ts') := Hd hRd
  have HBx2 := Hd hb1
  have HBt2 := Hd hb2
  have HXX := Hd hX
  have HK := Hd (fun W hW => beginsAtom_any r E ts' W hW)
  clear hT hg hRd hb1 hb2 hX
  cases hB : begB ts' with
  | false =>
   have HS3 : RowKit.Hid (S = .ok (t, ts')) := Hd (by rw [HT.out, appF_no hB])
   rw [hB] at HK
   clear HT hB
   go_wp2_with (go_at_call 186; (with_reducible refine (HK.out _ HR2.out).mono ?_); rintro e w2 ⟨rfl, hb⟩; have HB := Hd hb; have kx := hb_below HBx2.out hb (hb_lt HBx2.out); have kt := hb_below HBt2.out hb (hb_lt HBt2.out); have HBx3 := Hd kx; obtain ⟨x0, x1, x2, x3, x4, y0, y1, y2, y3, y4⟩ := box5 kx; obtain ⟨u0, u1, u2, u3, u4, _⟩ := box5 kt; have z1 := hb_lt kx; have z2 := hb_lt kt; clear hb kx kt)
   exact fin5 (w0 := w) rfl rfl rfl HBx3.out (Nat.le_refl _) (HG2.out.trans (Rg.of_below HB.out)) hrl (HR2.out.below HB.out) HS3.out (w.heap.size + 1) (by omega) (by omega) ⟨D, HXX.out.move fun b hb hl => ⟨hb.1, HB.out.block b hl⟩⟩
  | true =>
   rw [hB] at HK
   by_cases h50 : m = 50
   · have HS3 : RowKit.Hid (S = .error ((nx E ts').2, 9)) := Hd (by rw [HT.out, h50]; exact appF_end hB)
     have HF := Hd (fun W hW => fault_at r E 9 ts' W hW 9 rfl)
     subst h50
     clear HT hB
     go_wp2_with (first
      | (go_at_call 186; (with_reducible refine (HK.out _ HR2.out).mono ?_); rintro e w2 ⟨rfl, hb⟩; have HB := Hd hb; have HR3 := Hd (HR2.out.below hb); clear hb)
      | (go_at_call 123; (with_reducible refine (HF.out _ HR3.out).mono ?_); rintro e w3 ⟨rfl, hb⟩; have HB3 := Hd hb; clear hb))
     exact ⟨rfl, (HG2.out.trans (Rg.of_below HB.out)).trans (Rg.of_below HB3.out), by rw [HS3.out]; rfl⟩
   · have e50 : ((m : Int) == 50) = false := by rw [beq_eq_false_iff_ne]; omega
     have hw1 : IntKind.i64.wrap ((m : Int) + 1) = (m : Int) + 1 := IntWalk.i64_in _ (by omega)
     obtain ⟨j, hj⟩ : ∃ j, 50 - m = j + 1 := ⟨50 - m - 1, by omega⟩
     have HS3 : RowKit.Hid (S = bnd (one ts') fun a ts => appF E one j (.mk 27 e0 e0 0 [t, a]) ts) := Hd (by rw [HT.out, hj]; exact appF_more hB)
     have HJ := Hd hj
     have HM1 : RowKit.Hid (m + 1 ≤ 50) := Hd (by omega)
     clear HT hB hj h50
     go_wp2_with (go_at_call 186; (with_reducible refine (HK.out _ HR2.out).mono ?_); rintro e w3 ⟨rfl, hb⟩; have HB := Hd hb; have HR3 : RowKit.Hid (Rd r E w3 ts') := Hd (HR2.out.below hb); have HG3 : RowKit.Hid (Rg r w w3) := Hd (HG2.out.trans (Rg.of_below hb)); have kx := hb_below HBx2.out hb (hb_lt HBx2.out); have kt := hb_below HBt2.out hb (hb_lt HBt2.out); have HBx3 := Hd kx; have HBt3 := Hd kt; obtain ⟨x0, x1, x2, x3, x4, y0, y1, y2, y3, y4⟩ := box5 kx; obtain ⟨u0, u1, u2, u3, u4, v0, v1, v2, v3, v4⟩ := box5 kt; have z1 := hb_lt kx; have z2 := hb_lt kt; clear hb kx kt)
     go_region_with (((with_reducible refine (HC.out _ _ (by first | exact HG3.out | exact HG3.out.drew | exact HG3.out.alloc _) Q18).mono ?_); rintro e w4 h4; rcases h4.step HS3.out with ⟨v4, a4, ts4, rfl, hV, hR, hg, hS, hx⟩ | ⟨y, rfl, hg, hSE⟩; rotate_left; (have hGE : Rg r w w4 := Q8; subst hSE; exact ⟨rfl, hGE, rfl⟩); (obtain ⟨k4, p4, n4, N4, q4, l4, c4, rfl⟩ := hV.shape; have HV4 := Hd hV); (have HR4 := Hd hR; have HG4 : RowKit.Hid (Rg r w w4) := Hd Q8; have HS4 := Hd hS; have HX4 := Hd hx; have HD4 := Hd hg; clear hR hg hS hx hV); (have HBx4 := Hd (HD4.out.keep HBx3.out (by omega)); have HBt4 := Hd (HD4.out.keep HBt3.out (by omega)); obtain ⟨xx0, xx1, xx2, xx3, xx4, yy0, yy1, yy2, yy3, yy4⟩ := box5 HBx4.out; obtain ⟨uu0, uu1, uu2, uu3, uu4, vv0, vv1, vv2, vv3, vv4⟩ := box5 HBt4.out; have zz1 := hb_lt HBx4.out; have zz2 := hb_lt HBt4.out)))
     all_goals
      go_wp2
      have hz4 := HD4.out.size
      have hz4b : w3.heap.size ≤ w4.heap.size := hz4
      have hz3 := HB.out.size
      refine ⟨⟨m + 1, ts4, .mk 27 e0 e0 0 [t, a4], 27, 0, ⟨#[]⟩, ⟨#[]⟩, _, 2, 2, by simp, HM1.out, ?_, (HG4.out.set5w (g := w1.heap.size) (by omega) 27 ⟨#[]⟩ ⟨#[]⟩ 0 _).alloc _, (HR4.out.set5w (g := w1.heap.size) (by omega) 27 ⟨#[]⟩ ⟨#[]⟩ 0 _).alloc _, by rw [World.size_alloc]; exact Nat.lt_succ_of_lt (by rw [← set5w] ; rw [set5w_size]; omega), ?_, hb_alloc (set5w_box HBt4.out 27 ⟨#[]⟩ ⟨#[]⟩ 0 _) _, ?_⟩, by have := HM1.out; simp [intOf]; omega⟩
      · have e : 50 - (m + 1) = j := by have := HJ.out; omega
        rw [e]
        exact HS4.out
      · refine hb_alloc ?_ _
        rw [← set5w, set5w_other (by omega)]
        exact HBx4.out
      · rw [← set5w]
        refine kids_of (SlG.two ⟨by omega, by omega⟩ (set5a_new _ _ _ _ _ _ _ _) ?_ ?_) (by simp) (by decide) (by decide)
        · exact ⟨D, HXX.out.move fun b hb hl => by
           have e3 : w3.heap[b]? = wr.heap[b]? := HB.out.block b hl
           exact ⟨hb, by rw [set5a_other hb.2 (by omega), HD4.out.same (by show b < w3.heap.size; omega) (by omega)]; exact e3⟩⟩
        · obtain ⟨D4, h4⟩ := HV4.out
          exact ⟨D4, h4.move fun b hb hl => by
           have hb2 : w3.heap.size ≤ b := hb
           exact ⟨⟨by omega, by omega⟩, set5a_other (by omega) hl⟩⟩
end Go.Proofs.YtmkjalnlldpdcaaGreatDoor
