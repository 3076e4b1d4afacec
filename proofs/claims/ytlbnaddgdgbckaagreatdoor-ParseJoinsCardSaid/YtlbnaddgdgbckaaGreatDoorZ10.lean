/- Texts in a row: Po Pp. -/
import Derived.Test.YtlbnaddgdgbckaaGreatDoorZ9
/- A function's expression; the closure of an expression's atoms. -/
namespace Go.Proofs.YtlbnaddgdgbckaaGreatDoor
open Go.RowKit
set_option linter.unusedSimpArgs false
set_option linter.unusedVariables false
/-- One term in a block. -/
theorem SlG.uno {X : Nat → Prop} {w : World} {b c : Nat} {k1 N1 : Int} {p1 n1 : ByteArray} {s1 : Value} {t1 : Tm} {T : TypeId} {f : Nat × Nat} (hX : X b)
    (hb : w.heap[b]? = some (.cells #[.int .i64 k1, .string p1, .string n1, .int .i64 N1, s1] T f))
    (h1 : ∃ d, IsX X w d (tv k1 p1 n1 N1 s1) t1) : SlG termK X w (.slice (some ⟨b, 0, none⟩) 1 c) [t1] := by
  obtain ⟨d1, h1⟩ := h1
  refine ⟨_, _, rfl, fun i a ha => ?_⟩
  match i, ha with
  | 0, ha =>
    obtain rfl : t1 = a := by simpa using ha
    refine ⟨b, 0, _, rfl, hX, fun j u hu => ?_, _, _, _, _, _, d1, rfl, h1⟩
    have e : 0 + 0 * termK.size + j = j := by omega
    rw [e, hb_cell hb, ← hu]
    exact (Array.getElem?_toList ..).symm
  | i + 1, ha => simp at ha
set_option maxRecDepth 100000 in
theorem expr1_any (r E d g : Nat) (hd : d ≤ 40) (IH : ∀ ts W, Rd r E W ts → Calls Tryz.prog 43 #[rp r, .int .i64 ((d + 1 : Nat) : Int)] W (Got r E TmV W (atomP E (exprP E g) (typP E g) ts))) (br bd : Nat) (w0 : World)
    (hbr : w0.heap[br]? = some (.cells #[rp r] 56 (0, 0))) (hbd : w0.heap[bd]? = some (.cells #[.int .i64 (d : Nat)] 3 (0, 0))) (h1 : br ≠ r) (h2 : bd ≠ r) : OneT r E (atomP E (exprP E g) (typP E g)) 42 #[bp br, bp bd] w0 := by
  intro w ts hg hR
  have kr := hg.keep hbr h1
  have kd := hg.keep hbd h2
  have x0 := hb_at kr 0 rfl
  have x1 := hb_at kd 0 rfl
  have z0 := hb_lt kr
  have z1 := hb_lt kd
  have hrl := hR.lt
  have HR0 := Lib.hid hR
  have HG0 : RowKit.Hid (Rg r w w) := Lib.hid (Rg.refl r w)
  obtain ⟨S, hS⟩ : ∃ S, S = atomP E (exprP E g) (typP E g) ts := ⟨_, rfl⟩
  have HS0 := Lib.hid hS
  rw [← hS]
  have HI := Lib.hid IH
  clear hR hS hg hbr hbd kr kd IH
  have hc : ((d + 1 : Nat) : Int) = (d : Int) + 1 := by omega
  rw [hc] at HI
  go_enter Tryz.func42, Tryz.ntmps42
  go_wp2_with (go_at_call 43; (with_reducible refine (HI.out _ _ (by first | exact HR0.out | exact HR0.out.alloc _ | exact (HR0.out.alloc _).alloc _ | exact ((HR0.out.alloc _).alloc _).alloc _ | exact HR0.out.upto (fun _ _ _ => rfl) | exact (HR0.out.alloc _).upto (fun _ _ _ => rfl))).mono ?_); rintro e w1 h1; rcases h1.step (HS0.out.trans (bnd_id _).symm) with ⟨v1, a1, ts1, rfl, hV, hR, hg, hS, hx⟩ | ⟨y, rfl, hg, hSE⟩; rotate_left; (have hGE : Rg r w w1 := (by first | exact HG0.out.trans hg | exact (HG0.out.alloc _).trans hg | exact ((HG0.out.alloc _).alloc _).trans hg | exact (((HG0.out.alloc _).alloc _).alloc _).trans hg | exact HG0.out.drew.trans hg | exact (HG0.out.alloc _).drew.trans hg)); rotate_left; (obtain ⟨k1, p1, n1, N1, q1, l1, c1, rfl⟩ := hV.shape; have HV1 := Lib.hid hV); (have HR1 := Lib.hid hR; have HG1 : RowKit.Hid (Rg r w w1) := Lib.hid (by first | exact HG0.out.trans hg | exact (HG0.out.alloc _).trans hg | exact ((HG0.out.alloc _).alloc _).trans hg | exact (((HG0.out.alloc _).alloc _).alloc _).trans hg | exact HG0.out.drew.trans hg | exact (HG0.out.alloc _).drew.trans hg); have HS1 := Lib.hid hS; have HX1 := Lib.hid hx; have HD1 := Lib.hid hg; clear hR hg hS hx hV); (have HBr1 := Lib.hid (HD1.out.keep (hb_new _ _) (by omega)); obtain ⟨x0, x1, x2, x3, x4, y0, y1, y2, y3, y4⟩ := box5 HBr1.out))
  all_goals first | exact ⟨rfl, hGE, rfl⟩ | exact ⟨rfl, hGE, by rw [hSE]⟩ | skip
  exact fin5 (w0 := w) rfl rfl rfl HBr1.out (Nat.le_refl _) HG1.out hrl HR1.out HS1.out (w.heap.size + 1) (by omega) (by omega) (by obtain ⟨d, h⟩ := HV1.out; exact ⟨d, h.move fun b hb _ => ⟨by unfold New at hb; rw [World.size_alloc] at hb; exact hb, rfl⟩⟩)
set_option maxRecDepth 100000 in
set_option maxHeartbeats 1000000 in
theorem fun_any (r E g d : Nat) (IH : ExprC r E g d) (ts : Ts) (w : World) (hR : Rd r E w ts) : Calls Tryz.prog 38 #[rp r, .int .i64 (d : Nat)] w (Got r E TmV w (funP E (exprP E g) ts)) := by
  have HI : RowKit.Hid (∀ ts W, Rd r E W ts → Calls Tryz.prog 23 #[rp r, .int .i64 (d : Nat)] W (Got r E TmV W (exprP E g ts))) := Lib.hid IH
  clear IH
  have HR0 := Lib.hid hR
  have hrl := hR.lt
  have HG0 : RowKit.Hid (Rg r w w) := Lib.hid (Rg.refl r w)
  obtain ⟨S, hS⟩ : ∃ S, S = funP E (exprP E g) ts := ⟨_, rfl⟩
  have HS0 := Lib.hid hS
  rw [← hS]
  unfold funP at HS0
  clear hR hS
  go_enter Tryz.func38, Tryz.ntmps38
  go_wp2_with (first
    | (go_at_call 66; (with_reducible refine (take_st r E 1 _ (by decide) _ (by first | exact HR0.out | exact HR0.out.alloc _ | exact (HR0.out.alloc _).alloc _ | exact ((HR0.out.alloc _).alloc _).alloc _ | exact HR0.out.upto (fun _ _ _ => rfl) | exact (HR0.out.alloc _).upto (fun _ _ _ => rfl))).mono ?_); rintro e w1 h1; rcases h1.step HS0.out with ⟨v1, a1, ts1, rfl, hV, hR, hg, hS, hx⟩ | ⟨y, rfl, hg, hSE⟩; rotate_left; (have hGE : Rg r w w1 := (by first | exact HG0.out.trans hg | exact (HG0.out.alloc _).trans hg | exact ((HG0.out.alloc _).alloc _).trans hg | exact (((HG0.out.alloc _).alloc _).alloc _).trans hg | exact HG0.out.drew.trans hg | exact (HG0.out.alloc _).drew.trans hg)); rotate_left; (obtain ⟨rfl, hst1⟩ := hV); (have HR1 := Lib.hid hR; have HG1 : RowKit.Hid (Rg r w w1) := Lib.hid (by first | exact HG0.out.trans hg | exact (HG0.out.alloc _).trans hg | exact ((HG0.out.alloc _).alloc _).trans hg | exact (((HG0.out.alloc _).alloc _).alloc _).trans hg | exact HG0.out.drew.trans hg | exact (HG0.out.alloc _).drew.trans hg); have HS1 := Lib.hid hS; have HX1 := Lib.hid hx; have HD1 := Lib.hid hg; clear hR hg hS hx); (have HBx1 := Lib.hid (HD1.out.keep (hb_new _ _) (by omega))); (have hz1 := HD1.out.size; rw [World.size_alloc] at hz1))
    | (go_at_call 34; (with_reducible refine (sign_any r E sArrow _ _ (by first | exact HR1.out | exact HR1.out.alloc _ | exact (HR1.out.alloc _).alloc _ | exact ((HR1.out.alloc _).alloc _).alloc _ | exact HR1.out.upto (fun _ _ _ => rfl) | exact (HR1.out.alloc _).upto (fun _ _ _ => rfl))).mono ?_); rintro e w2 h2; rcases h2.step HS1.out with ⟨v2, a2, ts2, rfl, hV, hR, hg, hS, hx⟩ | ⟨y, rfl, hg, hSE⟩; rotate_left; (have hGE : Rg r w w2 := (by first | exact HG1.out.trans hg | exact (HG1.out.alloc _).trans hg | exact ((HG1.out.alloc _).alloc _).trans hg | exact (((HG1.out.alloc _).alloc _).alloc _).trans hg | exact HG1.out.drew.trans hg | exact (HG1.out.alloc _).drew.trans hg)); rotate_left; (obtain rfl := hV); (have HR2 := Lib.hid hR; have HG2 : RowKit.Hid (Rg r w w2) := Lib.hid (by first | exact HG1.out.trans hg | exact (HG1.out.alloc _).trans hg | exact ((HG1.out.alloc _).alloc _).trans hg | exact (((HG1.out.alloc _).alloc _).alloc _).trans hg | exact HG1.out.drew.trans hg | exact (HG1.out.alloc _).drew.trans hg); have HS2 := Lib.hid hS; have HX2 := Lib.hid hx; have HD2 := Lib.hid hg; clear hR hg hS hx); (have HBx2 := Lib.hid (HD2.out.keep HBx1.out (by omega))); have hz2 := HD2.out.size)
    | (go_at_call 23; (with_reducible refine (HI.out _ _ (by first | exact HR2.out | exact HR2.out.alloc _ | exact (HR2.out.alloc _).alloc _ | exact ((HR2.out.alloc _).alloc _).alloc _ | exact HR2.out.upto (fun _ _ _ => rfl) | exact (HR2.out.alloc _).upto (fun _ _ _ => rfl))).mono ?_); rintro e w3 h3; rcases h3.step HS2.out with ⟨v3, a3, ts3, rfl, hV, hR, hg, hS, hx⟩ | ⟨y, rfl, hg, hSE⟩; rotate_left; (have hGE : Rg r w w3 := (by first | exact HG2.out.trans hg | exact (HG2.out.alloc _).trans hg | exact ((HG2.out.alloc _).alloc _).trans hg | exact (((HG2.out.alloc _).alloc _).alloc _).trans hg | exact HG2.out.drew.trans hg | exact (HG2.out.alloc _).drew.trans hg)); rotate_left; (obtain ⟨k3, p3, n3, N3, q3, l3, c3, rfl⟩ := hV.shape; have HV3 := Lib.hid hV); (have HR3 := Lib.hid hR; have HG3 : RowKit.Hid (Rg r w w3) := Lib.hid (by first | exact HG2.out.trans hg | exact (HG2.out.alloc _).trans hg | exact ((HG2.out.alloc _).alloc _).trans hg | exact (((HG2.out.alloc _).alloc _).alloc _).trans hg | exact HG2.out.drew.trans hg | exact (HG2.out.alloc _).drew.trans hg); have HS3 := Lib.hid hS; have HX3 := Lib.hid hx; have HD3 := Lib.hid hg; clear hR hg hS hx hV); (have HBx3 := Lib.hid (HD3.out.keep HBx2.out (by omega)); obtain ⟨x0, x1, x2, x3, x4, y0, y1, y2, y3, y4⟩ := box5 HBx3.out); have hz3 := HD3.out.size; have zx := hb_lt HBx3.out))
  all_goals first | exact ⟨rfl, hGE, rfl⟩ | exact ⟨rfl, hGE, by rw [hSE]⟩ | skip
  refine fin_t (w0 := w) (Wf := (set5w w3 w.heap.size 26 ⟨#[]⟩ a1 0 (.slice (some ⟨w3.heap.size, 0, none⟩) 1 1)).alloc (.cells #[.int .i64 k3, .string p3, .string n3, .int .i64 N3, .slice q3 l3 c3] 39)) rfl rfl rfl (hb_alloc (set5w_box HBx3.out _ _ _ _ _) _) ((HG3.out.set5w (Nat.le_refl _) _ _ _ _ _).alloc _) ((HR3.out.set5w hrl _ _ _ _ _).alloc _) HS3.out ?_
  refine kids_of (SlG.uno (show w.heap.size ≤ w3.heap.size by omega) (set5a_new _ _ _ _ _ _ _ _) ?_) (by simp) (by decide) hst1
  obtain ⟨D, h⟩ := HV3.out
  exact ⟨D, h.move fun b hb hl => by
    unfold New at hb
    exact ⟨by omega, set5a_other (by omega) hl⟩⟩
end Go.Proofs.YtlbnaddgdgbckaaGreatDoor
/- One thing or more: a match's arms. -/
namespace Go.Proofs.YtlbnaddgdgbckaaGreatDoor
open Go.RowKit
set_option linter.unusedSimpArgs false
set_option linter.unusedVariables false
/-- Lists of terms in a row. -/
def listK : Mem (List Tm) where
  t := 114
  e := 37
  size := 1
  bytes := 24
  V X w cs l := ∃ s, cs = [s] ∧ SlG termK X w s l ∧ l.length = 2
  und := Tryz.underlying114
  inf := ⟨.slice none 0 0, by kernel_rfl, rfl⟩
  pos := by decide
  few := by decide
  len := by rintro X w cs a ⟨s, rfl, _⟩; rfl
  one := by
    rintro X w cs a ⟨s, rfl, ⟨q, c, rfl, _⟩, _⟩ u hu
    obtain rfl := List.mem_singleton.1 hu
    rfl
  move := by
    rintro X Y w w' cs a hXY ⟨s, e, h, h2⟩
    exact ⟨s, e, h.move hXY, h2⟩
/-- An arm. -/
def AsV (w w' : World) (v : Value) (l : List Tm) : Prop := SlG termK (New w) w' v l ∧ l.length = 2
theorem AsV.shape {w w' : World} {v : Value} {l : List Tm} (h : AsV w w' v l) : ∃ q c, v = .slice q l.length c := let ⟨⟨q, c, h, _⟩, _⟩ := h; ⟨q, c, h⟩
def LlV (w w' : World) (v : Value) (l : List (List Tm)) : Prop := RowG listK w.heap.size w' v l ∧ l.length ≤ 7000
def OneL (r E : Nat) (one : Ts → Res (List Tm)) (n : Nat) (cap : Array Value) (w : World) : Prop := ∀ W ts, Rg r w W → Rd r E W ts → Calls Tryz.prog n cap W (Got r E AsV W (one ts))
set_option maxRecDepth 100000 in
set_option maxHeartbeats 4000000 in
theorem several_l (r E : Nat) (bt : ByteArray) (one : Ts → Res (List Tm)) (n : Nat) (cap : Array Value) (w : World) (ts : Ts) (hR : Rd r E w ts) (hm : Mono one)
    (hcf : ∀ W, (callFunc n cap).run Tryz.prog W = .ok (.enter n cap) W) (HC : OneL r E one n cap w) :
    Calls Tryz.prog 69 #[rp r, .string bt, .func (.func n) #[] cap] w (Got r E LlV w (sevP E bt one ts)) := by
  have HC : RowKit.Hid (∀ W ts, Rg r w W → Rd r E W ts → Calls Tryz.prog n cap W (Got r E AsV W (one ts))) := Lib.hid HC
  have HR := Lib.hid hR
  have hrl := hR.lt
  have hfew := hR.few
  have HM := Lib.hid hm
  obtain ⟨S, hS⟩ : ∃ S, S = sevP E bt one ts := ⟨_, rfl⟩
  have HS := Lib.hid hS
  rw [← hS]
  unfold sevP at HS
  clear hR hS hm
  go_enter Tryz.func69, Tryz.ntmps69
  go_wp2_with (first | ((with_reducible refine (HC.out _ _ (Rg.refl _ _) HR.out).mono ?_); rintro e w1 h1; rcases h1.step HS.out with ⟨v, a, ts1, rfl, hV, hR1, hg1, hS1, hx1⟩ | ⟨y, rfl, hGE, hS1⟩; (obtain ⟨tq, tc, rfl⟩ := hV.shape; have HV := Lib.hid hV; have HR1 := Lib.hid hR1; have HG1 := Lib.hid hg1; have HS1 := Lib.hid hS1; have HX1 := Lib.hid hx1; clear hV hR1 hg1 hS1 hx1)))
  all_goals first | exact ⟨rfl, hGE, rfl⟩ | exact ⟨rfl, hGE, by rw [hS1]⟩ | skip
  go_loopw [7] (fun v wr => ∃ (ts' : Ts) (acc : List (List Tm)), S = sevL E bt one ts' acc ∧ acc.length + ts'.length ≤ 6001 ∧ Rg r w wr ∧ Rd r E wr ts' ∧ RowG listK w.heap.size wr v acc) (fun _ wr => left r wr)
  case atStart =>
    have hlen : ts1.length ≤ ts.length := HM.out _ _ _ HX1.out
    exact ⟨ts1, [a], HS1.out, by simp; omega, HG1.out.alloc _, HR1.out.alloc _, RowG.one (K := listK) (cs := [.slice tq a.length tc]) ⟨_, rfl, HV.out.1, HV.out.2⟩ HG1.out.size _ rfl⟩
  case round =>
    obtain ⟨ts', acc, hT, hbd, hg, hRd, hrow⟩ := hrel
    rw [sevL_step HM.out] at hT
    have hz := hg.size
    obtain ⟨aq, ac, rfl⟩ := hrow.shape
    have HT := Lib.hid hT
    have HGr := Lib.hid hg
    have HRr := Lib.hid hRd
    have HROW := Lib.hid hrow
    have HK := Lib.hid (fun W hW => skipSign_any r E bt ts' W hW)
    clear hT hg hRd hrow
    cases hB : isB 8 bt ts' with
    | false =>
      have HT2 := HT.out
      rw [hB, if_neg (by decide)] at HT2
      rw [hB] at HK
      subst HT2
      go_wp2_with (go_at_call 46; (with_reducible refine (HK.out _ HRr.out).mono ?_); rintro e w2 ⟨rfl, hg, hr⟩; have HG2 := Lib.hid (HGr.out.trans hg); have HGs := Lib.hid hg; have HR2 := Lib.hid hr; clear hg hr)
      refine bodyPost_ret (v := .slice aq acc.length ac) (by simp [results, Tryz.results69, go_sem]) rfl ⟨HG2.out, ⟨_, rfl, HROW.out.move fun b hb hl => HGs.out.same hl (by omega), by show acc.length ≤ 7000; omega⟩, HR2.out⟩
    | true =>
      have HT2 := HT.out
      rw [hB, if_pos rfl] at HT2
      rw [hB] at HK
      have HT3 := Lib.hid HT2
      have hpos := isB_pos (by decide) hB
      have hleft := HRr.out.left
      clear HT HT2 hB
      go_wp2_with (first
        | (go_at_call 46; (with_reducible refine (HK.out _ HRr.out).mono ?_); rintro e w2 ⟨rfl, hg, hr⟩; have HG2 := Lib.hid (HGr.out.trans hg); have HGs := Lib.hid hg; have HR2 : RowKit.Hid (Rd r E w2 ts'.tail) := Lib.hid hr; clear hg hr)
        | ((with_reducible refine (HC.out _ _ HG2.out HR2.out).mono ?_); rintro e w3 h3; rcases h3.step HT3.out with ⟨v, a3, ts3, rfl, hV, hR3, hg3, hS3, hx3⟩ | ⟨y, rfl, hGE, hS3⟩; (obtain ⟨tq, tc, rfl⟩ := hV.shape; have HV3 := Lib.hid hV; have HR3 := Lib.hid hR3; have HG3 := Lib.hid (HG2.out.trans hg3); have HGt := Lib.hid (HGs.out.trans hg3); have HS3 := Lib.hid hS3; have HX3 := Lib.hid hx3; clear hV hR3 hg3 hS3 hx3))
        | (at_builtin; refine (fun h : True → _ => h trivial) ?_))
      all_goals first | exact ⟨rfl, HG2.out.trans hGE, rfl⟩ | exact ⟨rfl, HG2.out.trans hGE, by rw [hS3]⟩ | skip
      intro _
      have hs3 := HGt.out.size
      obtain ⟨v', w', hrun, hrow', hgr, hblk⟩ := RowG.append (K := listK) (ms := [a3]) (wq := w3.alloc (.cells #[.slice tq a3.length tc] 37)) HROW.out hz (by simp; omega)
        (fun b h1 h2 => by rw [Below.heap_alloc _ _ _ (by omega)]; exact HGt.out.same h2 (by omega)) (g := w3.heap.size) (o := 0) (cc := 1)
        (fun i x hx => by
          match i, hx with
          | 0, hx =>
            obtain rfl : a3 = x := by simpa using hx
            refine ⟨[.slice tq a3.length tc], fun j u hu => ?_, _, rfl, HV3.out.1.move fun b hb hl => ⟨by have := HGs.out.size; unfold New at hb; omega, Below.heap_alloc _ _ _ hl⟩, HV3.out.2⟩
            have e : 0 + 0 * listK.size + j = j := by omega
            rw [e, hb_cell (hb_new _ _)]
            simpa using hu
          | i + 1, hx => simp at hx) (by omega) (by simp)
      refine wpList_append_at rfl _ _ rfl rfl rfl rfl hrun ?_
      have hlen : ts3.length ≤ ts'.tail.length := HM.out _ _ _ HX3.out
      have HRW := Lib.hid hrow'
      have hg4 : Rg r w w' := (HG3.out.alloc _).grown hgr hblk
      have hr4 : Rd r E w' ts3 := (HR3.out.alloc _).grown hgr (fun k hk => by have := hblk k hk; omega)
      have HG4 := Lib.hid hg4
      have HR4 := Lib.hid hr4
      have hl4 := hr4.left
      clear hgr hrow' hrun hblk hg4 hr4
      go_wp2
      refine ⟨⟨ts3, acc ++ [a3], HS3.out, by simp; omega, HG4.out, HR4.out, HRW.out⟩, ?_⟩
      omega
end Go.Proofs.YtlbnaddgdgbckaaGreatDoor
