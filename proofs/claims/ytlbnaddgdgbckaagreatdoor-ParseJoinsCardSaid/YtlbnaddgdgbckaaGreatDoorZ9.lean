/- Texts in a row: Pl Pn. -/
import Derived.Test.YtlbnaddgdgbckaaGreatDoorZ8
/- What one is applied to. -/
namespace Go.Proofs.YtlbnaddgdgbckaaGreatDoor
open Go.RowKit
set_option linter.unusedSimpArgs false
set_option linter.unusedVariables false
/-- What a reader of an expression at one depth does. -/
def ExprC (r E g d : Nat) : Prop := ∀ ts W, Rd r E W ts → Calls Tryz.prog 23 #[rp r, .int .i64 (d : Nat)] W (Got r E TmV W (exprP E g ts))
set_option maxRecDepth 100000 in
theorem atom1_any (r E d g : Nat) (IH : ExprC r E g d) (br bd : Nat) (w0 : World)
    (hbr : w0.heap[br]? = some (.cells #[rp r] 56 (0, 0))) (hbd : w0.heap[bd]? = some (.cells #[.int .i64 (d : Nat)] 3 (0, 0))) (h1 : br ≠ r) (h2 : bd ≠ r) : OneT r E (exprP E g) 73 #[bp br, bp bd] w0 := by
  intro w ts hg hR
  have kr := hg.keep hbr h1
  have kd := hg.keep hbd h2
  have x0 := hb_at kr 0 rfl
  have x1 := hb_at kd 0 rfl
  have z0 := hb_lt kr
  have z1 := hb_lt kd
  have hrl := hR.lt
  have HR0 := Lib.hid hR
  have HG0 : RowKit.Hid (Rg r w w) := Lib.hid (Rg.refl r w)
  obtain ⟨S, hS⟩ : ∃ S, S = exprP E g ts := ⟨_, rfl⟩
  have HS0 := Lib.hid hS
  rw [← hS]
  have HI : RowKit.Hid (∀ ts W, Rd r E W ts → Calls Tryz.prog 23 #[rp r, .int .i64 (d : Nat)] W (Got r E TmV W (exprP E g ts))) := Lib.hid IH
  clear hR hS hg hbr hbd kr kd IH
  go_enter Tryz.func73, Tryz.ntmps73
  go_wp2_with (go_at_call 23; (with_reducible refine (HI.out _ _ (by first | exact HR0.out | exact HR0.out.alloc _ | exact (HR0.out.alloc _).alloc _ | exact ((HR0.out.alloc _).alloc _).alloc _ | exact HR0.out.upto (fun _ _ _ => rfl) | exact (HR0.out.alloc _).upto (fun _ _ _ => rfl))).mono ?_); rintro e w1 h1; rcases h1.step (HS0.out.trans (bnd_id _).symm) with ⟨v1, a1, ts1, rfl, hV, hR, hg, hS, hx⟩ | ⟨y, rfl, hg, hSE⟩; rotate_left; (have hGE : Rg r w w1 := (by first | exact HG0.out.trans hg | exact (HG0.out.alloc _).trans hg | exact ((HG0.out.alloc _).alloc _).trans hg | exact (((HG0.out.alloc _).alloc _).alloc _).trans hg | exact HG0.out.drew.trans hg | exact (HG0.out.alloc _).drew.trans hg)); rotate_left; (obtain ⟨k1, p1, n1, N1, q1, l1, c1, rfl⟩ := hV.shape; have HV1 := Lib.hid hV); (have HR1 := Lib.hid hR; have HG1 : RowKit.Hid (Rg r w w1) := Lib.hid (by first | exact HG0.out.trans hg | exact (HG0.out.alloc _).trans hg | exact ((HG0.out.alloc _).alloc _).trans hg | exact (((HG0.out.alloc _).alloc _).alloc _).trans hg | exact HG0.out.drew.trans hg | exact (HG0.out.alloc _).drew.trans hg); have HS1 := Lib.hid hS; have HX1 := Lib.hid hx; have HD1 := Lib.hid hg; clear hR hg hS hx hV); (have HBr1 := Lib.hid (HD1.out.keep (hb_new _ _) (by omega)); obtain ⟨x0, x1, x2, x3, x4, y0, y1, y2, y3, y4⟩ := box5 HBr1.out))
  all_goals first | exact ⟨rfl, hGE, rfl⟩ | exact ⟨rfl, hGE, by rw [hSE]⟩ | skip
  exact fin5 (w0 := w) rfl rfl rfl HBr1.out (Nat.le_refl _) HG1.out hrl HR1.out HS1.out (w.heap.size + 1) (by omega) (by omega) (by obtain ⟨d, h⟩ := HV1.out; exact ⟨d, h.move fun b hb _ => ⟨by unfold New at hb; rw [World.size_alloc] at hb; exact hb, rfl⟩⟩)
theorem appF_no {E : Nat} {atom : Ts → Res Tm} {t : Tm} {ts : Ts} (h : begB ts = false) : ∀ k, appF E atom k t ts = .ok (t, ts)
  | 0 => by unfold appF; rw [if_neg (by rw [h]; decide)]
  | k + 1 => by unfold appF; rw [if_neg (by rw [h]; decide)]
theorem appF_end {E : Nat} {atom : Ts → Res Tm} {t : Tm} {ts : Ts} (h : begB ts = true) : appF E atom 0 t ts = .error ((nx E ts).2, 9) := if_pos h
theorem appF_more {E k : Nat} {atom : Ts → Res Tm} {t : Tm} {ts : Ts} (h : begB ts = true) : appF E atom (k + 1) t ts = bnd (atom ts) fun a ts => appF E atom k (.mk 27 e0 e0 0 [t, a]) ts := if_pos h
set_option maxRecDepth 100000 in
set_option maxHeartbeats 4000000 in
theorem applied_t (r E : Nat) (one : Ts → Res Tm) (n : Nat) (cap : Array Value) (w : World) (ts : Ts) (hR : Rd r E w ts) (hcf : ∀ W, (callFunc n cap).run Tryz.prog W = .ok (.enter n cap) W) (HC : OneT r E one n cap w) :
    Calls Tryz.prog 41 #[rp r, .func (.func n) #[] cap] w (Got r E TmV w (appP E one ts)) := by
  have HC : RowKit.Hid (∀ W ts, Rg r w W → Rd r E W ts → Calls Tryz.prog n cap W (Got r E TmV W (one ts))) := Lib.hid HC
  have HR0 := Lib.hid hR
  have hrl := hR.lt
  have HG0 : RowKit.Hid (Rg r w w) := Lib.hid (Rg.refl r w)
  obtain ⟨S, hS⟩ : ∃ S, S = appP E one ts := ⟨_, rfl⟩
  have HS0 := Lib.hid hS
  rw [← hS]
  unfold appP at HS0
  clear hR hS
  go_enter Tryz.func41, Tryz.ntmps41
  go_wp2_with ((with_reducible refine (HC.out _ _ (by first | exact HG0.out | exact HG0.out.alloc _) (by first | exact HR0.out | exact HR0.out.alloc _ | exact (HR0.out.alloc _).alloc _ | exact ((HR0.out.alloc _).alloc _).alloc _ | exact HR0.out.upto (fun _ _ _ => rfl) | exact (HR0.out.alloc _).upto (fun _ _ _ => rfl))).mono ?_); rintro e w1 h1; rcases h1.step HS0.out with ⟨v1, a1, ts1, rfl, hV, hR, hg, hS, hx⟩ | ⟨y, rfl, hg, hSE⟩; rotate_left; (have hGE : Rg r w w1 := (by first | exact HG0.out.trans hg | exact (HG0.out.alloc _).trans hg | exact ((HG0.out.alloc _).alloc _).trans hg | exact (((HG0.out.alloc _).alloc _).alloc _).trans hg | exact HG0.out.drew.trans hg | exact (HG0.out.alloc _).drew.trans hg)); rotate_left; (obtain ⟨k1, p1, n1, N1, q1, l1, c1, rfl⟩ := hV.shape; have HV1 := Lib.hid hV); (have HR1 := Lib.hid hR; have HG1 : RowKit.Hid (Rg r w w1) := Lib.hid (by first | exact HG0.out.trans hg | exact (HG0.out.alloc _).trans hg | exact ((HG0.out.alloc _).alloc _).trans hg | exact (((HG0.out.alloc _).alloc _).alloc _).trans hg | exact HG0.out.drew.trans hg | exact (HG0.out.alloc _).drew.trans hg); have HS1 := Lib.hid hS; have HX1 := Lib.hid hx; have HD1 := Lib.hid hg; clear hR hg hS hx hV); (have HBx1 := Lib.hid (HD1.out.keep (hb_new _ _) (by omega)); have hz1 := HD1.out.size; rw [World.size_alloc] at hz1))
  all_goals first | exact ⟨rfl, hGE, rfl⟩ | exact ⟨rfl, hGE, by rw [hSE]⟩ | skip
  go_loopw [6] (fun i wr => ∃ (m : Nat) (ts' : Ts) (t : Tm) (tk tN : Int) (tp tn : ByteArray) (tq : Option Addr) (tl tc : Nat), i = .int .i64 m ∧ m ≤ 50 ∧ S = appF E one (50 - m) t ts' ∧ Rg r w wr ∧ Rd r E wr ts' ∧ w1.heap.size < wr.heap.size ∧
    wr.heap[w.heap.size]? = some (.cells #[.int .i64 0, .string ⟨#[]⟩, .string ⟨#[]⟩, .int .i64 0, .slice none 0 0] 39 (0, 0)) ∧ wr.heap[w1.heap.size]? = some (.cells #[.int .i64 tk, .string tp, .string tn, .int .i64 tN, .slice tq tl tc] 39 (0, 0)) ∧
    ∃ D, IsX (fun b => w.heap.size < b ∧ b ≠ w1.heap.size) wr D (tv tk tp tn tN (.slice tq tl tc)) t) (fun i _ => 51 - (intOf i).toNat)
  case atStart =>
    obtain ⟨D, hX⟩ := HV1.out
    refine ⟨0, ts1, a1, k1, N1, p1, n1, q1, l1, c1, rfl, by omega, HS1.out, HG1.out.alloc _, HR1.out.alloc _, by simp, hb_alloc HBx1.out _, hb_new _ _, D, hX.move fun b hb hl => ⟨⟨?_, by omega⟩, Below.heap_alloc _ _ _ hl⟩⟩
    unfold New at hb
    rw [World.size_alloc] at hb
    omega
  case round =>
    obtain ⟨m, ts', t, tk, tN, tp, tn, tq, tl, tc, rfl, hm, hT, hg, hRd, hsz, hb1, hb2, D, hX⟩ := hrel
    have HT := Lib.hid hT
    have HG2 : RowKit.Hid (Rg r w wr) := Lib.hid hg
    have HR2 : RowKit.Hid (Rd r E wr ts') := Lib.hid hRd
    have HBx2 := Lib.hid hb1
    have HBt2 := Lib.hid hb2
    have HXX := Lib.hid hX
    have HK := Lib.hid (fun W hW => beginsAtom_any r E ts' W hW)
    clear hT hg hRd hb1 hb2 hX
    cases hB : begB ts' with
    | false =>
      have HS3 : RowKit.Hid (S = .ok (t, ts')) := Lib.hid (by rw [HT.out, appF_no hB])
      rw [hB] at HK
      clear HT hB
      go_wp2_with (go_at_call 72; (with_reducible refine (HK.out _ HR2.out).mono ?_); rintro e w2 ⟨rfl, hb⟩; have HB := Lib.hid hb; have kx := hb_below HBx2.out hb (hb_lt HBx2.out); have kt := hb_below HBt2.out hb (hb_lt HBt2.out); have HBx3 := Lib.hid kx; obtain ⟨x0, x1, x2, x3, x4, y0, y1, y2, y3, y4⟩ := box5 kx; obtain ⟨u0, u1, u2, u3, u4, _⟩ := box5 kt; have z1 := hb_lt kx; have z2 := hb_lt kt; clear hb kx kt)
      exact fin5 (w0 := w) rfl rfl rfl HBx3.out (Nat.le_refl _) (HG2.out.trans (Rg.of_below HB.out)) hrl (HR2.out.below HB.out) HS3.out (w.heap.size + 1) (by omega) (by omega) ⟨D, HXX.out.move fun b hb hl => ⟨hb.1, HB.out.block b hl⟩⟩
    | true =>
      rw [hB] at HK
      by_cases h50 : m = 50
      · have HS3 : RowKit.Hid (S = .error ((nx E ts').2, 9)) := Lib.hid (by rw [HT.out, h50]; exact appF_end hB)
        have HF := Lib.hid (fun W hW => fault_at r E 9 ts' W hW 9 rfl)
        subst h50
        clear HT hB
        go_wp2_with (first
          | (go_at_call 72; (with_reducible refine (HK.out _ HR2.out).mono ?_); rintro e w2 ⟨rfl, hb⟩; have HB := Lib.hid hb; have HR3 := Lib.hid (HR2.out.below hb); clear hb)
          | (go_at_call 32; (with_reducible refine (HF.out _ HR3.out).mono ?_); rintro e w3 ⟨rfl, hb⟩; have HB3 := Lib.hid hb; clear hb))
        exact ⟨rfl, (HG2.out.trans (Rg.of_below HB.out)).trans (Rg.of_below HB3.out), by rw [HS3.out]; rfl⟩
      · have e50 : ((m : Int) == 50) = false := by rw [beq_eq_false_iff_ne]; omega
        have hw1 : IntKind.i64.wrap ((m : Int) + 1) = (m : Int) + 1 := IntWalk.i64_in _ (by omega)
        obtain ⟨j, hj⟩ : ∃ j, 50 - m = j + 1 := ⟨50 - m - 1, by omega⟩
        have HS3 : RowKit.Hid (S = bnd (one ts') fun a ts => appF E one j (.mk 27 e0 e0 0 [t, a]) ts) := Lib.hid (by rw [HT.out, hj]; exact appF_more hB)
        have HJ := Lib.hid hj
        have HM1 : RowKit.Hid (m + 1 ≤ 50) := Lib.hid (by omega)
        clear HT hB hj h50
        go_wp2_with (go_at_call 72; (with_reducible refine (HK.out _ HR2.out).mono ?_); rintro e w3 ⟨rfl, hb⟩; have HB := Lib.hid hb; have HR3 : RowKit.Hid (Rd r E w3 ts') := Lib.hid (HR2.out.below hb); have HG3 : RowKit.Hid (Rg r w w3) := Lib.hid (HG2.out.trans (Rg.of_below hb)); have kx := hb_below HBx2.out hb (hb_lt HBx2.out); have kt := hb_below HBt2.out hb (hb_lt HBt2.out); have HBx3 := Lib.hid kx; have HBt3 := Lib.hid kt; obtain ⟨x0, x1, x2, x3, x4, y0, y1, y2, y3, y4⟩ := box5 kx; obtain ⟨u0, u1, u2, u3, u4, v0, v1, v2, v3, v4⟩ := box5 kt; have z1 := hb_lt kx; have z2 := hb_lt kt; clear hb kx kt)
        go_region_with (((with_reducible refine (HC.out _ _ (by first | exact HG3.out | exact HG3.out.drew | exact HG3.out.alloc _) (by first | exact HR3.out | exact HR3.out.alloc _ | exact (HR3.out.alloc _).alloc _ | exact ((HR3.out.alloc _).alloc _).alloc _ | exact HR3.out.upto (fun _ _ _ => rfl) | exact (HR3.out.alloc _).upto (fun _ _ _ => rfl))).mono ?_); rintro e w4 h4; rcases h4.step HS3.out with ⟨v4, a4, ts4, rfl, hV, hR, hg, hS, hx⟩ | ⟨y, rfl, hg, hSE⟩; rotate_left; (have hGE : Rg r w w4 := (by first | exact HG3.out.trans hg | exact (HG3.out.alloc _).trans hg | exact ((HG3.out.alloc _).alloc _).trans hg | exact (((HG3.out.alloc _).alloc _).alloc _).trans hg | exact HG3.out.drew.trans hg | exact (HG3.out.alloc _).drew.trans hg); subst hSE; exact ⟨rfl, hGE, rfl⟩); (obtain ⟨k4, p4, n4, N4, q4, l4, c4, rfl⟩ := hV.shape; have HV4 := Lib.hid hV); (have HR4 := Lib.hid hR; have HG4 : RowKit.Hid (Rg r w w4) := Lib.hid (by first | exact HG3.out.trans hg | exact (HG3.out.alloc _).trans hg | exact ((HG3.out.alloc _).alloc _).trans hg | exact (((HG3.out.alloc _).alloc _).alloc _).trans hg | exact HG3.out.drew.trans hg | exact (HG3.out.alloc _).drew.trans hg); have HS4 := Lib.hid hS; have HX4 := Lib.hid hx; have HD4 := Lib.hid hg; clear hR hg hS hx hV); (have HBx4 := Lib.hid (HD4.out.keep HBx3.out (by omega)); have HBt4 := Lib.hid (HD4.out.keep HBt3.out (by omega)); obtain ⟨xx0, xx1, xx2, xx3, xx4, yy0, yy1, yy2, yy3, yy4⟩ := box5 HBx4.out; obtain ⟨uu0, uu1, uu2, uu3, uu4, vv0, vv1, vv2, vv3, vv4⟩ := box5 HBt4.out; have zz1 := hb_lt HBx4.out; have zz2 := hb_lt HBt4.out)))
        all_goals
          go_wp2
          have hz4 := HD4.out.size
          have hz4b : w3.heap.size ≤ w4.heap.size := hz4
          have hz3 := HB.out.size
          refine ⟨⟨m + 1, ts4, .mk 27 e0 e0 0 [t, a4], 27, 0, ⟨#[]⟩, ⟨#[]⟩, _, 2, 2, by simp, HM1.out, ?_, (HG4.out.set5w (g := w1.heap.size) (by omega) 27 ⟨#[]⟩ ⟨#[]⟩ 0 _).alloc _, (HR4.out.set5w (g := w1.heap.size) (by omega) 27 ⟨#[]⟩ ⟨#[]⟩ 0 _).alloc _, by rw [World.size_alloc]; exact Nat.lt_succ_of_lt (by rw [← set5w] ; rw [set5w_size]; omega), ?_, hb_alloc (set5w_box HBt4.out 27 ⟨#[]⟩ ⟨#[]⟩ 0 _) _, ?_⟩, by have := HM1.out; simp [intOf]; omega⟩
          · have e : 50 - (m + 1) = j := by have := HJ.out; omega
            rw [e]
            exact HS4.out
          · refine hb_alloc ?_ _
            rw [← set5w, set5w_other (by omega)]
            exact HBx4.out
          · rw [← set5w]
            refine kids_of (SlG.two ⟨by omega, by omega⟩ (set5a_new _ _ _ _ _ _ _ _) ?_ ?_) (by simp) (by decide) (by decide)
            · exact ⟨D, HXX.out.move fun b hb hl => by
                have e3 : w3.heap[b]? = wr.heap[b]? := HB.out.block b hl
                exact ⟨hb, by rw [set5a_other hb.2 (by omega), HD4.out.same (by show b < w3.heap.size; omega) (by omega)]; exact e3⟩⟩
            · obtain ⟨D4, h4⟩ := HV4.out
              exact ⟨D4, h4.move fun b hb hl => by
                have hb2 : w3.heap.size ≤ b := hb
                exact ⟨⟨by omega, by omega⟩, set5a_other (by omega) hl⟩⟩
end Go.Proofs.YtlbnaddgdgbckaaGreatDoor
/- An atom. -/
namespace Go.Proofs.YtlbnaddgdgbckaaGreatDoor
open Go.RowKit
set_option linter.unusedSimpArgs false
set_option linter.unusedVariables false
theorem annP_one {E : Nat} {one : Ts → Res Tm} {ts ts' : Ts} {l : List Tm} (hB : isB 8 sColon ts = true) (h : annP E one ts = .ok (l, ts')) : ∃ x, l = [x] := by
  unfold annP at h
  rw [if_pos hB] at h
  cases hx : one ts.tail with
  | error e => rw [hx] at h; cases h
  | ok y =>
    rw [hx] at h
    cases h
    exact ⟨_, rfl⟩
theorem next_kd (r E : Nat) (ts : Ts) (w : World) (hR : Rd r E w ts) : Calls Tryz.prog 59 #[rp r] w fun e w' => (∃ z n a, e = .returned (.agg #[.int .i64 (kd ts), .string z, .int .i64 n, .int .i64 a])) ∧ Below w.heap.size w w' := by
  refine (next_any r E ts w hR).mono ?_
  rintro e w' ⟨rfl, hb⟩
  have h : kd ts = (nx E ts).1.k := by cases ts <;> rfl
  exact ⟨⟨(nx E ts).1.s, (nx E ts).1.n, ((nx E ts).2 : Nat), by rw [h]; rfl⟩, hb⟩
set_option maxRecDepth 100000 in
set_option maxHeartbeats 4000000 in
theorem atom_any (r E g d : Nat) (hd : d + g = 41) (IH : ExprC r E g d) (ts : Ts) (w : World) (hR : Rd r E w ts) : Calls Tryz.prog 43 #[rp r, .int .i64 (d : Nat)] w (Got r E TmV w (atomP E (exprP E g) (typP E g) ts)) := by
  have HIH := Lib.hid IH
  have HM := Lib.hid (exprP_mono E g)
  have HCF : RowKit.Hid (∀ W, (callFunc 73 #[bp w.heap.size, bp (w.heap.size + 1)]).run Tryz.prog W = .ok (.enter 73 #[bp w.heap.size, bp (w.heap.size + 1)]) W) := Lib.hid (fun W => by kernel_rfl)
  clear IH
  have HR0 := Lib.hid hR
  have hrl := hR.lt
  have HG0 : RowKit.Hid (Rg r w w) := Lib.hid (Rg.refl r w)
  obtain ⟨S, hS⟩ : ∃ S, S = atomP E (exprP E g) (typP E g) ts := ⟨_, rfl⟩
  have HS0 := Lib.hid hS
  rw [← hS]
  unfold atomP at HS0
  clear hR hS
  have HN0 := Lib.hid (fun W hW => next_any r E ts W hW)
  have hnx : (nx E ts).1 = (nx 0 ts).1 := by cases ts <;> rfl
  unfold tokV at HN0
  unfold kd at HS0
  rw [← hnx] at HS0
  have HKD : RowKit.Hid (kd ts = (nx E ts).1.k) := Lib.hid (by rw [hnx]; rfl)
  clear hnx
  generalize nx E ts = T at *
  obtain ⟨⟨nk, nz, nn⟩, na⟩ := T
  have HN : RowKit.Hid (∀ W, Rd r E W ts → Calls Tryz.prog 59 #[rp r] W fun e w' => e = .returned (.agg #[.int .i64 nk, .string nz, .int .i64 nn, .int .i64 (na : Nat)]) ∧ Below W.heap.size W w') := HN0
  clear HN0
  have hf0 := fld0 nk nn na nz
  by_cases h4 : nk = 4
  · have h := HS0.out
    rw [if_pos h4] at h
    have HSa := Lib.hid h
    subst h4
    clear HS0 h 
    have HS1z := HSa
    have HS0 := HSa
    go_enter Tryz.func43, Tryz.ntmps43
    go_upto_region 1 with (fail)
    obtain ⟨c0, c1, c2, hz3, hb3⟩ := boxes3 w (.cells #[rp r] 56) (.cells #[.int .i64 (d : Nat)] 3) (.cells #[.int .i64 0, .string ⟨#[]⟩, .string ⟨#[]⟩, .int .i64 0, .slice none 0 0] 39)
    generalize hW1 : ((w.alloc (.cells #[rp r] 56)).alloc (.cells #[.int .i64 (d : Nat)] 3)).alloc (.cells #[.int .i64 0, .string ⟨#[]⟩, .string ⟨#[]⟩, .int .i64 0, .slice none 0 0] 39) = W1 at *
    have HBr1 := Lib.hid c0
    have HBd1 := Lib.hid c1
    have HBx1 := Lib.hid c2
    have HR1 : RowKit.Hid (Rd r E W1 ts) := Lib.hid (HR0.out.below hb3)
    have HG1 : RowKit.Hid (Rg r w W1) := Lib.hid (Rg.of_below hb3)
    have HS1 := HS0
    have x0 := hb_at c0 0 rfl
    have x1 := hb_at c1 0 rfl
    have q0 := hb_lt c0
    have q1 := hb_lt c1
    have q2 := hb_lt c2
    clear hW1 c0 c1 c2 hb3
    go_wp2_with (first
      | (go_at_call 59; (with_reducible refine (HN.out _ (by first | exact HR1.out | exact HR1.out.alloc _ | exact (HR1.out.alloc _).alloc _ | exact ((HR1.out.alloc _).alloc _).alloc _ | exact HR1.out.upto (fun _ _ _ => rfl) | exact (HR1.out.alloc _).upto (fun _ _ _ => rfl))).mono ?_); rintro e w2 ⟨rfl, hb⟩; have HG2 : RowKit.Hid (Rg r w w2) := Lib.hid (by first | exact HG1.out.trans (Rg.of_below hb) | exact (HG1.out.alloc _).trans (Rg.of_below hb) | exact ((HG1.out.alloc _).alloc _).trans (Rg.of_below hb)); have HR2 : RowKit.Hid (Rd r E w2 ts) := Lib.hid (by first | exact HR1.out.below hb | exact (HR1.out.alloc _).below hb | exact ((HR1.out.alloc _).alloc _).below hb); have HD2 := Lib.hid (Rg.of_below (r := r) hb); have HS2 := HS1; (have HBr2 := Lib.hid (HD2.out.keep HBr1.out (by omega))); (have HBd2 := Lib.hid (HD2.out.keep HBd1.out (by omega))); (have HBx2 := Lib.hid (HD2.out.keep HBx1.out (by omega))); have u2a := hb_at HBr2.out 0 rfl; have u2b := hb_at HBd2.out 0 rfl; have u2c := hb_lt HBr2.out; have u2d := hb_lt HBd2.out; have u2e := hb_lt HBx2.out; obtain ⟨x20, x21, x22, x23, x24, y20, y21, y22, y23, y24⟩ := box5 HBx2.out; clear hb)
      | (go_at_call 66; (with_reducible refine (take_st r E 4 _ (by decide) _ (by first | exact HR2.out | exact HR2.out.alloc _ | exact (HR2.out.alloc _).alloc _ | exact ((HR2.out.alloc _).alloc _).alloc _ | exact HR2.out.upto (fun _ _ _ => rfl) | exact (HR2.out.alloc _).upto (fun _ _ _ => rfl))).mono ?_); rintro e w3 h3; rcases h3.step HS2.out with ⟨v3, a3, ts3, rfl, hV, hR, hg, hS, hx⟩ | ⟨y, rfl, hg, hSE⟩; rotate_left; (have hGE : Rg r w w3 := (by first | exact HG2.out.trans hg | exact (HG2.out.alloc _).trans hg | exact ((HG2.out.alloc _).alloc _).trans hg | exact (((HG2.out.alloc _).alloc _).alloc _).trans hg | exact HG2.out.drew.trans hg | exact (HG2.out.alloc _).drew.trans hg)); rotate_left; (obtain ⟨rfl, hst3⟩ := hV); (have HR3 := Lib.hid hR; have HG3 : RowKit.Hid (Rg r w w3) := Lib.hid (by first | exact HG2.out.trans hg | exact (HG2.out.alloc _).trans hg | exact ((HG2.out.alloc _).alloc _).trans hg | exact (((HG2.out.alloc _).alloc _).alloc _).trans hg | exact HG2.out.drew.trans hg | exact (HG2.out.alloc _).drew.trans hg); have HS3 := Lib.hid hS; have HX3 := Lib.hid hx; have HD3 := Lib.hid hg; clear hR hg hS hx); (have HBr3 := Lib.hid (HD3.out.keep (hb_alloc HBr2.out _) (by omega))); (have HBd3 := Lib.hid (HD3.out.keep (hb_alloc HBd2.out _) (by omega))); (have HBx3 := Lib.hid (HD3.out.keep (hb_alloc HBx2.out _) (by omega))); have u3a := hb_at HBr3.out 0 rfl; have u3b := hb_at HBd3.out 0 rfl; have u3c := hb_lt HBr3.out; have u3d := hb_lt HBd3.out; have u3e := hb_lt HBx3.out; obtain ⟨x30, x31, x32, x33, x34, y30, y31, y32, y33, y34⟩ := box5 HBx3.out; (have HBt3 := Lib.hid (HD3.out.keep (hb_new _ _) (by omega)); obtain ⟨s0, s1, s2, s3, _⟩ := box4 HBt3.out; have st := hb_lt HBt3.out)))
    all_goals first | exact ⟨rfl, hGE, rfl⟩ | exact ⟨rfl, hGE, by rw [hSE]⟩ | skip
    have hz2 := HD2.out.size
    have hz3 := HD3.out.size
    rw [World.size_alloc] at hz3
    exact fin5 (w0 := w) rfl rfl rfl HBx3.out (by omega) HG3.out hrl HR3.out HS3.out w3.heap.size (by omega) (by omega) ⟨_, leafX _ _ _ _ _ _ (by decide) (by decide)⟩
  by_cases h5 : nk = 5
  · have h := HS0.out
    rw [if_neg h4, if_pos h5] at h
    have HSa := Lib.hid h
    subst h5
    clear HS0 h h4
    have HS1z := HSa
    have HS0 := HSa
    go_enter Tryz.func43, Tryz.ntmps43
    go_upto_region 1 with (fail)
    obtain ⟨c0, c1, c2, hz3, hb3⟩ := boxes3 w (.cells #[rp r] 56) (.cells #[.int .i64 (d : Nat)] 3) (.cells #[.int .i64 0, .string ⟨#[]⟩, .string ⟨#[]⟩, .int .i64 0, .slice none 0 0] 39)
    generalize hW1 : ((w.alloc (.cells #[rp r] 56)).alloc (.cells #[.int .i64 (d : Nat)] 3)).alloc (.cells #[.int .i64 0, .string ⟨#[]⟩, .string ⟨#[]⟩, .int .i64 0, .slice none 0 0] 39) = W1 at *
    have HBr1 := Lib.hid c0
    have HBd1 := Lib.hid c1
    have HBx1 := Lib.hid c2
    have HR1 : RowKit.Hid (Rd r E W1 ts) := Lib.hid (HR0.out.below hb3)
    have HG1 : RowKit.Hid (Rg r w W1) := Lib.hid (Rg.of_below hb3)
    have HS1 := HS0
    have x0 := hb_at c0 0 rfl
    have x1 := hb_at c1 0 rfl
    have q0 := hb_lt c0
    have q1 := hb_lt c1
    have q2 := hb_lt c2
    clear hW1 c0 c1 c2 hb3
    go_wp2_with (first
      | (go_at_call 59; (with_reducible refine (HN.out _ (by first | exact HR1.out | exact HR1.out.alloc _ | exact (HR1.out.alloc _).alloc _ | exact ((HR1.out.alloc _).alloc _).alloc _ | exact HR1.out.upto (fun _ _ _ => rfl) | exact (HR1.out.alloc _).upto (fun _ _ _ => rfl))).mono ?_); rintro e w2 ⟨rfl, hb⟩; have HG2 : RowKit.Hid (Rg r w w2) := Lib.hid (by first | exact HG1.out.trans (Rg.of_below hb) | exact (HG1.out.alloc _).trans (Rg.of_below hb) | exact ((HG1.out.alloc _).alloc _).trans (Rg.of_below hb)); have HR2 : RowKit.Hid (Rd r E w2 ts) := Lib.hid (by first | exact HR1.out.below hb | exact (HR1.out.alloc _).below hb | exact ((HR1.out.alloc _).alloc _).below hb); have HD2 := Lib.hid (Rg.of_below (r := r) hb); have HS2 := HS1; (have HBr2 := Lib.hid (HD2.out.keep HBr1.out (by omega))); (have HBd2 := Lib.hid (HD2.out.keep HBd1.out (by omega))); (have HBx2 := Lib.hid (HD2.out.keep HBx1.out (by omega))); have u2a := hb_at HBr2.out 0 rfl; have u2b := hb_at HBd2.out 0 rfl; have u2c := hb_lt HBr2.out; have u2d := hb_lt HBd2.out; have u2e := hb_lt HBx2.out; obtain ⟨x20, x21, x22, x23, x24, y20, y21, y22, y23, y24⟩ := box5 HBx2.out; clear hb)
      | (go_at_call 66; (with_reducible refine (take_st r E 5 _ (by decide) _ (by first | exact HR2.out | exact HR2.out.alloc _ | exact (HR2.out.alloc _).alloc _ | exact ((HR2.out.alloc _).alloc _).alloc _ | exact HR2.out.upto (fun _ _ _ => rfl) | exact (HR2.out.alloc _).upto (fun _ _ _ => rfl))).mono ?_); rintro e w3 h3; rcases h3.step HS2.out with ⟨v3, a3, ts3, rfl, hV, hR, hg, hS, hx⟩ | ⟨y, rfl, hg, hSE⟩; rotate_left; (have hGE : Rg r w w3 := (by first | exact HG2.out.trans hg | exact (HG2.out.alloc _).trans hg | exact ((HG2.out.alloc _).alloc _).trans hg | exact (((HG2.out.alloc _).alloc _).alloc _).trans hg | exact HG2.out.drew.trans hg | exact (HG2.out.alloc _).drew.trans hg)); rotate_left; (obtain ⟨rfl, hst3⟩ := hV); (have HR3 := Lib.hid hR; have HG3 : RowKit.Hid (Rg r w w3) := Lib.hid (by first | exact HG2.out.trans hg | exact (HG2.out.alloc _).trans hg | exact ((HG2.out.alloc _).alloc _).trans hg | exact (((HG2.out.alloc _).alloc _).alloc _).trans hg | exact HG2.out.drew.trans hg | exact (HG2.out.alloc _).drew.trans hg); have HS3 := Lib.hid hS; have HX3 := Lib.hid hx; have HD3 := Lib.hid hg; clear hR hg hS hx); (have HBr3 := Lib.hid (HD3.out.keep (hb_alloc HBr2.out _) (by omega))); (have HBd3 := Lib.hid (HD3.out.keep (hb_alloc HBd2.out _) (by omega))); (have HBx3 := Lib.hid (HD3.out.keep (hb_alloc HBx2.out _) (by omega))); have u3a := hb_at HBr3.out 0 rfl; have u3b := hb_at HBd3.out 0 rfl; have u3c := hb_lt HBr3.out; have u3d := hb_lt HBd3.out; have u3e := hb_lt HBx3.out; obtain ⟨x30, x31, x32, x33, x34, y30, y31, y32, y33, y34⟩ := box5 HBx3.out))
    all_goals first | exact ⟨rfl, hGE, rfl⟩ | exact ⟨rfl, hGE, by rw [hSE]⟩ | skip
    have hz2 := HD2.out.size
    have hz3 := HD3.out.size
    rw [World.size_alloc] at hz3
    exact fin5 (w0 := w) rfl rfl rfl HBx3.out (by omega) HG3.out hrl HR3.out HS3.out w3.heap.size (by omega) (by omega) ⟨_, leafX _ _ _ _ _ _ (by decide) hst3⟩
  by_cases h2 : nk = 2
  · have h := HS0.out
    rw [if_neg h4, if_neg h5, if_pos h2] at h
    have HSa := Lib.hid h
    subst h2
    clear HS0 h h4 h5
    have HS1z := HSa
    have HS0 := HSa
    go_enter Tryz.func43, Tryz.ntmps43
    go_upto_region 1 with (fail)
    obtain ⟨c0, c1, c2, hz3, hb3⟩ := boxes3 w (.cells #[rp r] 56) (.cells #[.int .i64 (d : Nat)] 3) (.cells #[.int .i64 0, .string ⟨#[]⟩, .string ⟨#[]⟩, .int .i64 0, .slice none 0 0] 39)
    generalize hW1 : ((w.alloc (.cells #[rp r] 56)).alloc (.cells #[.int .i64 (d : Nat)] 3)).alloc (.cells #[.int .i64 0, .string ⟨#[]⟩, .string ⟨#[]⟩, .int .i64 0, .slice none 0 0] 39) = W1 at *
    have HBr1 := Lib.hid c0
    have HBd1 := Lib.hid c1
    have HBx1 := Lib.hid c2
    have HR1 : RowKit.Hid (Rd r E W1 ts) := Lib.hid (HR0.out.below hb3)
    have HG1 : RowKit.Hid (Rg r w W1) := Lib.hid (Rg.of_below hb3)
    have HS1 := HS0
    have x0 := hb_at c0 0 rfl
    have x1 := hb_at c1 0 rfl
    have q0 := hb_lt c0
    have q1 := hb_lt c1
    have q2 := hb_lt c2
    clear hW1 c0 c1 c2 hb3
    go_wp2_with (first
      | (go_at_call 59; (with_reducible refine (HN.out _ (by first | exact HR1.out | exact HR1.out.alloc _ | exact (HR1.out.alloc _).alloc _ | exact ((HR1.out.alloc _).alloc _).alloc _ | exact HR1.out.upto (fun _ _ _ => rfl) | exact (HR1.out.alloc _).upto (fun _ _ _ => rfl))).mono ?_); rintro e w2 ⟨rfl, hb⟩; have HG2 : RowKit.Hid (Rg r w w2) := Lib.hid (by first | exact HG1.out.trans (Rg.of_below hb) | exact (HG1.out.alloc _).trans (Rg.of_below hb) | exact ((HG1.out.alloc _).alloc _).trans (Rg.of_below hb)); have HR2 : RowKit.Hid (Rd r E w2 ts) := Lib.hid (by first | exact HR1.out.below hb | exact (HR1.out.alloc _).below hb | exact ((HR1.out.alloc _).alloc _).below hb); have HD2 := Lib.hid (Rg.of_below (r := r) hb); have HS2 := HS1; (have HBr2 := Lib.hid (HD2.out.keep HBr1.out (by omega))); (have HBd2 := Lib.hid (HD2.out.keep HBd1.out (by omega))); (have HBx2 := Lib.hid (HD2.out.keep HBx1.out (by omega))); have u2a := hb_at HBr2.out 0 rfl; have u2b := hb_at HBd2.out 0 rfl; have u2c := hb_lt HBr2.out; have u2d := hb_lt HBd2.out; have u2e := hb_lt HBx2.out; obtain ⟨x20, x21, x22, x23, x24, y20, y21, y22, y23, y24⟩ := box5 HBx2.out; clear hb)
      | (go_at_call 74; (with_reducible refine (qualifier_any r E ts HKD.out _ (by first | exact HR2.out | exact HR2.out.alloc _ | exact (HR2.out.alloc _).alloc _ | exact ((HR2.out.alloc _).alloc _).alloc _ | exact HR2.out.upto (fun _ _ _ => rfl) | exact (HR2.out.alloc _).upto (fun _ _ _ => rfl))).mono ?_); rintro e w3 h3; rcases h3.step HS2.out with ⟨v3, a3, ts3, rfl, hV, hR, hg, hS, hx⟩ | ⟨y, rfl, hg, hSE⟩; rotate_left; (have hGE : Rg r w w3 := (by first | exact HG2.out.trans hg | exact (HG2.out.alloc _).trans hg | exact ((HG2.out.alloc _).alloc _).trans hg | exact (((HG2.out.alloc _).alloc _).alloc _).trans hg | exact HG2.out.drew.trans hg | exact (HG2.out.alloc _).drew.trans hg)); rotate_left; (obtain ⟨rfl, hst3⟩ := hV); (have HR3 := Lib.hid hR; have HG3 : RowKit.Hid (Rg r w w3) := Lib.hid (by first | exact HG2.out.trans hg | exact (HG2.out.alloc _).trans hg | exact ((HG2.out.alloc _).alloc _).trans hg | exact (((HG2.out.alloc _).alloc _).alloc _).trans hg | exact HG2.out.drew.trans hg | exact (HG2.out.alloc _).drew.trans hg); have HS3 := Lib.hid hS; have HX3 := Lib.hid hx; have HD3 := Lib.hid hg; clear hR hg hS hx); (have HBr3 := Lib.hid (HD3.out.keep (hb_alloc HBr2.out _) (by omega))); (have HBd3 := Lib.hid (HD3.out.keep (hb_alloc HBd2.out _) (by omega))); (have HBx3 := Lib.hid (HD3.out.keep (hb_alloc HBx2.out _) (by omega))); have u3a := hb_at HBr3.out 0 rfl; have u3b := hb_at HBd3.out 0 rfl; have u3c := hb_lt HBr3.out; have u3d := hb_lt HBd3.out; have u3e := hb_lt HBx3.out; obtain ⟨x30, x31, x32, x33, x34, y30, y31, y32, y33, y34⟩ := box5 HBx3.out)
      | (go_at_call 75; (with_reducible refine (constructor_t 24 _ hst3 r E (exprP E g) 73 _ _ _ (by first | exact HR4.out | exact HR4.out.alloc _ | exact (HR4.out.alloc _).alloc _ | exact ((HR4.out.alloc _).alloc _).alloc _ | exact HR4.out.upto (fun _ _ _ => rfl) | exact (HR4.out.alloc _).upto (fun _ _ _ => rfl)) HM.out HCF.out ((atom1_any r E d g HIH.out _ _ w4 HBr4.out HBd4.out (by omega) (by omega)).at (by first | exact Rg.refl _ _ | exact (Rg.refl _ _).drew | exact (Rg.refl _ _).alloc _ | exact ((Rg.refl _ _).alloc _).drew | exact ((Rg.refl _ _).alloc _).alloc _))).mono ?_); rintro e w5 h5; rcases h5.step (HS4.out.trans (bnd_id _).symm) with ⟨v5, a5, ts5, rfl, hV, hR, hg, hS, hx⟩ | ⟨y, rfl, hg, hSE⟩; rotate_left; (have hGE : Rg r w w5 := (by first | exact HG4.out.trans hg | exact (HG4.out.alloc _).trans hg | exact ((HG4.out.alloc _).alloc _).trans hg | exact (((HG4.out.alloc _).alloc _).alloc _).trans hg | exact HG4.out.drew.trans hg | exact (HG4.out.alloc _).drew.trans hg)); rotate_left; (obtain ⟨k5, p5, n5, N5, q5, l5, c5, rfl⟩ := hV.shape; have HV5 := Lib.hid hV); (have HR5 := Lib.hid hR; have HG5 : RowKit.Hid (Rg r w w5) := Lib.hid (by first | exact HG4.out.trans hg | exact (HG4.out.alloc _).trans hg | exact ((HG4.out.alloc _).alloc _).trans hg | exact (((HG4.out.alloc _).alloc _).alloc _).trans hg | exact HG4.out.drew.trans hg | exact (HG4.out.alloc _).drew.trans hg); have HS5 := Lib.hid hS; have HX5 := Lib.hid hx; have HD5 := Lib.hid hg; clear hR hg hS hx hV); (have HBr5 := Lib.hid (HD5.out.keep HBr4.out (by omega))); (have HBd5 := Lib.hid (HD5.out.keep HBd4.out (by omega))); (have HBx5 := Lib.hid (HD5.out.keep HBx4.out (by omega))); have u5a := hb_at HBr5.out 0 rfl; have u5b := hb_at HBd5.out 0 rfl; have u5c := hb_lt HBr5.out; have u5d := hb_lt HBd5.out; have u5e := hb_lt HBx5.out; obtain ⟨x50, x51, x52, x53, x54, y50, y51, y52, y53, y54⟩ := box5 HBx5.out)
      | (go_at_call 66; (with_reducible refine (take_st r E 1 _ (by decide) _ (by first | exact HR4.out | exact HR4.out.alloc _ | exact (HR4.out.alloc _).alloc _ | exact ((HR4.out.alloc _).alloc _).alloc _ | exact HR4.out.upto (fun _ _ _ => rfl) | exact (HR4.out.alloc _).upto (fun _ _ _ => rfl))).mono ?_); rintro e w5 h5; rcases h5.step (show S = bnd (takeP E 1 ts3) _ from HS4.out) with ⟨v5, a5, ts5, rfl, hV, hR, hg, hS, hx⟩ | ⟨y, rfl, hg, hSE⟩; rotate_left; (have hGE : Rg r w w5 := (by first | exact HG4.out.trans hg | exact (HG4.out.alloc _).trans hg | exact ((HG4.out.alloc _).alloc _).trans hg | exact (((HG4.out.alloc _).alloc _).alloc _).trans hg | exact HG4.out.drew.trans hg | exact (HG4.out.alloc _).drew.trans hg)); rotate_left; (obtain ⟨rfl, hst5⟩ := hV); (have HR5 := Lib.hid hR; have HG5 : RowKit.Hid (Rg r w w5) := Lib.hid (by first | exact HG4.out.trans hg | exact (HG4.out.alloc _).trans hg | exact ((HG4.out.alloc _).alloc _).trans hg | exact (((HG4.out.alloc _).alloc _).alloc _).trans hg | exact HG4.out.drew.trans hg | exact (HG4.out.alloc _).drew.trans hg); have HS5 := Lib.hid hS; have HX5 := Lib.hid hx; have HD5 := Lib.hid hg; clear hR hg hS hx); (have HBr5 := Lib.hid (HD5.out.keep HBr4.out (by omega))); (have HBd5 := Lib.hid (HD5.out.keep HBd4.out (by omega))); (have HBx5 := Lib.hid (HD5.out.keep HBx4.out (by omega))); have u5a := hb_at HBr5.out 0 rfl; have u5b := hb_at HBd5.out 0 rfl; have u5c := hb_lt HBr5.out; have u5d := hb_lt HBd5.out; have u5e := hb_lt HBx5.out; obtain ⟨x50, x51, x52, x53, x54, y50, y51, y52, y53, y54⟩ := box5 HBx5.out))
    all_goals first | exact ⟨rfl, hGE, rfl⟩ | skip
    go_at_call 59
    with_reducible refine (next_kd r E ts3 _ HR3.out).mono ?_
    rintro e w4 ⟨⟨mz, mn, ma, rfl⟩, hb⟩
    have HG4 : RowKit.Hid (Rg r w w4) := Lib.hid (HG3.out.trans (Rg.of_below hb))
    have HR4 : RowKit.Hid (Rd r E w4 ts3) := Lib.hid (HR3.out.below hb)
    have HD4 := Lib.hid (Rg.of_below (r := r) hb)
    (have HBr4 := Lib.hid (HD4.out.keep HBr3.out (by omega))); (have HBd4 := Lib.hid (HD4.out.keep HBd3.out (by omega))); (have HBx4 := Lib.hid (HD4.out.keep HBx3.out (by omega))); have u4a := hb_at HBr4.out 0 rfl; have u4b := hb_at HBd4.out 0 rfl; have u4c := hb_lt HBr4.out; have u4d := hb_lt HBd4.out; have u4e := hb_lt HBx4.out; obtain ⟨x40, x41, x42, x43, x44, y40, y41, y42, y43, y44⟩ := box5 HBx4.out
    have hS : S = (if kd ts3 = 2 then conP E 24 a3 (exprP E g) ts3 else varP E a3 ts3) := HS3.out
    by_cases hB : kd ts3 = 2
    · rw [if_pos hB] at hS
      have HS4 := Lib.hid hS
      rw [hB]
      have hf4 := fld0 2 mn ma mz
      clear hS hb hB
      go_wp2_with ((go_at_call 75; (with_reducible refine (constructor_t 24 _ hst3 r E (exprP E g) 73 _ _ _ (by first | exact HR4.out | exact HR4.out.alloc _ | exact (HR4.out.alloc _).alloc _ | exact ((HR4.out.alloc _).alloc _).alloc _ | exact HR4.out.upto (fun _ _ _ => rfl) | exact (HR4.out.alloc _).upto (fun _ _ _ => rfl)) HM.out HCF.out ((atom1_any r E d g HIH.out _ _ w4 HBr4.out HBd4.out (by omega) (by omega)).at (by first | exact Rg.refl _ _ | exact (Rg.refl _ _).drew | exact (Rg.refl _ _).alloc _ | exact ((Rg.refl _ _).alloc _).drew | exact ((Rg.refl _ _).alloc _).alloc _))).mono ?_); rintro e w5 h5; rcases h5.step (HS4.out.trans (bnd_id _).symm) with ⟨v5, a5, ts5, rfl, hV, hR, hg, hS, hx⟩ | ⟨y, rfl, hg, hSE⟩; rotate_left; (have hGE : Rg r w w5 := (by first | exact HG4.out.trans hg | exact (HG4.out.alloc _).trans hg | exact ((HG4.out.alloc _).alloc _).trans hg | exact (((HG4.out.alloc _).alloc _).alloc _).trans hg | exact HG4.out.drew.trans hg | exact (HG4.out.alloc _).drew.trans hg)); rotate_left; (obtain ⟨k5, p5, n5, N5, q5, l5, c5, rfl⟩ := hV.shape; have HV5 := Lib.hid hV); (have HR5 := Lib.hid hR; have HG5 : RowKit.Hid (Rg r w w5) := Lib.hid (by first | exact HG4.out.trans hg | exact (HG4.out.alloc _).trans hg | exact ((HG4.out.alloc _).alloc _).trans hg | exact (((HG4.out.alloc _).alloc _).alloc _).trans hg | exact HG4.out.drew.trans hg | exact (HG4.out.alloc _).drew.trans hg); have HS5 := Lib.hid hS; have HX5 := Lib.hid hx; have HD5 := Lib.hid hg; clear hR hg hS hx hV); (have HBr5 := Lib.hid (HD5.out.keep HBr4.out (by omega))); (have HBd5 := Lib.hid (HD5.out.keep HBd4.out (by omega))); (have HBx5 := Lib.hid (HD5.out.keep HBx4.out (by omega))); have u5a := hb_at HBr5.out 0 rfl; have u5b := hb_at HBd5.out 0 rfl; have u5c := hb_lt HBr5.out; have u5d := hb_lt HBd5.out; have u5e := hb_lt HBx5.out; obtain ⟨x50, x51, x52, x53, x54, y50, y51, y52, y53, y54⟩ := box5 HBx5.out))
      all_goals first | exact ⟨rfl, hGE, rfl⟩ | exact ⟨rfl, hGE, by rw [hSE]⟩ | skip
      have hz2 := HG4.out.size
      exact fin5 (w0 := w) rfl rfl rfl HBx5.out (by omega) HG5.out hrl HR5.out HS5.out w4.heap.size (by omega) (by omega) HV5.out
    · rw [if_neg hB] at hS
      have HS4 := Lib.hid hS
      have hd4 : (kd ts3 == 2) = false := by simpa using hB
      have hf4 := fld0 (kd ts3) mn ma mz
      clear hS hb hB
      have HS4v : RowKit.Hid (S = bnd (takeP E 1 ts3) fun s ts => .ok (.mk 21 a3 s 0 [], ts)) := HS4
      clear HS4
      have HS4 := HS4v
      go_wp2_with ((go_at_call 66; (with_reducible refine (take_st r E 1 _ (by decide) _ (by first | exact HR4.out | exact HR4.out.alloc _ | exact (HR4.out.alloc _).alloc _ | exact ((HR4.out.alloc _).alloc _).alloc _ | exact HR4.out.upto (fun _ _ _ => rfl) | exact (HR4.out.alloc _).upto (fun _ _ _ => rfl))).mono ?_); rintro e w5 h5; rcases h5.step HS4.out with ⟨v5, a5, ts5, rfl, hV, hR, hg, hS, hx⟩ | ⟨y, rfl, hg, hSE⟩; rotate_left; (have hGE : Rg r w w5 := (by first | exact HG4.out.trans hg | exact (HG4.out.alloc _).trans hg | exact ((HG4.out.alloc _).alloc _).trans hg | exact (((HG4.out.alloc _).alloc _).alloc _).trans hg | exact HG4.out.drew.trans hg | exact (HG4.out.alloc _).drew.trans hg)); rotate_left; (obtain ⟨rfl, hst5⟩ := hV); (have HR5 := Lib.hid hR; have HG5 : RowKit.Hid (Rg r w w5) := Lib.hid (by first | exact HG4.out.trans hg | exact (HG4.out.alloc _).trans hg | exact ((HG4.out.alloc _).alloc _).trans hg | exact (((HG4.out.alloc _).alloc _).alloc _).trans hg | exact HG4.out.drew.trans hg | exact (HG4.out.alloc _).drew.trans hg); have HS5 := Lib.hid hS; have HX5 := Lib.hid hx; have HD5 := Lib.hid hg; clear hR hg hS hx); (have HBr5 := Lib.hid (HD5.out.keep HBr4.out (by omega))); (have HBd5 := Lib.hid (HD5.out.keep HBd4.out (by omega))); (have HBx5 := Lib.hid (HD5.out.keep HBx4.out (by omega))); have u5a := hb_at HBr5.out 0 rfl; have u5b := hb_at HBd5.out 0 rfl; have u5c := hb_lt HBr5.out; have u5d := hb_lt HBd5.out; have u5e := hb_lt HBx5.out; obtain ⟨x50, x51, x52, x53, x54, y50, y51, y52, y53, y54⟩ := box5 HBx5.out))
      all_goals first | exact ⟨rfl, hGE, rfl⟩ | exact ⟨rfl, hGE, by rw [hSE]⟩ | skip
      have hz5 := HD5.out.size
      exact fin5 (w0 := w) rfl rfl rfl HBx5.out (by omega) HG5.out hrl HR5.out HS5.out w5.heap.size (by omega) (by omega) ⟨_, leafX _ _ _ _ _ _ hst3 hst5⟩
  by_cases h1 : nk = 1
  · have h := HS0.out
    rw [if_neg h4, if_neg h5, if_neg h2, if_pos h1] at h
    have HSa := Lib.hid h
    subst h1
    clear HS0 h h4 h5 h2
    have HS1z := HSa
    have HS0 : RowKit.Hid (S = bnd (takeP E 1 ts) fun s ts => .ok (.mk 21 e0 s 0 [], ts)) := HSa
    go_enter Tryz.func43, Tryz.ntmps43
    go_upto_region 1 with (fail)
    obtain ⟨c0, c1, c2, hz3, hb3⟩ := boxes3 w (.cells #[rp r] 56) (.cells #[.int .i64 (d : Nat)] 3) (.cells #[.int .i64 0, .string ⟨#[]⟩, .string ⟨#[]⟩, .int .i64 0, .slice none 0 0] 39)
    generalize hW1 : ((w.alloc (.cells #[rp r] 56)).alloc (.cells #[.int .i64 (d : Nat)] 3)).alloc (.cells #[.int .i64 0, .string ⟨#[]⟩, .string ⟨#[]⟩, .int .i64 0, .slice none 0 0] 39) = W1 at *
    have HBr1 := Lib.hid c0
    have HBd1 := Lib.hid c1
    have HBx1 := Lib.hid c2
    have HR1 : RowKit.Hid (Rd r E W1 ts) := Lib.hid (HR0.out.below hb3)
    have HG1 : RowKit.Hid (Rg r w W1) := Lib.hid (Rg.of_below hb3)
    have HS1 := HS0
    have x0 := hb_at c0 0 rfl
    have x1 := hb_at c1 0 rfl
    have q0 := hb_lt c0
    have q1 := hb_lt c1
    have q2 := hb_lt c2
    clear hW1 c0 c1 c2 hb3
    go_wp2_with (first
      | (go_at_call 59; (with_reducible refine (HN.out _ (by first | exact HR1.out | exact HR1.out.alloc _ | exact (HR1.out.alloc _).alloc _ | exact ((HR1.out.alloc _).alloc _).alloc _ | exact HR1.out.upto (fun _ _ _ => rfl) | exact (HR1.out.alloc _).upto (fun _ _ _ => rfl))).mono ?_); rintro e w2 ⟨rfl, hb⟩; have HG2 : RowKit.Hid (Rg r w w2) := Lib.hid (by first | exact HG1.out.trans (Rg.of_below hb) | exact (HG1.out.alloc _).trans (Rg.of_below hb) | exact ((HG1.out.alloc _).alloc _).trans (Rg.of_below hb)); have HR2 : RowKit.Hid (Rd r E w2 ts) := Lib.hid (by first | exact HR1.out.below hb | exact (HR1.out.alloc _).below hb | exact ((HR1.out.alloc _).alloc _).below hb); have HD2 := Lib.hid (Rg.of_below (r := r) hb); have HS2 := HS1; (have HBr2 := Lib.hid (HD2.out.keep HBr1.out (by omega))); (have HBd2 := Lib.hid (HD2.out.keep HBd1.out (by omega))); (have HBx2 := Lib.hid (HD2.out.keep HBx1.out (by omega))); have u2a := hb_at HBr2.out 0 rfl; have u2b := hb_at HBd2.out 0 rfl; have u2c := hb_lt HBr2.out; have u2d := hb_lt HBd2.out; have u2e := hb_lt HBx2.out; obtain ⟨x20, x21, x22, x23, x24, y20, y21, y22, y23, y24⟩ := box5 HBx2.out; clear hb)
      | (go_at_call 66; (with_reducible refine (take_st r E 1 _ (by decide) _ (by first | exact HR2.out | exact HR2.out.alloc _ | exact (HR2.out.alloc _).alloc _ | exact ((HR2.out.alloc _).alloc _).alloc _ | exact HR2.out.upto (fun _ _ _ => rfl) | exact (HR2.out.alloc _).upto (fun _ _ _ => rfl))).mono ?_); rintro e w3 h3; rcases h3.step HS2.out with ⟨v3, a3, ts3, rfl, hV, hR, hg, hS, hx⟩ | ⟨y, rfl, hg, hSE⟩; rotate_left; (have hGE : Rg r w w3 := (by first | exact HG2.out.trans hg | exact (HG2.out.alloc _).trans hg | exact ((HG2.out.alloc _).alloc _).trans hg | exact (((HG2.out.alloc _).alloc _).alloc _).trans hg | exact HG2.out.drew.trans hg | exact (HG2.out.alloc _).drew.trans hg)); rotate_left; (obtain ⟨rfl, hst3⟩ := hV); (have HR3 := Lib.hid hR; have HG3 : RowKit.Hid (Rg r w w3) := Lib.hid (by first | exact HG2.out.trans hg | exact (HG2.out.alloc _).trans hg | exact ((HG2.out.alloc _).alloc _).trans hg | exact (((HG2.out.alloc _).alloc _).alloc _).trans hg | exact HG2.out.drew.trans hg | exact (HG2.out.alloc _).drew.trans hg); have HS3 := Lib.hid hS; have HX3 := Lib.hid hx; have HD3 := Lib.hid hg; clear hR hg hS hx); (have HBr3 := Lib.hid (HD3.out.keep (hb_alloc HBr2.out _) (by omega))); (have HBd3 := Lib.hid (HD3.out.keep (hb_alloc HBd2.out _) (by omega))); (have HBx3 := Lib.hid (HD3.out.keep (hb_alloc HBx2.out _) (by omega))); have u3a := hb_at HBr3.out 0 rfl; have u3b := hb_at HBd3.out 0 rfl; have u3c := hb_lt HBr3.out; have u3d := hb_lt HBd3.out; have u3e := hb_lt HBx3.out; obtain ⟨x30, x31, x32, x33, x34, y30, y31, y32, y33, y34⟩ := box5 HBx3.out))
    all_goals first | exact ⟨rfl, hGE, rfl⟩ | exact ⟨rfl, hGE, by rw [hSE]⟩ | skip
    have hz2 := HD2.out.size
    have hz3 := HD3.out.size
    rw [World.size_alloc] at hz3
    exact fin5 (w0 := w) rfl rfl rfl HBx3.out (by omega) HG3.out hrl HR3.out HS3.out w3.heap.size (by omega) (by omega) ⟨_, leafX _ _ _ _ _ _ (by decide) hst3⟩
  have h := HS0.out
  rw [if_neg h4, if_neg h5, if_neg h2, if_neg h1] at h
  have HSa := Lib.hid h
  have d4 : (nk == 4) = false := by simpa using h4
  have d5 : (nk == 5) = false := by simpa using h5
  have d2 : (nk == 2) = false := by simpa using h2
  have d1 : (nk == 1) = false := by simpa using h1
  clear HS0 h h1 h4 h5 h2
  have HS0 := HSa
  go_enter Tryz.func43, Tryz.ntmps43
  go_upto_region 1 with (fail)
  obtain ⟨c0, c1, c2, hz3, hb3⟩ := boxes3 w (.cells #[rp r] 56) (.cells #[.int .i64 (d : Nat)] 3) (.cells #[.int .i64 0, .string ⟨#[]⟩, .string ⟨#[]⟩, .int .i64 0, .slice none 0 0] 39)
  generalize hW1 : ((w.alloc (.cells #[rp r] 56)).alloc (.cells #[.int .i64 (d : Nat)] 3)).alloc (.cells #[.int .i64 0, .string ⟨#[]⟩, .string ⟨#[]⟩, .int .i64 0, .slice none 0 0] 39) = W1 at *
  have HBr1 := Lib.hid c0
  have HBd1 := Lib.hid c1
  have HBx1 := Lib.hid c2
  have HR1 : RowKit.Hid (Rd r E W1 ts) := Lib.hid (HR0.out.below hb3)
  have HG1 : RowKit.Hid (Rg r w W1) := Lib.hid (Rg.of_below hb3)
  have HS1 := HS0
  have x0 := hb_at c0 0 rfl
  have x1 := hb_at c1 0 rfl
  have q0 := hb_lt c0
  have q1 := hb_lt c1
  have q2 := hb_lt c2
  clear hW1 c0 c1 c2 hb3
  go_upto_region 17 with (first
    | (go_at_call 59; (with_reducible refine (HN.out _ (by first | exact HR1.out | exact HR1.out.alloc _ | exact (HR1.out.alloc _).alloc _ | exact ((HR1.out.alloc _).alloc _).alloc _ | exact HR1.out.upto (fun _ _ _ => rfl) | exact (HR1.out.alloc _).upto (fun _ _ _ => rfl))).mono ?_); rintro e w2 ⟨rfl, hb⟩; have HG2 : RowKit.Hid (Rg r w w2) := Lib.hid (by first | exact HG1.out.trans (Rg.of_below hb) | exact (HG1.out.alloc _).trans (Rg.of_below hb) | exact ((HG1.out.alloc _).alloc _).trans (Rg.of_below hb)); have HR2 : RowKit.Hid (Rd r E w2 ts) := Lib.hid (by first | exact HR1.out.below hb | exact (HR1.out.alloc _).below hb | exact ((HR1.out.alloc _).alloc _).below hb); have HD2 := Lib.hid (Rg.of_below (r := r) hb); have HS2 := HS1; (have HBr2 := Lib.hid (HD2.out.keep HBr1.out (by omega))); (have HBd2 := Lib.hid (HD2.out.keep HBd1.out (by omega))); (have HBx2 := Lib.hid (HD2.out.keep HBx1.out (by omega))); have u2a := hb_at HBr2.out 0 rfl; have u2b := hb_at HBd2.out 0 rfl; have u2c := hb_lt HBr2.out; have u2d := hb_lt HBd2.out; have u2e := hb_lt HBx2.out; obtain ⟨x20, x21, x22, x23, x24, y20, y21, y22, y23, y24⟩ := box5 HBx2.out; clear hb)
    | (go_at_call 76; (with_reducible refine (opened_t r E (exprP E g) 73 _ _ _ (by first | exact HR2.out | exact HR2.out.alloc _ | exact (HR2.out.alloc _).alloc _ | exact ((HR2.out.alloc _).alloc _).alloc _ | exact HR2.out.upto (fun _ _ _ => rfl) | exact (HR2.out.alloc _).upto (fun _ _ _ => rfl)) HM.out HCF.out ((atom1_any r E d g HIH.out _ _ w2 HBr2.out HBd2.out (by omega) (by omega)).at (by first | exact Rg.refl _ _ | exact (Rg.refl _ _).drew | exact (Rg.refl _ _).alloc _ | exact ((Rg.refl _ _).alloc _).drew | exact ((Rg.refl _ _).alloc _).alloc _))).mono ?_); rintro e w3 h3; rcases h3.step HS2.out with ⟨v3, a3, ts3, rfl, hV, hR, hg, hS, hx⟩ | ⟨y, rfl, hg, hSE⟩; rotate_left; (have hGE : Rg r w w3 := (by first | exact HG2.out.trans hg | exact (HG2.out.alloc _).trans hg | exact ((HG2.out.alloc _).alloc _).trans hg | exact (((HG2.out.alloc _).alloc _).alloc _).trans hg | exact HG2.out.drew.trans hg | exact (HG2.out.alloc _).drew.trans hg)); rotate_left; (obtain ⟨q3, c3, hv⟩ := hV.1.shape; subst hv; have HV3 := Lib.hid hV; have HL3 := Lib.hid hV.2); (have HR3 := Lib.hid hR; have HG3 : RowKit.Hid (Rg r w w3) := Lib.hid (by first | exact HG2.out.trans hg | exact (HG2.out.alloc _).trans hg | exact ((HG2.out.alloc _).alloc _).trans hg | exact (((HG2.out.alloc _).alloc _).alloc _).trans hg | exact HG2.out.drew.trans hg | exact (HG2.out.alloc _).drew.trans hg); have HS3 := Lib.hid hS; have HX3 := Lib.hid hx; have HD3 := Lib.hid hg; clear hR hg hS hx hV); (have HBr3 := Lib.hid (HD3.out.keep (hb_alloc HBr2.out _) (by omega))); (have HBd3 := Lib.hid (HD3.out.keep (hb_alloc HBd2.out _) (by omega))); (have HBx3 := Lib.hid (HD3.out.keep (hb_alloc HBx2.out _) (by omega))); have u3a := hb_at HBr3.out 0 rfl; have u3b := hb_at HBd3.out 0 rfl; have u3c := hb_lt HBr3.out; have u3d := hb_lt HBd3.out; have u3e := hb_lt HBx3.out; obtain ⟨x30, x31, x32, x33, x34, y30, y31, y32, y33, y34⟩ := box5 HBx3.out; have HV3b : RowKit.Hid (LsV w2 w3 (.slice q3 a3.length c3) a3) := Lib.hid (HV3.out.up (by rw [World.size_alloc]; exact Nat.le_succ _)); have hz3 : w2.heap.size < w3.heap.size := (by have h := HD3.out.size; rw [World.size_alloc] at h; omega)))
  all_goals first | exact ⟨rfl, hGE, rfl⟩ | exact ⟨rfl, hGE, by rw [hSE]⟩ | skip
  have hz2 := HG2.out.size
  have hS : S = (if a3.length = 1 ∧ isB 8 sColon ts3 = true then bnd (annP E (typP E g) ts3) (fun a ts => shutP E 25 [.mk 30 e0 e0 0 (a3 ++ a)] ts) else shutP E 25 a3 ts3) := HS3.out
  clear HS3 HSa HS0 HS1 HS2
  have HI0 := Lib.hid (fun W hW => is_any r E 8 sColon ts3 W hW)
  by_cases hl1 : a3.length = 1
  · have dl : ((a3.length : Int) == 1) = true := by rw [hl1]; rfl
    cases hB : isB 8 sColon ts3 with
    | false =>
      rw [if_neg (by rw [hB]; simp)] at hS
      have HS4 : RowKit.Hid (S = shutP E 25 a3 ts3) := Lib.hid hS
      have HI : RowKit.Hid (∀ W, Rd r E W ts3 → Calls Tryz.prog 77 #[rp r, .int .i64 8, .string sColon] W fun e w' => e = .returned (.bool false) ∧ Below W.heap.size W w') := by rw [hB] at HI0; exact HI0
      clear hS hl1 hB HI0
      go_wp2_with (first
        | (go_at_call 77; (with_reducible refine (HI.out _ (by first | exact HR3.out | exact HR3.out.alloc _ | exact (HR3.out.alloc _).alloc _ | exact ((HR3.out.alloc _).alloc _).alloc _ | exact HR3.out.upto (fun _ _ _ => rfl) | exact (HR3.out.alloc _).upto (fun _ _ _ => rfl))).mono ?_); rintro e w4 ⟨rfl, hb⟩; have HD4 := Lib.hid (Rg.of_below (r := r) hb); have HG4 : RowKit.Hid (Rg r w w4) := Lib.hid (by first | exact HG3.out.trans (Rg.of_below hb) | exact (HG3.out.alloc _).trans (Rg.of_below hb) | exact ((HG3.out.alloc _).alloc _).trans (Rg.of_below hb)); have HR4 : RowKit.Hid (Rd r E w4 ts3) := Lib.hid (HR3.out.below hb); have HV4 : RowKit.Hid (LsV w2 w4 (.slice q3 a3.length c3) a3) := Lib.hid (HV3b.out.move (by omega) (Rg.of_below hb)); (have HBr4 := Lib.hid (HD4.out.keep HBr3.out (by omega))); (have HBd4 := Lib.hid (HD4.out.keep HBd3.out (by omega))); (have HBx4 := Lib.hid (HD4.out.keep HBx3.out (by omega))); have u4a := hb_at HBr4.out 0 rfl; have u4b := hb_at HBd4.out 0 rfl; have u4c := hb_lt HBr4.out; have u4d := hb_lt HBd4.out; have u4e := hb_lt HBx4.out; obtain ⟨x40, x41, x42, x43, x44, y40, y41, y42, y43, y44⟩ := box5 HBx4.out; have hz4 : w3.heap.size ≤ w4.heap.size := hb.size; clear hb)
        | (go_at_call 78; (with_reducible refine (closed_t r E 25 _ _ w2 _ (by omega) (by omega) HV4.out _ (by first | exact HR4.out | exact HR4.out.alloc _ | exact (HR4.out.alloc _).alloc _ | exact ((HR4.out.alloc _).alloc _).alloc _ | exact HR4.out.upto (fun _ _ _ => rfl) | exact (HR4.out.alloc _).upto (fun _ _ _ => rfl))).mono ?_); rintro e w5 h5; rcases h5.step (HS4.out.trans (bnd_id _).symm) with ⟨v5, a5, ts5, rfl, hV, hR, hg, hS, hx⟩ | ⟨y, rfl, hg, hSE⟩; rotate_left; (have hGE : Rg r w w5 := (by first | exact HG4.out.trans hg | exact (HG4.out.alloc _).trans hg | exact ((HG4.out.alloc _).alloc _).trans hg | exact (((HG4.out.alloc _).alloc _).alloc _).trans hg | exact HG4.out.drew.trans hg | exact (HG4.out.alloc _).drew.trans hg)); rotate_left; (obtain ⟨k5, p5, n5, N5, q5, l5, c5, rfl⟩ := hV.shape; have HV5 := Lib.hid hV); (have HR5 := Lib.hid hR; have HG5 : RowKit.Hid (Rg r w w5) := Lib.hid (by first | exact HG4.out.trans hg | exact (HG4.out.alloc _).trans hg | exact ((HG4.out.alloc _).alloc _).trans hg | exact (((HG4.out.alloc _).alloc _).alloc _).trans hg | exact HG4.out.drew.trans hg | exact (HG4.out.alloc _).drew.trans hg); have HS5 := Lib.hid hS; have HX5 := Lib.hid hx; have HD5 := Lib.hid hg; clear hR hg hS hx hV); (have HBr5 := Lib.hid (HD5.out.keep HBr4.out (by omega))); (have HBd5 := Lib.hid (HD5.out.keep HBd4.out (by omega))); (have HBx5 := Lib.hid (HD5.out.keep HBx4.out (by omega))); have u5a := hb_at HBr5.out 0 rfl; have u5b := hb_at HBd5.out 0 rfl; have u5c := hb_lt HBr5.out; have u5d := hb_lt HBd5.out; have u5e := hb_lt HBx5.out; obtain ⟨x50, x51, x52, x53, x54, y50, y51, y52, y53, y54⟩ := box5 HBx5.out))
      all_goals first | exact ⟨rfl, hGE, rfl⟩ | exact ⟨rfl, hGE, by rw [hSE]⟩ | skip
      have hzz := HG5.out.size
      exact fin5 (w0 := w) rfl rfl rfl HBx5.out (by omega) HG5.out hrl HR5.out HS5.out w2.heap.size (by omega) (by omega) HV5.out
    | true =>
      rw [if_pos ⟨hl1, hB⟩] at hS
      have HS4 := Lib.hid hS
      have HI : RowKit.Hid (∀ W, Rd r E W ts3 → Calls Tryz.prog 77 #[rp r, .int .i64 8, .string sColon] W fun e w' => e = .returned (.bool true) ∧ Below W.heap.size W w') := by rw [hB] at HI0; exact HI0
      have HBB := Lib.hid hB
      have HL1 := Lib.hid hl1
      clear hS hl1 hB HI0
      go_wp2_with (first
        | (go_at_call 77; (with_reducible refine (HI.out _ (by first | exact HR3.out | exact HR3.out.alloc _ | exact (HR3.out.alloc _).alloc _ | exact ((HR3.out.alloc _).alloc _).alloc _ | exact HR3.out.upto (fun _ _ _ => rfl) | exact (HR3.out.alloc _).upto (fun _ _ _ => rfl))).mono ?_); rintro e w4 ⟨rfl, hb⟩; have HD4 := Lib.hid (Rg.of_below (r := r) hb); have HG4 : RowKit.Hid (Rg r w w4) := Lib.hid (by first | exact HG3.out.trans (Rg.of_below hb) | exact (HG3.out.alloc _).trans (Rg.of_below hb) | exact ((HG3.out.alloc _).alloc _).trans (Rg.of_below hb)); have HR4 : RowKit.Hid (Rd r E w4 ts3) := Lib.hid (HR3.out.below hb); have HV4 : RowKit.Hid (LsV w2 w4 (.slice q3 a3.length c3) a3) := Lib.hid (HV3b.out.move (by omega) (Rg.of_below hb)); (have HBr4 := Lib.hid (HD4.out.keep HBr3.out (by omega))); (have HBd4 := Lib.hid (HD4.out.keep HBd3.out (by omega))); (have HBx4 := Lib.hid (HD4.out.keep HBx3.out (by omega))); have u4a := hb_at HBr4.out 0 rfl; have u4b := hb_at HBd4.out 0 rfl; have u4c := hb_lt HBr4.out; have u4d := hb_lt HBd4.out; have u4e := hb_lt HBx4.out; obtain ⟨x40, x41, x42, x43, x44, y40, y41, y42, y43, y44⟩ := box5 HBx4.out; have hz4 : w3.heap.size ≤ w4.heap.size := hb.size; clear hb)
        | (go_at_call 67; (with_reducible refine (annotation_any r E g d hd _ _ (by first | exact HR4.out | exact HR4.out.alloc _ | exact (HR4.out.alloc _).alloc _ | exact ((HR4.out.alloc _).alloc _).alloc _ | exact HR4.out.upto (fun _ _ _ => rfl) | exact (HR4.out.alloc _).upto (fun _ _ _ => rfl))).mono ?_); rintro e w5 h5; rcases h5.step HS4.out with ⟨v5, a5, ts5, rfl, hV, hR, hg, hS, hx⟩ | ⟨y, rfl, hg, hSE⟩; rotate_left; (have hGE : Rg r w w5 := (by first | exact HG4.out.trans hg | exact (HG4.out.alloc _).trans hg | exact ((HG4.out.alloc _).alloc _).trans hg | exact (((HG4.out.alloc _).alloc _).alloc _).trans hg | exact HG4.out.drew.trans hg | exact (HG4.out.alloc _).drew.trans hg)); rotate_left; (obtain ⟨q5, c5, hv⟩ := hV.1.shape; subst hv; have HV5 := Lib.hid hV; have HL5 := Lib.hid hV.2); (have HR5 := Lib.hid hR; have HG5 : RowKit.Hid (Rg r w w5) := Lib.hid (by first | exact HG4.out.trans hg | exact (HG4.out.alloc _).trans hg | exact ((HG4.out.alloc _).alloc _).trans hg | exact (((HG4.out.alloc _).alloc _).alloc _).trans hg | exact HG4.out.drew.trans hg | exact (HG4.out.alloc _).drew.trans hg); have HS5 := Lib.hid hS; have HX5 := Lib.hid hx; have HD5 := Lib.hid hg; clear hR hg hS hx hV); (have HBr5 := Lib.hid (HD5.out.keep HBr4.out (by omega))); (have HBd5 := Lib.hid (HD5.out.keep HBd4.out (by omega))); (have HBx5 := Lib.hid (HD5.out.keep HBx4.out (by omega))); have u5a := hb_at HBr5.out 0 rfl; have u5b := hb_at HBd5.out 0 rfl; have u5c := hb_lt HBr5.out; have u5d := hb_lt HBd5.out; have u5e := hb_lt HBx5.out; obtain ⟨x50, x51, x52, x53, x54, y50, y51, y52, y53, y54⟩ := box5 HBx5.out)
        | (at_builtin; refine (fun h : True → _ => h trivial) ?_))
      all_goals first | exact ⟨rfl, hGE, rfl⟩ | exact ⟨rfl, hGE, by rw [hSE]⟩ | skip
      intro _
      obtain ⟨x, rfl⟩ : ∃ x, a5 = [x] := annP_one HBB.out HX5.out
      obtain ⟨b5, o5, c5', k5, p5, n5, N5, s5, D5, he, hb5, hbl5, ht5, hX5⟩ := HV5.out.one
      have hq5 : q5 = some ⟨b5, o5, none⟩ := by cases he; rfl
      subst hq5
      have hl3 := HV4.out.2
      have hz5 := HD5.out.size
      have hX5s := hX5.shape
      obtain ⟨v', w6, hrun, hrow, hgr, hblk⟩ := RowG.append (K := termK) (ms := [x]) (wq := w5) HV4.out.1 (by omega) hz5 (fun b h1 h2 => HD5.out.same h2 (by omega)) (g := b5) (o := o5) (cc := c5)
        (fun i y hy => by
          match i, hy with
          | 0, hy =>
            obtain rfl : x = y := by simpa using hy
            refine ⟨[.int .i64 k5, .string p5, .string n5, .int .i64 N5, s5], fun j u hu => ?_, _, _, _, _, _, D5, rfl, hX5⟩
            have e : o5 + 0 * termK.size + j = o5 + j := by omega
            rw [e]
            obtain ⟨t0, t1, t2, t3, t4⟩ := ht5
            match j, hu with
            | 0, hu => cases hu; exact t0
            | 1, hu => cases hu; exact t1
            | 2, hu => cases hu; exact t2
            | 3, hu => cases hu; exact t3
            | 4, hu => cases hu; exact t4
            | j + 5, hu => simp at hu
          | i + 1, hy => simp at hy) (by omega) (by simp)
      refine wpList_append_at rfl _ _ rfl rfl rfl rfl hrun ?_
      obtain ⟨vq, vc, hv⟩ := hrow.shape
      subst hv
      have HR6 : RowKit.Hid (Rd r E w6 ts5) := Lib.hid (HR5.out.grown hgr (fun k hk => by have := hblk k hk; omega))
      have HG6 : RowKit.Hid (Rg r w w6) := Lib.hid (HG5.out.grown hgr (fun k hk => by have := hblk k hk; omega))
      have HBr6 := Lib.hid (hb_grown HBr5.out hgr (fun e => by have := hblk _ e.symm; omega))
      have HBd6 := Lib.hid (hb_grown HBd5.out hgr (fun e => by have := hblk _ e.symm; omega))
      have HBx6 := Lib.hid (hb_grown HBx5.out hgr (fun e => by have := hblk _ e.symm; omega))
      have hz6 := hgr.size
      have HV6 : RowKit.Hid (TmV w2 w6 (tv 30 ⟨#[]⟩ ⟨#[]⟩ 0 (.slice vq (a3.length + 1) vc)) (.mk 30 e0 e0 0 (a3 ++ [x]))) := Lib.hid (by have h := kids_of (k := 30) (N := 0) (p := ⟨#[]⟩) (n := ⟨#[]⟩) (hrow.all fun _ _ _ => rfl) (by simp; omega) (by decide) (by decide); rw [List.length_append] at h; exact h)
      have HS6 : RowKit.Hid (S = shutP E 25 [.mk 30 e0 e0 0 (a3 ++ [x])] ts5) := HS5
      have hlen : (a3 ++ [x]).length = a3.length + 1 := by simp
      have hr0 := HBr6.out
      have c60 := hb_at HBr6.out 0 rfl
      have c61 := hb_lt HBr6.out
      have c62 := hb_lt HBd6.out
      have c63 := hb_lt HBx6.out
      clear hgr hrun hblk hrow he ht5 hX5 hX5s hr0
      have HLN := Lib.hid hlen
      clear hlen
      go_wp2_with ((go_at_call 78; (with_reducible refine (closed_t r E 25 [.mk 30 e0 e0 0 (a3 ++ [x])] _ w2 _ (by omega) (by rw [World.size_alloc]; omega) (LsV.single HV6.out (by omega)) _ (by first | exact HR6.out | exact HR6.out.alloc _ | exact (HR6.out.alloc _).alloc _ | exact ((HR6.out.alloc _).alloc _).alloc _ | exact HR6.out.upto (fun _ _ _ => rfl) | exact (HR6.out.alloc _).upto (fun _ _ _ => rfl))).mono ?_); rintro e w7 h7; rcases h7.step (HS6.out.trans (bnd_id _).symm) with ⟨v7, a7, ts7, rfl, hV, hR, hg, hS, hx⟩ | ⟨y, rfl, hg, hSE⟩; rotate_left; (have hGE : Rg r w w7 := (by first | exact HG6.out.trans hg | exact (HG6.out.alloc _).trans hg | exact ((HG6.out.alloc _).alloc _).trans hg | exact (((HG6.out.alloc _).alloc _).alloc _).trans hg | exact HG6.out.drew.trans hg | exact (HG6.out.alloc _).drew.trans hg)); rotate_left; (obtain ⟨k7, p7, n7, N7, q7, l7, c7, rfl⟩ := hV.shape; have HV7 := Lib.hid hV); (have HR7 := Lib.hid hR; have HG7 : RowKit.Hid (Rg r w w7) := Lib.hid (by first | exact HG6.out.trans hg | exact (HG6.out.alloc _).trans hg | exact ((HG6.out.alloc _).alloc _).trans hg | exact (((HG6.out.alloc _).alloc _).alloc _).trans hg | exact HG6.out.drew.trans hg | exact (HG6.out.alloc _).drew.trans hg); have HS7 := Lib.hid hS; have HX7 := Lib.hid hx; have HD7 := Lib.hid hg; clear hR hg hS hx hV); (have HBr7 := Lib.hid (HD7.out.keep (hb_alloc HBr6.out _) (by omega))); (have HBd7 := Lib.hid (HD7.out.keep (hb_alloc HBd6.out _) (by omega))); (have HBx7 := Lib.hid (HD7.out.keep (hb_alloc HBx6.out _) (by omega))); have u7a := hb_at HBr7.out 0 rfl; have u7b := hb_at HBd7.out 0 rfl; have u7c := hb_lt HBr7.out; have u7d := hb_lt HBd7.out; have u7e := hb_lt HBx7.out; obtain ⟨x70, x71, x72, x73, x74, y70, y71, y72, y73, y74⟩ := box5 HBx7.out))
      all_goals first | exact ⟨rfl, hGE, rfl⟩ | exact ⟨rfl, hGE, by rw [hSE]⟩ | skip
      have hzz := HG7.out.size
      exact fin5 (w0 := w) rfl rfl rfl HBx7.out (by omega) HG7.out hrl HR7.out HS7.out w2.heap.size (by omega) (by omega) HV7.out
  · have dl : ((a3.length : Int) == 1) = false := by rw [beq_eq_false_iff_ne]; omega
    rw [if_neg (fun h => hl1 h.1)] at hS
    have HS3 : RowKit.Hid (S = shutP E 25 a3 ts3) := Lib.hid hS
    clear hS hl1 HI0
    go_wp2_with (first
      | (go_at_call 78; (with_reducible refine (closed_t r E 25 _ _ w2 _ (by omega) (by omega) HV3b.out _ (by first | exact HR3.out | exact HR3.out.alloc _ | exact (HR3.out.alloc _).alloc _ | exact ((HR3.out.alloc _).alloc _).alloc _ | exact HR3.out.upto (fun _ _ _ => rfl) | exact (HR3.out.alloc _).upto (fun _ _ _ => rfl))).mono ?_); rintro e w4 h4; rcases h4.step (HS3.out.trans (bnd_id _).symm) with ⟨v4, a4, ts4, rfl, hV, hR, hg, hS, hx⟩ | ⟨y, rfl, hg, hSE⟩; rotate_left; (have hGE : Rg r w w4 := (by first | exact HG3.out.trans hg | exact (HG3.out.alloc _).trans hg | exact ((HG3.out.alloc _).alloc _).trans hg | exact (((HG3.out.alloc _).alloc _).alloc _).trans hg | exact HG3.out.drew.trans hg | exact (HG3.out.alloc _).drew.trans hg)); rotate_left; (obtain ⟨k4, p4, n4, N4, q4, l4, c4, rfl⟩ := hV.shape; have HV4 := Lib.hid hV); (have HR4 := Lib.hid hR; have HG4 : RowKit.Hid (Rg r w w4) := Lib.hid (by first | exact HG3.out.trans hg | exact (HG3.out.alloc _).trans hg | exact ((HG3.out.alloc _).alloc _).trans hg | exact (((HG3.out.alloc _).alloc _).alloc _).trans hg | exact HG3.out.drew.trans hg | exact (HG3.out.alloc _).drew.trans hg); have HS4 := Lib.hid hS; have HX4 := Lib.hid hx; have HD4 := Lib.hid hg; clear hR hg hS hx hV); (have HBr4 := Lib.hid (HD4.out.keep HBr3.out (by omega))); (have HBd4 := Lib.hid (HD4.out.keep HBd3.out (by omega))); (have HBx4 := Lib.hid (HD4.out.keep HBx3.out (by omega))); have u4a := hb_at HBr4.out 0 rfl; have u4b := hb_at HBd4.out 0 rfl; have u4c := hb_lt HBr4.out; have u4d := hb_lt HBd4.out; have u4e := hb_lt HBx4.out; obtain ⟨x40, x41, x42, x43, x44, y40, y41, y42, y43, y44⟩ := box5 HBx4.out))
    all_goals first | exact ⟨rfl, hGE, rfl⟩ | exact ⟨rfl, hGE, by rw [hSE]⟩ | skip
    have hzz := HG4.out.size
    exact fin5 (w0 := w) rfl rfl rfl HBx4.out (by omega) HG4.out hrl HR4.out HS4.out w2.heap.size (by omega) (by omega) HV4.out
end Go.Proofs.YtlbnaddgdgbckaaGreatDoor
