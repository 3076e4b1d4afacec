/- Texts in a row: Px Py. -/
import Derived.Test.YtlbnaddgdgbckaaGreatDoorZ29
/- Names in parentheses: parameters. -/
namespace Go.Proofs.YtlbnaddgdgbckaaGreatDoor
open Go.RowKit
set_option linter.unusedSimpArgs false
set_option linter.unusedVariables false
/-- A row of a reader's own. -/
def RoV {α : Type} (K : Mem α) (w w' : World) (v : Value) (l : List α) : Prop := RowG K w.heap.size w' v l ∧ l.length ≤ 7000
theorem RoV.up {α : Type} {K : Mem α} {w w1 w2 : World} {v : Value} {l : List α} (h : RoV K w1 w2 v l) (hs : w.heap.size ≤ w1.heap.size) : RoV K w w2 v l :=
  ⟨h.1.weak hs, h.2⟩
theorem RoV.sl {α : Type} {K : Mem α} {w w1 : World} {v : Value} {l : List α} (h : RoV K w w1 v l) : SlG K (New w) w1 v l := h.1.all fun _ _ _ => rfl
theorem RoV.move {α : Type} {K : Mem α} {r : Nat} {w w1 w2 : World} {v : Value} {l : List α} (h : RoV K w w1 v l) (hr : r < w.heap.size) (hg : Rg r w1 w2) : RoV K w w2 v l :=
  ⟨h.1.move fun b hb hl => hg.same hl (by omega), h.2⟩
theorem RoV.nil {α : Type} (K : Mem α) (w w1 : World) : RoV K w w1 (.slice none 0 0) [] := ⟨RowG.nil _ _ _, by simp⟩
/-- What a reader of one thing does, wherever it is called. -/
def OneG {α : Type} (V : World → World → Value → α → Prop) (r E : Nat) (one : Ts → Res α) (n : Nat) (cap : Array Value) (w : World) : Prop := ∀ W ts, Rg r w W → Rd r E W ts → Calls Tryz.prog n cap W (Got r E V W (one ts))
theorem OneG.at {α : Type} {V : World → World → Value → α → Prop} {r E : Nat} {one : Ts → Res α} {n : Nat} {cap : Array Value} {w w1 : World} (h : OneG V r E one n cap w) (hg : Rg r w w1) : OneG V r E one n cap w1 := fun W ts h1 h2 => h W ts (hg.trans h1) h2
/-- Names in a row. -/
def strK : Mem ByteArray where
  t := 63
  e := 9
  size := 1
  bytes := 16
  V _ _ cs s := cs = [.string s] ∧ s.size ≤ 4194304
  und := Tryz.underlying63
  inf := ⟨.string ⟨#[]⟩, by kernel_rfl, rfl⟩
  pos := by decide
  few := by decide
  len := by rintro X w cs a ⟨rfl, _⟩; rfl
  one := by
    rintro X w cs a ⟨rfl, _⟩ u hu
    obtain rfl := List.mem_singleton.1 hu
    rfl
  move := by rintro X Y w w' cs a hXY ⟨h1, h2⟩; exact ⟨h1, h2⟩
set_option maxRecDepth 100000 in
set_option maxHeartbeats 4000000 in
theorem several_s (r E : Nat) (bt : ByteArray) (one : Ts → Res (ByteArray)) (n : Nat) (cap : Array Value) (w : World) (ts : Ts) (hR : Rd r E w ts) (hm : Mono one)
    (hcf : ∀ W, (callFunc n cap).run Tryz.prog W = .ok (.enter n cap) W) (HC : OneG StV r E one n cap w) :
    Calls Tryz.prog 128 #[rp r, .string bt, .func (.func n) #[] cap] w (Got r E (RoV strK) w (sevP E bt one ts)) := by
  have HC : RowKit.Hid (∀ W ts, Rg r w W → Rd r E W ts → Calls Tryz.prog n cap W (Got r E StV W (one ts))) := Lib.hid HC
  have HR := Lib.hid hR
  have hrl := hR.lt
  have hfew := hR.few
  have HM := Lib.hid hm
  obtain ⟨S, hS⟩ : ∃ S, S = sevP E bt one ts := ⟨_, rfl⟩
  have HS := Lib.hid hS
  rw [← hS]
  unfold sevP at HS
  clear hR hS hm
  go_enter Tryz.func128, Tryz.ntmps128
  go_wp2_with (first | ((with_reducible refine (HC.out _ _ (Rg.refl _ _) HR.out).mono ?_); rintro e w1 h1; rcases h1.step HS.out with ⟨v, a, ts1, rfl, hV, hR1, hg1, hS1, hx1⟩ | ⟨y, rfl, hGE, hS1⟩; (obtain ⟨rfl, hst1⟩ := hV; have HR1 := Lib.hid hR1; have HG1 := Lib.hid hg1; have HS1 := Lib.hid hS1; have HX1 := Lib.hid hx1; clear hR1 hg1 hS1 hx1)))
  all_goals first | exact ⟨rfl, hGE, rfl⟩ | exact ⟨rfl, hGE, by rw [hS1]⟩ | skip
  go_loopw [7] (fun v wr => ∃ (ts' : Ts) (acc : List (ByteArray)), S = sevL E bt one ts' acc ∧ acc.length + ts'.length ≤ 6001 ∧ Rg r w wr ∧ Rd r E wr ts' ∧ RowG strK w.heap.size wr v acc) (fun _ wr => left r wr)
  case atStart =>
    have hlen : ts1.length ≤ ts.length := HM.out _ _ _ HX1.out
    exact ⟨ts1, [a], HS1.out, by simp; omega, HG1.out.alloc _, HR1.out.alloc _, RowG.one (K := strK) (cs := [.string a]) ⟨rfl, hst1⟩ HG1.out.size _ rfl⟩
  case round =>
    obtain ⟨ts', acc, hT, hbd, hg, hRd, hrow⟩ := hrel
    rw [sevL_step HM.out] at hT
    have hz := hg.size
    obtain ⟨aq, ac, rfl⟩ := hrow.shape
    have HT := Lib.hid hT
    have HGr := Lib.hid hg
    have HRr := Lib.hid hRd
    have HROW := Lib.hid hrow
    have HK := Lib.hid (fun W hW => skipSign_any r E bt ts' W hW)
    clear hT hg hRd hrow
    cases hB : isB 8 bt ts' with
    | false =>
      have HT2 := HT.out
      rw [hB, if_neg (by decide)] at HT2
      rw [hB] at HK
      subst HT2
      go_wp2_with (go_at_call 46; (with_reducible refine (HK.out _ HRr.out).mono ?_); rintro e w2 ⟨rfl, hg, hr⟩; have HG2 := Lib.hid (HGr.out.trans hg); have HGs := Lib.hid hg; have HR2 := Lib.hid hr; clear hg hr)
      refine bodyPost_ret (v := .slice aq acc.length ac) (by simp [results, Tryz.results128, go_sem]) rfl ⟨HG2.out, ⟨_, rfl, HROW.out.move fun b hb hl => HGs.out.same hl (by omega), by show acc.length ≤ 7000; omega⟩, HR2.out⟩
    | true =>
      have HT2 := HT.out
      rw [hB, if_pos rfl] at HT2
      rw [hB] at HK
      have HT3 := Lib.hid HT2
      have hpos := isB_pos (by decide) hB
      have hleft := HRr.out.left
      clear HT HT2 hB
      go_wp2_with (first
        | (go_at_call 46; (with_reducible refine (HK.out _ HRr.out).mono ?_); rintro e w2 ⟨rfl, hg, hr⟩; have HG2 := Lib.hid (HGr.out.trans hg); have HGs := Lib.hid hg; have HR2 : RowKit.Hid (Rd r E w2 ts'.tail) := Lib.hid hr; clear hg hr)
        | ((with_reducible refine (HC.out _ _ HG2.out HR2.out).mono ?_); rintro e w3 h3; rcases h3.step HT3.out with ⟨v, a3, ts3, rfl, hV, hR3, hg3, hS3, hx3⟩ | ⟨y, rfl, hGE, hS3⟩; (obtain ⟨rfl, hst3⟩ := hV; have HR3 := Lib.hid hR3; have HG3 := Lib.hid (HG2.out.trans hg3); have HGt := Lib.hid (HGs.out.trans hg3); have HS3 := Lib.hid hS3; have HX3 := Lib.hid hx3; clear hR3 hg3 hS3 hx3))
        | (at_builtin; refine (fun h : True → _ => h trivial) ?_))
      all_goals first | exact ⟨rfl, HG2.out.trans hGE, rfl⟩ | exact ⟨rfl, HG2.out.trans hGE, by rw [hS3]⟩ | skip
      intro _
      have hs3 := HGt.out.size
      obtain ⟨v', w', hrun, hrow', hgr, hblk⟩ := RowG.append (K := strK) (ms := [a3]) (wq := w3.alloc (.cells #[.string a3] 9)) HROW.out hz (by simp; omega)
        (fun b h1 h2 => by rw [Below.heap_alloc _ _ _ (by omega)]; exact HGt.out.same h2 (by omega)) (g := w3.heap.size) (o := 0) (cc := 1)
        (fun i x hx => by
          match i, hx with
          | 0, hx =>
            obtain rfl : a3 = x := by simpa using hx
            refine ⟨[.string a3], fun j u hu => ?_, rfl, hst3⟩
            have e : 0 + 0 * strK.size + j = j := by omega
            rw [e, hb_cell (hb_new _ _)]
            simpa using hu
          | i + 1, hx => simp at hx) (by omega) (by simp)
      refine wpList_append_at rfl _ _ rfl rfl rfl rfl hrun ?_
      have hlen : ts3.length ≤ ts'.tail.length := HM.out _ _ _ HX3.out
      have HRW := Lib.hid hrow'
      have hg4 : Rg r w w' := (HG3.out.alloc _).grown hgr hblk
      have hr4 : Rd r E w' ts3 := (HR3.out.alloc _).grown hgr (fun k hk => by have := hblk k hk; omega)
      have HG4 := Lib.hid hg4
      have HR4 := Lib.hid hr4
      have hl4 := hr4.left
      clear hgr hrow' hrun hblk hg4 hr4
      go_wp2
      refine ⟨⟨ts3, acc ++ [a3], HS3.out, by simp; omega, HG4.out, HR4.out, HRW.out⟩, ?_⟩
      omega
set_option maxRecDepth 100000 in
theorem held_s (r E : Nat) (one : Ts → Res ByteArray) (n : Nat) (cap : Array Value) (w : World) (ts : Ts) (hR : Rd r E w ts) (hm : Mono one) (hcf : ∀ W, (callFunc n cap).run Tryz.prog W = .ok (.enter n cap) W) (HC : OneG StV r E one n cap w) :
    Calls Tryz.prog 119 #[rp r, .func (.func n) #[] cap] w (Got r E (RoV strK) w (heldP E one ts)) := by
  have HC := Lib.hid HC
  have HR0 := Lib.hid hR
  have hrl := hR.lt
  have HG0 : RowKit.Hid (Rg r w w) := Lib.hid (Rg.refl r w)
  obtain ⟨S, hS⟩ : ∃ S, S = heldP E one ts := ⟨_, rfl⟩
  have HS0 := Lib.hid hS
  rw [← hS]
  unfold heldP at HS0
  clear hR hS
  have HK := Lib.hid (fun W hW => skipSign_any r E sOpen ts W hW)
  cases hB : isB 8 sOpen ts with
  | false =>
    have h := HS0.out
    rw [hB, if_neg (by decide)] at h
    rw [hB] at HK
    subst h
    clear HS0
    go_enter Tryz.func119, Tryz.ntmps119
    go_wp2_with (go_at_call 46; (with_reducible refine (HK.out _ (by first | exact HR0.out | exact HR0.out.alloc _ | exact (HR0.out.alloc _).alloc _ | exact ((HR0.out.alloc _).alloc _).alloc _ | exact HR0.out.upto (fun _ _ _ => rfl) | exact (HR0.out.alloc _).upto (fun _ _ _ => rfl))).mono ?_); rintro e w1 ⟨rfl, hg, hr⟩; have HG1 : RowKit.Hid (Rg r w w1) := Lib.hid (by first | exact HG0.out.trans hg | exact (HG0.out.alloc _).trans hg | exact ((HG0.out.alloc _).alloc _).trans hg | exact (((HG0.out.alloc _).alloc _).alloc _).trans hg | exact HG0.out.drew.trans hg | exact (HG0.out.alloc _).drew.trans hg); have HR1 : RowKit.Hid (Rd r E w1 ts) := Lib.hid hr; clear hg hr)
    go_ret
    exact ⟨HG1.out, ⟨_, rfl, RoV.nil _ _ _⟩, HR1.out⟩
  | true =>
    have h := HS0.out
    rw [hB, if_pos rfl] at h
    rw [hB] at HK
    have HS1 := Lib.hid h
    clear HS0 h hB
    go_enter Tryz.func119, Tryz.ntmps119
    go_wp2_with (first
      | (go_at_call 46; (with_reducible refine (HK.out _ (by first | exact HR0.out | exact HR0.out.alloc _ | exact (HR0.out.alloc _).alloc _ | exact ((HR0.out.alloc _).alloc _).alloc _ | exact HR0.out.upto (fun _ _ _ => rfl) | exact (HR0.out.alloc _).upto (fun _ _ _ => rfl))).mono ?_); rintro e w1 ⟨rfl, hg, hr⟩; have HG1 : RowKit.Hid (Rg r w w1) := Lib.hid (by first | exact HG0.out.trans hg | exact (HG0.out.alloc _).trans hg | exact ((HG0.out.alloc _).alloc _).trans hg | exact (((HG0.out.alloc _).alloc _).alloc _).trans hg | exact HG0.out.drew.trans hg | exact (HG0.out.alloc _).drew.trans hg); have HR1 : RowKit.Hid (Rd r E w1 ts.tail) := Lib.hid hr; clear hg hr)
      | (go_at_call 128; (with_reducible refine (several_s r E sComma one n cap _ _ (by first | exact HR1.out | exact HR1.out.alloc _ | exact (HR1.out.alloc _).alloc _ | exact ((HR1.out.alloc _).alloc _).alloc _ | exact HR1.out.upto (fun _ _ _ => rfl) | exact (HR1.out.alloc _).upto (fun _ _ _ => rfl)) hm hcf (HC.out.at HG1.out)).mono ?_); rintro e w2 h2; rcases h2.step HS1.out with ⟨v2, a2, ts2, rfl, hV, hR, hg, hS, hx⟩ | ⟨y, rfl, hg, hSE⟩; rotate_left; (have hGE : Rg r w w2 := (by first | exact HG1.out.trans hg | exact (HG1.out.alloc _).trans hg | exact ((HG1.out.alloc _).alloc _).trans hg | exact (((HG1.out.alloc _).alloc _).alloc _).trans hg | exact HG1.out.drew.trans hg | exact (HG1.out.alloc _).drew.trans hg)); rotate_left; (obtain ⟨q2, c2, hv⟩ := hV.1.shape; subst hv; have HV2 := Lib.hid hV; have HL2 := Lib.hid hV.2); (have HR2 := Lib.hid hR; have HG2 : RowKit.Hid (Rg r w w2) := Lib.hid (by first | exact HG1.out.trans hg | exact (HG1.out.alloc _).trans hg | exact ((HG1.out.alloc _).alloc _).trans hg | exact (((HG1.out.alloc _).alloc _).alloc _).trans hg | exact HG1.out.drew.trans hg | exact (HG1.out.alloc _).drew.trans hg); have HS2 := Lib.hid hS; have HX2 := Lib.hid hx; have HD2 := Lib.hid hg; clear hR hg hS hx hV))
      | (go_at_call 34; (with_reducible refine (sign_any r E sShut _ _ (by first | exact HR2.out | exact HR2.out.alloc _ | exact (HR2.out.alloc _).alloc _ | exact ((HR2.out.alloc _).alloc _).alloc _ | exact HR2.out.upto (fun _ _ _ => rfl) | exact (HR2.out.alloc _).upto (fun _ _ _ => rfl))).mono ?_); rintro e w3 h3; rcases h3.step HS2.out with ⟨v3, a3, ts3, rfl, hV, hR, hg, hS, hx⟩ | ⟨y, rfl, hg, hSE⟩; rotate_left; (have hGE : Rg r w w3 := (by first | exact HG2.out.trans hg | exact (HG2.out.alloc _).trans hg | exact ((HG2.out.alloc _).alloc _).trans hg | exact (((HG2.out.alloc _).alloc _).alloc _).trans hg | exact HG2.out.drew.trans hg | exact (HG2.out.alloc _).drew.trans hg)); rotate_left; (obtain rfl := hV); (have HR3 := Lib.hid hR; have HG3 : RowKit.Hid (Rg r w w3) := Lib.hid (by first | exact HG2.out.trans hg | exact (HG2.out.alloc _).trans hg | exact ((HG2.out.alloc _).alloc _).trans hg | exact (((HG2.out.alloc _).alloc _).alloc _).trans hg | exact HG2.out.drew.trans hg | exact (HG2.out.alloc _).drew.trans hg); have HS3 := Lib.hid hS; have HX3 := Lib.hid hx; have HD3 := Lib.hid hg; clear hR hg hS hx)))
    all_goals first | exact ⟨rfl, hGE, rfl⟩ | exact ⟨rfl, hGE, by rw [hSE]⟩ | skip
    go_ret
    have h := HS3.out
    exact ⟨HG3.out, by rw [h]; exact ⟨⟨_, rfl, (HV2.out.up HG1.out.size).move hrl HD3.out⟩, HR3.out⟩⟩
set_option maxRecDepth 100000 in
/-- A parameter. -/
theorem param1_any (r E : Nat) (br : Nat) (w0 : World) (hbr : w0.heap[br]? = some (.cells #[rp r] 56 (0, 0))) (hnr : br ≠ r) : OneG StV r E (takeP E 3) 120 #[bp br] w0 := by
  intro w ts hg hR
  have HBr0 := Lib.hid (hg.keep hbr hnr)
  have x0 := hb_at HBr0.out 0 rfl
  have z0 := hb_lt HBr0.out
  clear hg hbr
  have HR0 := Lib.hid hR
  have hrl := hR.lt
  have HG0 : RowKit.Hid (Rg r w w) := Lib.hid (Rg.refl r w)
  obtain ⟨S, hS⟩ : ∃ S, S = takeP E 3 ts := ⟨_, rfl⟩
  have HS0 : RowKit.Hid (S = bnd (takeP E 3 ts) fun a ts => .ok (a, ts)) := Lib.hid (hS.trans (bnd_id _).symm)
  rw [← hS]
  clear hR hS
  go_enter Tryz.func120, Tryz.ntmps120
  go_wp2_with (go_at_call 66; (with_reducible refine (take_st r E 3 _ (by decide) _ (by first | exact HR0.out | exact HR0.out.alloc _ | exact (HR0.out.alloc _).alloc _ | exact ((HR0.out.alloc _).alloc _).alloc _ | exact HR0.out.upto (fun _ _ _ => rfl) | exact (HR0.out.alloc _).upto (fun _ _ _ => rfl))).mono ?_); rintro e w1 h1; rcases h1.step HS0.out with ⟨v1, a1, ts1, rfl, hV, hR, hg, hS, hx⟩ | ⟨y, rfl, hg, hSE⟩; rotate_left; (have hGE : Rg r w w1 := (by first | exact HG0.out.trans hg | exact (HG0.out.alloc _).trans hg | exact ((HG0.out.alloc _).alloc _).trans hg | exact (((HG0.out.alloc _).alloc _).alloc _).trans hg | exact HG0.out.drew.trans hg | exact (HG0.out.alloc _).drew.trans hg)); rotate_left; (obtain ⟨rfl, hst1⟩ := hV); (have HR1 := Lib.hid hR; have HG1 : RowKit.Hid (Rg r w w1) := Lib.hid (by first | exact HG0.out.trans hg | exact (HG0.out.alloc _).trans hg | exact ((HG0.out.alloc _).alloc _).trans hg | exact (((HG0.out.alloc _).alloc _).alloc _).trans hg | exact HG0.out.drew.trans hg | exact (HG0.out.alloc _).drew.trans hg); have HS1 := Lib.hid hS; have HX1 := Lib.hid hx; have HD1 := Lib.hid hg; clear hR hg hS hx))
  all_goals first | exact ⟨rfl, hGE, rfl⟩ | exact ⟨rfl, hGE, by rw [hSE]⟩ | skip
  all_goals
    go_ret
    exact ⟨HG1.out, by rw [HS1.out]; exact ⟨⟨_, rfl, rfl, hst1⟩, HR1.out⟩⟩
def paramsP (E : Nat) (ts : Ts) : Res (List ByteArray) := heldP E (takeP E 3) ts
theorem takeP_mono (E : Nat) (k : Int) : Mono (takeP E k) := fun ts a ts' h => takeP_m (Nat.le_refl _) a ts' h
set_option maxRecDepth 100000 in
theorem params_any (r E : Nat) (ts : Ts) (w : World) (hR : Rd r E w ts) : Calls Tryz.prog 96 #[rp r] w (Got r E (RoV strK) w (paramsP E ts)) := by
  have HR0 := Lib.hid hR
  have hrl := hR.lt
  have HC := Lib.hid (held_s r E (takeP E 3) 120 #[bp w.heap.size] (w.alloc (.cells #[rp r] 56)) ts (hR.alloc _) (takeP_mono E 3) (fun _ => rfl) (param1_any r E w.heap.size _ (hb_new _ _) (by omega)))
  have hmf : ∀ (fn : Fn) (first cap : Array Value) (w : World), (Instr.makeFunc fn first cap).run Tryz.prog w = .ok (.func fn first cap) w := fun _ _ _ _ => rfl
  have x0 := hb_at (hb_new w (.cells #[rp r] 56)) 0 rfl
  obtain ⟨S, hS⟩ : ∃ S, S = heldP E (takeP E 3) ts := ⟨_, rfl⟩
  show Calls _ _ _ _ (Got r E (RoV strK) w (heldP E (takeP E 3) ts))
  rw [← hS] at HC ⊢
  clear hR hS
  cases S with
  | error y =>
    go_enter Tryz.func96, Tryz.ntmps96
    go_wp2_with (go_at_call 119; (with_reducible refine HC.out.mono ?_); rintro e w1 ⟨hg, hy⟩; subst hy; have HG := Lib.hid hg; clear hg)
    all_goals exact ⟨rfl, ((Rg.refl r w).alloc _).trans HG.out, rfl⟩
  | ok y =>
    go_enter Tryz.func96, Tryz.ntmps96
    go_wp2_with (go_at_call 119; (with_reducible refine HC.out.mono ?_); rintro e w1 ⟨hg, ⟨v, rfl, hV⟩, hr⟩; (obtain ⟨q2, c2, hv⟩ := hV.1.shape; subst hv; have HV := Lib.hid hV; have HR1 := Lib.hid hr; have HG := Lib.hid hg; clear hg hV hr))
    all_goals
      go_ret
      exact ⟨((Rg.refl r w).alloc _).trans HG.out, ⟨_, rfl, HV.out.up (by rw [World.size_alloc]; omega)⟩, HR1.out⟩
end Go.Proofs.YtlbnaddgdgbckaaGreatDoor
/- A constructor as it is written; some. -/
namespace Go.Proofs.YtlbnaddgdgbckaaGreatDoor
open Go.RowKit
set_option linter.unusedSimpArgs false
set_option linter.unusedVariables false
theorem boxes2 (w : World) (a b : Obj) : ((w.alloc a).alloc b).heap[w.heap.size]? = some a ∧ ((w.alloc a).alloc b).heap[w.heap.size + 1]? = some b ∧
    ((w.alloc a).alloc b).heap.size = w.heap.size + 2 ∧ Below w.heap.size w ((w.alloc a).alloc b) := by
  have h1 := hb_new (w.alloc a) b
  rw [World.size_alloc] at h1
  exact ⟨hb_alloc (hb_new w a) b, h1, by rw [World.size_alloc, World.size_alloc], (below_alloc w a).trans ((below_alloc _ b).mono (by rw [World.size_alloc]; omega))⟩
/-- Constructors in a row. -/
def conK : Mem (ByteArray × List Tm) where
  t := 64
  e := 69
  size := 2
  bytes := 40
  V X w cs a := ∃ s, cs = [.string a.1, s] ∧ a.1.size ≤ 4194304 ∧ SlG termK X w s a.2 ∧ a.2.length ≤ 7000
  und := Tryz.underlying64
  inf := ⟨.agg #[.string ⟨#[]⟩, .slice none 0 0], by kernel_rfl, rfl⟩
  pos := by decide
  few := by decide
  len := by rintro X w cs a ⟨s, rfl, _⟩; rfl
  one := by
    rintro X w cs a ⟨s, rfl, _, ⟨q, c, rfl, _⟩, _⟩ u hu
    rcases List.mem_cons.1 hu with rfl | hu
    · rfl
    · obtain rfl := List.mem_singleton.1 hu
      rfl
  move := by
    rintro X Y w w' cs a hXY ⟨s, e, h1, h2, h3⟩
    exact ⟨s, e, h1, h2.move hXY, h3⟩
def ConV (w w' : World) (v : Value) (a : ByteArray × List Tm) : Prop := ∃ s, v = .agg #[.string a.1, s] ∧ a.1.size ≤ 4194304 ∧ SlG termK (New w) w' s a.2 ∧ a.2.length ≤ 7000
theorem ConV.shape {w w' : World} {v : Value} {a : ByteArray × List Tm} (h : ConV w w' v a) : ∃ q l c, v = .agg #[.string a.1, .slice q l c] ∧ a.1.size ≤ 4194304 ∧ SlG termK (New w) w' (.slice q l c) a.2 ∧ a.2.length ≤ 7000 := by
  obtain ⟨s, rfl, h1, ⟨q, c, rfl, h2⟩, h3⟩ := h
  exact ⟨q, _, c, rfl, h1, ⟨q, c, rfl, h2⟩, h3⟩
set_option maxRecDepth 100000 in
set_option maxHeartbeats 4000000 in
theorem several_c (r E : Nat) (bt : ByteArray) (one : Ts → Res (ByteArray × List Tm)) (n : Nat) (cap : Array Value) (w : World) (ts : Ts) (hR : Rd r E w ts) (hm : Mono one)
    (hcf : ∀ W, (callFunc n cap).run Tryz.prog W = .ok (.enter n cap) W) (HC : OneG ConV r E one n cap w) :
    Calls Tryz.prog 97 #[rp r, .string bt, .func (.func n) #[] cap] w (Got r E (RoV conK) w (sevP E bt one ts)) := by
  have HC : RowKit.Hid (∀ W ts, Rg r w W → Rd r E W ts → Calls Tryz.prog n cap W (Got r E ConV W (one ts))) := Lib.hid HC
  have HR := Lib.hid hR
  have hrl := hR.lt
  have hfew := hR.few
  have HM := Lib.hid hm
  obtain ⟨S, hS⟩ : ∃ S, S = sevP E bt one ts := ⟨_, rfl⟩
  have HS := Lib.hid hS
  rw [← hS]
  unfold sevP at HS
  clear hR hS hm
  go_enter Tryz.func97, Tryz.ntmps97
  go_wp2_with (first | ((with_reducible refine (HC.out _ _ (Rg.refl _ _) HR.out).mono ?_); rintro e w1 h1; rcases h1.step HS.out with ⟨v, a, ts1, rfl, hV, hR1, hg1, hS1, hx1⟩ | ⟨y, rfl, hGE, hS1⟩; (obtain ⟨q1, l1, c1, rfl, hn1, hV1, hl1⟩ := hV.shape; have HV1 := Lib.hid hV1; clear hV1; have HR1 := Lib.hid hR1; have HG1 := Lib.hid hg1; have HS1 := Lib.hid hS1; have HX1 := Lib.hid hx1; clear hR1 hg1 hS1 hx1)))
  all_goals first | exact ⟨rfl, hGE, rfl⟩ | exact ⟨rfl, hGE, by rw [hS1]⟩ | skip
  go_loopw [7] (fun v wr => ∃ (ts' : Ts) (acc : List (ByteArray × List Tm)), S = sevL E bt one ts' acc ∧ acc.length + ts'.length ≤ 6001 ∧ Rg r w wr ∧ Rd r E wr ts' ∧ RowG conK w.heap.size wr v acc) (fun _ wr => left r wr)
  case atStart =>
    have hlen : ts1.length ≤ ts.length := HM.out _ _ _ HX1.out
    exact ⟨ts1, [a], HS1.out, by simp; omega, HG1.out.alloc _, HR1.out.alloc _, RowG.one (K := conK) (cs := [.string a.1, .slice q1 l1 c1]) ⟨_, rfl, hn1, HV1.out, hl1⟩ HG1.out.size _ rfl⟩
  case round =>
    obtain ⟨ts', acc, hT, hbd, hg, hRd, hrow⟩ := hrel
    rw [sevL_step HM.out] at hT
    have hz := hg.size
    obtain ⟨aq, ac, rfl⟩ := hrow.shape
    have HT := Lib.hid hT
    have HGr := Lib.hid hg
    have HRr := Lib.hid hRd
    have HROW := Lib.hid hrow
    have HK := Lib.hid (fun W hW => skipSign_any r E bt ts' W hW)
    clear hT hg hRd hrow
    cases hB : isB 8 bt ts' with
    | false =>
      have HT2 := HT.out
      rw [hB, if_neg (by decide)] at HT2
      rw [hB] at HK
      subst HT2
      go_wp2_with (go_at_call 46; (with_reducible refine (HK.out _ HRr.out).mono ?_); rintro e w2 ⟨rfl, hg, hr⟩; have HG2 := Lib.hid (HGr.out.trans hg); have HGs := Lib.hid hg; have HR2 := Lib.hid hr; clear hg hr)
      refine bodyPost_ret (v := .slice aq acc.length ac) (by simp [results, Tryz.results97, go_sem]) rfl ⟨HG2.out, ⟨_, rfl, HROW.out.move fun b hb hl => HGs.out.same hl (by omega), by show acc.length ≤ 7000; omega⟩, HR2.out⟩
    | true =>
      have HT2 := HT.out
      rw [hB, if_pos rfl] at HT2
      rw [hB] at HK
      have HT3 := Lib.hid HT2
      have hpos := isB_pos (by decide) hB
      have hleft := HRr.out.left
      clear HT HT2 hB
      go_wp2_with (first
        | (go_at_call 46; (with_reducible refine (HK.out _ HRr.out).mono ?_); rintro e w2 ⟨rfl, hg, hr⟩; have HG2 := Lib.hid (HGr.out.trans hg); have HGs := Lib.hid hg; have HR2 : RowKit.Hid (Rd r E w2 ts'.tail) := Lib.hid hr; clear hg hr)
        | ((with_reducible refine (HC.out _ _ HG2.out HR2.out).mono ?_); rintro e w3 h3; rcases h3.step HT3.out with ⟨v, a3, ts3, rfl, hV, hR3, hg3, hS3, hx3⟩ | ⟨y, rfl, hGE, hS3⟩; (obtain ⟨q3, l3, c3, rfl, hn3, hV3, hl3⟩ := hV.shape; have HV3 := Lib.hid hV3; clear hV3; have HR3 := Lib.hid hR3; have HG3 := Lib.hid (HG2.out.trans hg3); have HGt := Lib.hid (HGs.out.trans hg3); have HS3 := Lib.hid hS3; have HX3 := Lib.hid hx3; clear hR3 hg3 hS3 hx3))
        | (at_builtin; refine (fun h : True → _ => h trivial) ?_))
      all_goals first | exact ⟨rfl, HG2.out.trans hGE, rfl⟩ | exact ⟨rfl, HG2.out.trans hGE, by rw [hS3]⟩ | skip
      intro _
      have hs3 := HGt.out.size
      obtain ⟨v', w', hrun, hrow', hgr, hblk⟩ := RowG.append (K := conK) (ms := [a3]) (wq := w3.alloc (.cells #[.string a3.1, .slice q3 l3 c3] 69)) HROW.out hz (by simp; omega)
        (fun b h1 h2 => by rw [Below.heap_alloc _ _ _ (by omega)]; exact HGt.out.same h2 (by omega)) (g := w3.heap.size) (o := 0) (cc := 1)
        (fun i x hx => by
          match i, hx with
          | 0, hx =>
            obtain rfl : a3 = x := by simpa using hx
            refine ⟨[.string a3.1, .slice q3 l3 c3], fun j u hu => ?_, _, rfl, hn3, HV3.out.move fun b hb hl => ⟨by have := HGs.out.size; unfold New at hb; omega, Below.heap_alloc _ _ _ hl⟩, hl3⟩
            have e : 0 + 0 * conK.size + j = j := by omega
            rw [e, hb_cell (hb_new _ _)]
            simpa using hu
          | i + 1, hx => simp at hx) (by omega) (by simp)
      refine wpList_append_at rfl _ _ rfl rfl rfl rfl hrun ?_
      have hlen : ts3.length ≤ ts'.tail.length := HM.out _ _ _ HX3.out
      have HRW := Lib.hid hrow'
      have hg4 : Rg r w w' := (HG3.out.alloc _).grown hgr hblk
      have hr4 : Rd r E w' ts3 := (HR3.out.alloc _).grown hgr (fun k hk => by have := hblk k hk; omega)
      have HG4 := Lib.hid hg4
      have HR4 := Lib.hid hr4
      have hl4 := hr4.left
      clear hgr hrow' hrun hblk hg4 hr4
      go_wp2
      refine ⟨⟨ts3, acc ++ [a3], HS3.out, by simp; omega, HG4.out, HR4.out, HRW.out⟩, ?_⟩
      omega
set_option maxRecDepth 100000 in
theorem con1_any (r E : Nat) (br : Nat) (w0 : World) (hbr : w0.heap[br]? = some (.cells #[rp r] 56 (0, 0))) (h1 : br ≠ r) : OneT r E (typP E 40) 121 #[bp br] w0 := by
  intro w ts hg hR
  have kr := hg.keep hbr h1
  have x0 := hb_at kr 0 rfl
  have z0 := hb_lt kr
  have hrl := hR.lt
  have HR0 := Lib.hid hR
  have HG0 : RowKit.Hid (Rg r w w) := Lib.hid (Rg.refl r w)
  obtain ⟨S, hS⟩ : ∃ S, S = typP E 40 ts := ⟨_, rfl⟩
  have HS0 := Lib.hid hS
  rw [← hS]
  have HI : RowKit.Hid (∀ ts W, Rd r E W ts → Calls Tryz.prog 25 #[rp r, .int .i64 1] W (Got r E TmV W (typP E 40 ts))) := Lib.hid (fun ts W hW => typ_any r E 40 1 rfl ts W hW)
  clear hR hS hg hbr kr
  go_enter Tryz.func121, Tryz.ntmps121
  go_wp2_with (go_at_call 25; (with_reducible refine (HI.out _ _ (by first | exact HR0.out | exact HR0.out.alloc _ | exact (HR0.out.alloc _).alloc _ | exact ((HR0.out.alloc _).alloc _).alloc _ | exact HR0.out.upto (fun _ _ _ => rfl) | exact (HR0.out.alloc _).upto (fun _ _ _ => rfl))).mono ?_); rintro e w1 h1; rcases h1.step (HS0.out.trans (bnd_id _).symm) with ⟨v1, a1, ts1, rfl, hV, hR, hg, hS, hx⟩ | ⟨y, rfl, hg, hSE⟩; rotate_left; (have hGE : Rg r w w1 := (by first | exact HG0.out.trans hg | exact (HG0.out.alloc _).trans hg | exact ((HG0.out.alloc _).alloc _).trans hg | exact (((HG0.out.alloc _).alloc _).alloc _).trans hg | exact HG0.out.drew.trans hg | exact (HG0.out.alloc _).drew.trans hg)); rotate_left; (obtain ⟨k1, p1, n1, N1, q1, l1, c1, rfl⟩ := hV.shape; have HV1 := Lib.hid hV); (have HR1 := Lib.hid hR; have HG1 : RowKit.Hid (Rg r w w1) := Lib.hid (by first | exact HG0.out.trans hg | exact (HG0.out.alloc _).trans hg | exact ((HG0.out.alloc _).alloc _).trans hg | exact (((HG0.out.alloc _).alloc _).alloc _).trans hg | exact HG0.out.drew.trans hg | exact (HG0.out.alloc _).drew.trans hg); have HS1 := Lib.hid hS; have HX1 := Lib.hid hx; have HD1 := Lib.hid hg; clear hR hg hS hx hV); (have HBr1 := Lib.hid (HD1.out.keep (hb_new _ _) (by omega)); obtain ⟨x0, x1, x2, x3, x4, y0, y1, y2, y3, y4⟩ := box5 HBr1.out))
  all_goals first | exact ⟨rfl, hGE, rfl⟩ | exact ⟨rfl, hGE, by rw [hSE]⟩ | skip
  exact fin5 (w0 := w) rfl rfl rfl HBr1.out (Nat.le_refl _) HG1.out hrl HR1.out HS1.out (w.heap.size + 1) (by omega) (by omega) (by obtain ⟨d, h⟩ := HV1.out; exact ⟨d, h.move fun b hb _ => ⟨by unfold New at hb; rw [World.size_alloc] at hb; exact hb, rfl⟩⟩)
def conIP (E : Nat) (ts : Ts) : Res (ByteArray × List Tm) := bnd (takeP E 2 ts) fun s ts => bnd (heldP E (typP E 40) ts) fun l ts => .ok ((s, l), ts)
theorem conIP_mono (E : Nat) : Mono (conIP E) := fun ts a ts' h => (MR.bnd (takeP_m (Nat.le_refl _)) fun s ts1 h1 => MR.bnd (heldP_m (typP_mono E 40) h1) fun l ts2 h2 => MR.ok h2) a ts' h
theorem res_con {tmps : Array Value} {g : Nat} (h : tmps[2]?.getD undef = bp g) {w : World} {c0 c1 : Value} {t : TypeId} {f : Nat × Nat} (hb : w.heap[g]? = some (.cells #[c0, c1] t f)) :
    (results Tryz.f98 tmps).run Tryz.prog w = .ok (.agg #[c0, c1]) w := by
  have x0 := hb_at hb 0 rfl
  have x1 := hb_at hb 1 rfl
  simp [results, Tryz.results98, h, go_sem, Tryz.isAgg69, x0, x1]
theorem set2_box {W : World} {g : Nat} {c0 c1 : Value} {T : TypeId} {f : Nat × Nat} (h : W.heap[g]? = some (.cells #[c0, c1] T f)) (d0 d1 : Value) : ((W.setCell ⟨g, 0, none⟩ d0).setCell ⟨g, 1, none⟩ d1).heap[g]? = some (.cells #[d0, d1] T f) :=
  hb_set_same (hb_set_same h 0 _) 1 _
theorem fin_con {a : Act} (hd : a.defers = []) {r E g nb : Nat} {w W : World} {ts : Ts} {n : ByteArray} {l : List Tm} {q : Option Addr} {k c : Nat} {S : Res (ByteArray × List Tm)} {c0 c1 : Value} {T : TypeId}
    (hp : a.tmps[2]?.getD undef = bp g) (HB : W.heap[g]? = some (.cells #[c0, c1] T (0, 0))) (hg : w.heap.size ≤ g) (hG : Rg r w W) (hr : r < w.heap.size) (hR : Rd r E W ts) (hS : S = .ok ((n, l), ts)) (hn : n.size ≤ 4194304)
    (hnb : g < nb) (h0 : w.heap.size ≤ nb) (hV : SlG termK (fun b => nb ≤ b) W (.slice q k c) l) (hl : l.length ≤ 7000) :
    bodyPost Tryz.prog Tryz.f98 (Got r E ConV w S) Exit.ret a ((W.setCell ⟨g, 0, none⟩ (.string n)).setCell ⟨g, 1, none⟩ (.slice q k c)) := by
  refine bodyPost_ret (v := .agg #[.string n, .slice q k c]) (res_con hp (set2_box HB _ _)) hd ⟨(hG.set_new hg 0 _).set_new hg 1 _, ?_⟩
  rw [hS]
  refine ⟨⟨_, rfl, _, rfl, hn, hV.move fun b hb _ => ⟨show w.heap.size ≤ b by omega, ?_⟩, hl⟩, (hR.set_new (by omega) 0 _).set_new (by omega) 1 _⟩
  rw [Below.heap_setCell _ _ _ _ (by show b ≠ g; omega), Below.heap_setCell _ _ _ _ (by show b ≠ g; omega)]
set_option maxRecDepth 100000 in
set_option maxHeartbeats 4000000 in
theorem con_any (r E : Nat) : ∀ w ts, Rd r E w ts → Calls Tryz.prog 98 #[rp r] w (Got r E ConV w (conIP E ts)) := by
  intro w ts hR
  have HR0 := Lib.hid hR
  have hrl := hR.lt
  have HG0 : RowKit.Hid (Rg r w w) := Lib.hid (Rg.refl r w)
  obtain ⟨S, hS⟩ : ∃ S, S = conIP E ts := ⟨_, rfl⟩
  have HS0 := Lib.hid hS
  rw [← hS]
  unfold conIP at HS0
  clear hR hS
  have hmf : ∀ (fn : Fn) (first cap : Array Value) (w : World), (Instr.makeFunc fn first cap).run Tryz.prog w = .ok (.func fn first cap) w := fun _ _ _ _ => rfl
  obtain ⟨c0, c1, hz2, hb2⟩ := boxes2 w (.cells #[rp r] 56) (.cells #[.string ⟨#[]⟩, .slice none 0 0] 69)
  go_enter Tryz.func98, Tryz.ntmps98
  go_upto_region 1 with (fail)
  generalize hW1 : (w.alloc (.cells #[rp r] 56)).alloc (.cells #[.string ⟨#[]⟩, .slice none 0 0] 69) = W1 at *
  have HBr1 := Lib.hid c0
  have HBx1 := Lib.hid c1
  have HR1 : RowKit.Hid (Rd r E W1 ts) := Lib.hid (HR0.out.below hb2)
  have HG1 : RowKit.Hid (Rg r w W1) := Lib.hid (Rg.of_below hb2)
  have HS1 := HS0
  have x0 := hb_at c0 0 rfl
  have q0 := hb_lt c0
  have q1 := hb_lt c1
  clear hW1 c0 c1 hb2
  go_region_with (first
      | (go_at_call 66; (with_reducible refine (take_st r E 2 _ (by decide) _ (by first | exact HR1.out | exact HR1.out.alloc _ | exact (HR1.out.alloc _).alloc _ | exact ((HR1.out.alloc _).alloc _).alloc _ | exact HR1.out.upto (fun _ _ _ => rfl) | exact (HR1.out.alloc _).upto (fun _ _ _ => rfl))).mono ?_); rintro e w2 h2; rcases h2.step HS1.out with ⟨v2, a2, ts2, rfl, hV, hR, hg, hS, hx⟩ | ⟨y, rfl, hg, hSE⟩; rotate_left; (have hGE : Rg r w w2 := (by first | exact HG1.out.trans hg | exact (HG1.out.alloc _).trans hg | exact ((HG1.out.alloc _).alloc _).trans hg | exact (((HG1.out.alloc _).alloc _).alloc _).trans hg | exact HG1.out.drew.trans hg | exact (HG1.out.alloc _).drew.trans hg); subst hSE; exact ⟨rfl, hGE, rfl⟩); (obtain ⟨rfl, hst2⟩ := hV); (have HR2 := Lib.hid hR; have HG2 : RowKit.Hid (Rg r w w2) := Lib.hid (by first | exact HG1.out.trans hg | exact (HG1.out.alloc _).trans hg | exact ((HG1.out.alloc _).alloc _).trans hg | exact (((HG1.out.alloc _).alloc _).alloc _).trans hg | exact HG1.out.drew.trans hg | exact (HG1.out.alloc _).drew.trans hg); have HS2 := Lib.hid hS; have HX2 := Lib.hid hx; have HD2 := Lib.hid hg; clear hR hg hS hx); (have HBr2 := Lib.hid (HD2.out.keep HBr1.out (by omega))); (have HBx2 := Lib.hid (HD2.out.keep HBx1.out (by omega))); have y0 := hb_at HBr2.out 0 rfl; have y1 := hb_lt HBr2.out)
      | (go_at_call 79; (with_reducible refine (held_t r E (typP E 40) 121 #[bp w.heap.size] _ _ (by first | exact HR2.out | exact HR2.out.alloc _ | exact (HR2.out.alloc _).alloc _ | exact ((HR2.out.alloc _).alloc _).alloc _ | exact HR2.out.upto (fun _ _ _ => rfl) | exact (HR2.out.alloc _).upto (fun _ _ _ => rfl)) (typP_mono E 40) (fun _ => rfl) (con1_any r E w.heap.size _ HBr2.out (by omega))).mono ?_); rintro e w3 h3; rcases h3.step HS2.out with ⟨v3, a3, ts3, rfl, hV, hR, hg, hS, hx⟩ | ⟨y, rfl, hg, hSE⟩; rotate_left; (have hGE : Rg r w w3 := (by first | exact HG2.out.trans hg | exact (HG2.out.alloc _).trans hg | exact ((HG2.out.alloc _).alloc _).trans hg | exact (((HG2.out.alloc _).alloc _).alloc _).trans hg | exact HG2.out.drew.trans hg | exact (HG2.out.alloc _).drew.trans hg); subst hSE; exact ⟨rfl, hGE, rfl⟩); (obtain ⟨q3, c3, hv⟩ := hV.1.shape; subst hv; have HV3 := Lib.hid hV; have HL3 := Lib.hid hV.2); (have HR3 := Lib.hid hR; have HG3 : RowKit.Hid (Rg r w w3) := Lib.hid (by first | exact HG2.out.trans hg | exact (HG2.out.alloc _).trans hg | exact ((HG2.out.alloc _).alloc _).trans hg | exact (((HG2.out.alloc _).alloc _).alloc _).trans hg | exact HG2.out.drew.trans hg | exact (HG2.out.alloc _).drew.trans hg); have HS3 := Lib.hid hS; have HX3 := Lib.hid hx; have HD3 := Lib.hid hg; clear hR hg hS hx hV); (have HBx3 := Lib.hid (HD3.out.keep HBx2.out (by omega))); obtain ⟨s0, s1, s2, s3⟩ := box2 HBx3.out; have s4 := hb_lt HBx3.out))
  all_goals
    go_wp2
    exact fin_con rfl rfl HBx3.out (by omega) HG3.out hrl HR3.out HS3.out hst2 (nb := w2.heap.size) (by have := hb_lt HBx2.out; omega) HG2.out.size HV3.out.sl HL3.out
end Go.Proofs.YtlbnaddgdgbckaaGreatDoor
