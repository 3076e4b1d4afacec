/- VfsSynced: the walk. -/
import Derived.Test.YtmfphnhdahaooaaMsynD
set_option linter.unusedSimpArgs false
set_option linter.unusedVariables false
namespace Go.Proofs.Ytmfphnhdahaooaa
open Go.RowKit Go.Maps
set_option linter.unusedSimpArgs false
set_option linter.unusedVariables false
set_option maxRecDepth 100000 in
set_option maxHeartbeats 4000000 in
theorem synced_walk {w : World} {ao so fo : Option Addr} {l since : List Ac} {fl : List Sv} {c sc fc : Nat} (n : Int) (name : ByteArray) (h : RowAc w ao l) (hl : l.length ≤ maxLen) (hname : name.size ≤ maxLen) (hs : RowAc w so since) (hsl : since.length ≤ maxLen) (hf : RowF w fo fl) (hfl : fl.length ≤ maxLen) :
    Calls Try.prog 4 #[.int .i64 n, .slice ao l.length c, .string name, .slice so since.length sc, .slice fo fl.length fc] w fun e w' => e = .returned (.bool true) ∧ Below w.heap.size w w' := by
  have HP := Lib.hid (fun m => play_v (c := c) m h hl)
  have HNA := Lib.hid hname
  have HSI := Lib.hid hs
  have HSL := Lib.hid hsl
  have HFI := Lib.hid hf
  have HFL := Lib.hid hfl
  clear h hl hname hs hsl hf hfl
  go_enter Try.func4, Try.ntmps4
  go_upto_region 2 with (first
    | ((go_at_call 16; with_reducible refine (HP.out n).mono ?_); rintro e w2 ⟨v, rfl, hv, hb2⟩)
    | go_in)
  have HB2 := Lib.hid hb2
  have HSI2 := Lib.hid (HSI.out.below hb2)
  have HFI2 := Lib.hid (HFI.out.below hb2)
  clear hb2 HP
  rcases hv with rfl | ⟨F, A, rfl, hps⟩
  · go_wp2_with (first
      | ((go_at_call 12; with_reducible refine (alive_ok _).mono ?_); rintro e w3 ⟨rfl, hb3⟩)
      | go_in)
    go_ret
    exact ⟨rfl, HB2.out.trans (hb3.mono HB2.out.size)⟩
  have HS2 := Lib.hid hps.1
  have HG := Lib.hid hps.2
  clear hps
  go_cut [46] (fun v wx => ∃ b : Bool, v = .bool b ∧ (b = false → FewOk since ∧ since.length ≤ 20 ∧ fl.length ≤ 20) ∧ Below w2.heap.size w2 wx)
  case first =>
    have hone : ∀ W, Below w2.heap.size w2 W → Calls Try.prog 13 #[.slice (some ⟨W.heap.size, 0, none⟩) 1 1] (W.alloc (.cells #[.int .i64 0, .string ⟨#[]⟩, .string ⟨#[]⟩, .int .i64 0, .int .i64 0, .int .u8 0, .slice none 0 0, .slice fo fl.length fc] 39)) fun e w' => FewP [_] e ∧ Below (W.alloc (.cells #[.int .i64 0, .string ⟨#[]⟩, .string ⟨#[]⟩, .int .i64 0, .int .i64 0, .int .u8 0, .slice none 0 0, .slice fo fl.length fc] 39)).heap.size (W.alloc (.cells #[.int .i64 0, .string ⟨#[]⟩, .string ⟨#[]⟩, .int .i64 0, .int .i64 0, .int .u8 0, .slice none 0 0, .slice fo fl.length fc] 39)) w' := fun W hW => few_one (acFiles (fc := fc) (HFI2.out.below hW) HFL.out)
    have HONE := Lib.hid hone
    clear hone
    go_wp2_with (first
      | ((go_at_call 13; with_reducible refine (few_any HSI2.out HSL.out).mono ?_); rintro e w3 ⟨⟨b, rfl, hfb⟩, hb3⟩)
      | ((go_at_call 13; refine (HONE.out _ hb3).mono ?_); rintro e w4 ⟨⟨b4, rfl, hfb4⟩, hb4⟩)
      | go_in)
    all_goals go_meet
    all_goals first
      | exact ⟨true, rfl, fun h => (by cases h), hb3⟩
      | exact ⟨_, rfl, fun h => ⟨hfb (by first | rfl | assumption), by simp at h; omega, by simp at h; omega⟩, hb3.trans (((below_alloc w3 _).trans (hb4.mono (by simp))).mono hb3.size)⟩
  case rest =>
  obtain ⟨b, rfl, hfw, hb3⟩ := hcut
  cases b with
  | true =>
    go_wp2_with (first
      | ((go_at_call 12; with_reducible refine (alive_ok _).mono ?_); rintro e w3 ⟨rfl, hb4⟩)
      | go_in)
    go_ret
    exact ⟨rfl, (HB2.out.trans (hb3.mono HB2.out.size)).trans (hb4.mono (HB2.out.trans (hb3.mono HB2.out.size)).size)⟩
  | false =>
    obtain ⟨hfo, hs20, hf20⟩ := hfw rfl
    have HFO := Lib.hid hfo
    have HBC := Lib.hid (HB2.out.trans (hb3.mono HB2.out.size))
    have HSC := Lib.hid (HS2.out.below hb3)
    clear hfw hfo hb3 HS2 HSI2 HFI2 HB2
    go_upto_region 4 with fail
    go_cut [58] (fun v wx => ∃ b : Bool, v = .bool b ∧ (b = false → ∃ A2 X xs, Sto wx w.heap.size F A2 202 ∧ Held name X xs A2 ∧ A2.off = false ∧ rdL A2 name = xs) ∧ Below w.heap.size wc wx)
    case first =>
      go_wp2_with (first
        | ((go_at_call 17; with_reducible refine (HSC.out.fsync name HNA.out).mono ?_); rintro e w3 ⟨c1, A1, rfl, hS1, hd1, hf1⟩)
        | ((go_at_call 11; with_reducible refine (no_any _ _).mono ?_); rintro e w9 ⟨rfl, rfl⟩)
        | ((go_at_call 18; with_reducible refine (hS1.sync (by omega)).mono ?_); rintro e w4 ⟨c2, A2, rfl, hS2, hd2, hf2⟩)
        | go_in)
      all_goals go_meet
      · refine ⟨_, rfl, fun h => ?_, hf1.toBelow.trans hf2.toBelow⟩
        have h2 : c2 = 0 := by simpa using h
        rcases hd1 with ⟨hc, _⟩ | ⟨hc, hcode, hR⟩
        · exfalso
          exact hc (by assumption)
        rcases hd2 with ⟨hc2, _⟩ | ⟨hc2, hcode2, hR2⟩
        · exact absurd h2 hc2
        obtain ⟨X, xs, h3, h4, h5⟩ := held_of HSC.out hS1 HG.out hcode hR hcode2 hR2
        exact ⟨A2, X, xs, hS2, h3, h4, h5⟩
      · exact ⟨true, rfl, fun h => (by cases h), hf1.toBelow⟩
    case rest =>
    obtain ⟨b, rfl, hh, hb4⟩ := hcut
    have HB4 := Lib.hid (HBC.out.trans hb4)
    cases b with
    | true =>
      go_wp2_with (first
        | ((go_at_call 12; with_reducible refine (alive_ok _).mono ?_); rintro e w3 ⟨rfl, hb5⟩)
        | go_in)
      go_ret
      exact ⟨rfl, HB4.out.trans (hb5.mono HB4.out.size)⟩
    | false =>
      obtain ⟨A2, X, xs, hS, hH, hoff, hrd⟩ := hh rfl
      have HS := Lib.hid hS
      have HH := Lib.hid hH
      have HOFF := Lib.hid hoff
      have HRD := Lib.hid hrd
      clear hh hS hH hoff hrd hb4 HBC HSC
      go_upto_region 8 with (first
        | ((go_at_call 19; with_reducible refine (HS.out.read name HNA.out).mono ?_); rintro e w5 ⟨v, k5, rfl, h5⟩
           have ek5 := h5.ok HOFF.out (by rw [HH.out.dir]; rfl)
           subst ek5
           have hr5 := h5.row
           have ho5 := h5.one
           rw [HRD.out] at hr5 ho5
           obtain ⟨wo, wc5, rfl, _⟩ := own_sl hr5.own
           have HS5 := Lib.hid (HS.out.below hr5.below)
           have HB5 := Lib.hid (HB4.out.trans (hr5.below.mono HB4.out.size))
           have HON := Lib.hid ho5
           have HWA : RowKit.Hid (WasI w5 A2 (.slice wo xs.length wc5) xs) := Lib.hid ⟨own_base hr5.own (Nat.zero_le _), fun g hg => HS.out.apart (hr5.own.lt g hg).1⟩
           clear h5 hr5 ho5)
        | go_in)
      go_loopw [68] (fun i wr => ∃ (q : Nat) (A' : Fs), i = .int .i64 q ∧ q ≤ since.length ∧ RowKit.Hid (Sto wr w.heap.size F A' (202 + 2 * q)) ∧ RowKit.Hid (Held name X xs A') ∧ RowKit.Hid (WasI wr A' (.slice wo xs.length wc5) xs) ∧ RowKit.Hid (Below w.heap.size w wr)) (fun i _ => since.length - (intOf i).toNat)
      case atStart => exact ⟨0, A2, rfl, Nat.zero_le _, HS5, HH, HWA, HB5⟩
      case round =>
        clear HS5 HH HWA HB5
        obtain ⟨q, A', rfl, hq, HSR, HHR, HWR, HBR⟩ := hrel
        by_cases hlt : q < since.length
        · obtain ⟨a, ha⟩ : ∃ a, since[q]? = some a := ⟨_, List.getElem?_eq_getElem hlt⟩
          have hra := HSI.out.below HBR.out
          have HAO := Lib.hid (acOk_of hra HFO.out ha)
          obtain ⟨_, _, _, _, _, _, _, b, off, rfl, c0, c1, c2, c3, c4, c5, c6, c7⟩ := hra q a ha
          clear hra ha
          by_cases hk2 : a.kind ≤ 2
          · by_cases hnm : a.name = name
            · subst hnm
              have hnb : (a.name.toList == a.name.toList) = true := by simp
              have HN1 := Lib.hid ((HSR.out.below (below_alloc wr (.cells #[.int .i64 a.kind, .string a.name, .string a.dst, .int .i64 a.at_, .int .i64 a.n, .int .u8 a.by_, .slice a.tao a.zs.length a.tc, .slice a.fo a.fl.length a.fc] 39))).up (show 202 + 2 * q ≤ 202 + 2 * (q + 1) by omega))
              have HN3 := Lib.hid (HWR.out.on (K5.below (A := A') (below_alloc wr (.cells #[.int .i64 a.kind, .string a.name, .string a.dst, .int .i64 a.at_, .int .i64 a.n, .int .u8 a.by_, .slice a.tao a.zs.length a.tc, .slice a.fo a.fl.length a.fc] 39))))
              have HN4 := Lib.hid (HBR.out.alloc HBR.out.size (.cells #[.int .i64 a.kind, .string a.name, .string a.dst, .int .i64 a.at_, .int .i64 a.n, .int .u8 a.by_, .slice a.tao a.zs.length a.tc, .slice a.fo a.fl.length a.fc] 39))
              go_wp2
              exact ⟨⟨q + 1, A', by go_num, by omega, HN1, HHR, HN3, HN4⟩, by simp [intOf]; omega⟩
            · have hnb := str_ne hnm
              have hsr := HSR.out.below (below_alloc wr (.cells #[.int .i64 a.kind, .string a.name, .string a.dst, .int .i64 a.at_, .int .i64 a.n, .int .u8 a.by_, .slice a.tao a.zs.length a.tc, .slice a.fo a.fl.length a.fc] 39))
              have hps := pair_start (n := n) hsr
              have hao := AcOk.over HAO.out ((below_alloc wr (.cells #[.int .i64 a.kind, .string a.name, .string a.dst, .int .i64 a.at_, .int .i64 a.n, .int .u8 a.by_, .slice a.tao a.zs.length a.tc, .slice a.fo a.fl.length a.fc] 39)).trans ((pair_below n F (wr.alloc (.cells #[.int .i64 a.kind, .string a.name, .string a.dst, .int .i64 a.at_, .int .i64 a.n, .int .u8 a.by_, .slice a.tao a.zs.length a.tc, .slice a.fo a.fl.length a.fc] 39))).mono (by simp)))
              have hdo := both_few hps (by omega) hao hk2
              have hwas := (HWR.out.on (K5.below (A := A') (below_alloc wr (.cells #[.int .i64 a.kind, .string a.name, .string a.dst, .int .i64 a.at_, .int .i64 a.n, .int .u8 a.by_, .slice a.tao a.zs.length a.tc, .slice a.fo a.fl.length a.fc] 39)))).on (K5.below (A := A') (pair_below n F (wr.alloc (.cells #[.int .i64 a.kind, .string a.name, .string a.dst, .int .i64 a.at_, .int .i64 a.n, .int .u8 a.by_, .slice a.tao a.zs.length a.tc, .slice a.fo a.fl.length a.fc] 39))))
              have hbw := (HBR.out.alloc HBR.out.size (.cells #[.int .i64 a.kind, .string a.name, .string a.dst, .int .i64 a.at_, .int .i64 a.n, .int .u8 a.by_, .slice a.tao a.zs.length a.tc, .slice a.fo a.fl.length a.fc] 39)).trans ((pair_below n F (wr.alloc (.cells #[.int .i64 a.kind, .string a.name, .string a.dst, .int .i64 a.at_, .int .i64 a.n, .int .u8 a.by_, .slice a.tao a.zs.length a.tc, .slice a.fo a.fl.length a.fc] 39))).mono (by have := HBR.out.size; simp; omega))
              have HPS := Lib.hid hps.sto
              simp only [World.size_alloc] at hdo hwas hbw
              have HDO := Lib.hid hdo
              have HWS := Lib.hid hwas
              have HBW := Lib.hid hbw
              have HNM := Lib.hid hnm
              have HK2 := Lib.hid hk2
              clear hsr hps hao hdo hwas hbw hnm
              go_upto_region 13 with (first
                | ((go_at_call 14; with_reducible refine (HDO.out).mono ?_); rintro e w6 ⟨⟨bb, rfl⟩, ⟨r6, A6, hp6, hd6, hk6⟩, hb6⟩)
                | go_in)
              have HN1 := Lib.hid hp6.sto
              have HN2 := Lib.hid (HHR.out.did hd6 HPS.out HK2.out HNM.out)
              have HN3 := Lib.hid (HWS.out.on hk6)
              have HN4 := Lib.hid (HBW.out.trans hb6)
              clear hp6 hd6 hk6 hb6 c0 c1 c2 c3 c4 c5 c6 c7
              go_wp2
              exact ⟨⟨q + 1, A6, by go_num, by omega, HN1, HN2, HN3, HN4⟩, by simp [intOf]; omega⟩
          · have HN1 := Lib.hid ((HSR.out.below (below_alloc wr (.cells #[.int .i64 a.kind, .string a.name, .string a.dst, .int .i64 a.at_, .int .i64 a.n, .int .u8 a.by_, .slice a.tao a.zs.length a.tc, .slice a.fo a.fl.length a.fc] 39))).up (show 202 + 2 * q ≤ 202 + 2 * (q + 1) by omega))
            have HN3 := Lib.hid (HWR.out.on (K5.below (A := A') (below_alloc wr (.cells #[.int .i64 a.kind, .string a.name, .string a.dst, .int .i64 a.at_, .int .i64 a.n, .int .u8 a.by_, .slice a.tao a.zs.length a.tc, .slice a.fo a.fl.length a.fc] 39))))
            have HN4 := Lib.hid (HBR.out.alloc HBR.out.size (.cells #[.int .i64 a.kind, .string a.name, .string a.dst, .int .i64 a.at_, .int .i64 a.n, .int .u8 a.by_, .slice a.tao a.zs.length a.tc, .slice a.fo a.fl.length a.fc] 39))
            go_wp2
            exact ⟨⟨q + 1, A', by go_num, by omega, HN1, HHR, HN3, HN4⟩, by simp [intOf]; omega⟩
        · obtain rfl : q = since.length := by omega
          have hcr : Calls Try.prog 20 #[.pointer (some ⟨F, 0, none⟩), .slice none 0 0, .slice fo fl.length fc] wr _ := HSR.out.crash2 (by omega) (ao := none) (zs := []) 0 fc (fun i z hz => by simp at hz) (by simp) (show RowS wr fo fl from HFI.out.below HBR.out) (by omega)
          have HCR := Lib.hid hcr
          clear hcr
          go_upto_region 18 with (first
            | ((go_at_call 20; with_reducible refine (HCR.out).mono ?_); rintro e w6 ⟨F2, A3, j, rfl, hS6, hC6, hl6, hb6⟩
               obtain ⟨hr3, ho3, hs3⟩ := HHR.out.crash hC6 (dirTo_none (fun i => by simp) _ _)
               have HR3 := Lib.hid hr3
               have HO3 := Lib.hid ho3
               have HS3 := Lib.hid hs3
               have HS6 := Lib.hid hS6
               have HB6 := Lib.hid (HBR.out.trans (hb6.mono HBR.out.size))
               have HW6 := Lib.hid (HWR.out.on (K5.below (A := A') hb6))
               clear hr3 ho3 hs3 hS6 hC6 hl6 hb6)
            | ((go_at_call 19; with_reducible refine (HS6.out.read name HNA.out).mono ?_); rintro e w7 ⟨v7, k7, rfl, h7⟩
               have ek7 := h7.ok HO3.out HS3.out
               subst ek7
               have hr7 := h7.row
               have ho7 := h7.one
               rw [HR3.out] at hr7 ho7
               obtain ⟨vo7, vc7, rfl, _⟩ := own_sl hr7.own
               have HB7 := Lib.hid (HB6.out.trans (hr7.below.mono HB6.out.size))
               have HW7 := Lib.hid (HW6.out.on (K5.below (A := A') hr7.below))
               have HQ7 := Lib.hid hr7
               clear h7 hr7 ho7)
            | go_in)
          have hcv1 := text_row HW7.out.own HON.out
          have hcv2 := text_row HQ7.out.own HON.out
          go_wp2_with (first
            | ((go_at_call 11; with_reducible refine (no_any _ _).mono ?_); rintro e w9 ⟨rfl, rfl⟩)
            | ((go_at_call 12; with_reducible refine (alive_ok _).mono ?_); rintro e w8 ⟨rfl, hb8⟩)
            | go_in)
          go_ret
          exact ⟨rfl, HB7.out.trans (hb8.mono HB7.out.size)⟩
end Go.Proofs.Ytmfphnhdahaooaa
