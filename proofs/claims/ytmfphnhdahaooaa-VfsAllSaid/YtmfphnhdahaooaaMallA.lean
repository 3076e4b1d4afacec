/- VfsAll: the walk. -/
import Derived.Test.YtmfphnhdahaooaaM36
set_option linter.unusedSimpArgs false
set_option linter.unusedVariables false
namespace Go.Proofs.Ytmfphnhdahaooaa
open Go.RowKit Go.Maps
set_option linter.unusedSimpArgs false
set_option linter.unusedVariables false
/-- The first numbers. -/
def rg (q : Nat) : List Int := (List.range q).map (fun k : Nat => (k : Int))
theorem rg_len (q : Nat) : (rg q).length = q := by simp [rg]
theorem rg_succ (q : Nat) : rg (q + 1) = rg q ++ [(q : Int)] := by simp [rg, List.range_succ]
theorem rg_mem {q : Nat} {z : Int} : z ∈ rg q ↔ ∃ k : Nat, k < q ∧ (k : Int) = z := by simp [rg]
theorem rg_wf {q : Nat} (h : q ≤ 100000) : ∀ z ∈ rg q, (Lit.int .i64 z).wf = true := by
  intro z hz
  obtain ⟨k, hk, rfl⟩ := rg_mem.1 hz
  exact wf_nat k (by omega)
/-- Each file's name, with all of its sectors. -/
def FlOk (A : Fs) (nl : List ByteArray) (fl : List Sv) : Prop := ∀ (i : Nat) (x : Sv), fl[i]? = some x → nl[i]? = some x.name ∧ x.long = true ∧ (∀ j : Nat, j < (rdL A x.name).length → ((j / 512 : Nat) : Int) ∈ x.zs) ∧ (∀ z ∈ x.zs, (Lit.int .i64 z).wf = true) ∧ x.zs.length ≤ 10000
theorem FlOk.snoc {A : Fs} {nl : List ByteArray} {fl : List Sv} {x : Sv} (h : FlOk A nl fl) (hn : nl[fl.length]? = some x.name) (h1 : x.long = true) (h2 : ∀ j : Nat, j < (rdL A x.name).length → ((j / 512 : Nat) : Int) ∈ x.zs) (h3 : ∀ z ∈ x.zs, (Lit.int .i64 z).wf = true) (h4 : x.zs.length ≤ 10000) : FlOk A nl (fl ++ [x]) := by
  intro i y hy
  rcases Nat.lt_or_ge i fl.length with hi | hi
  · rw [List.getElem?_append_left hi] at hy
    exact h i y hy
  · rw [List.getElem?_append_right hi] at hy
    have e : i = fl.length := by
      rcases Nat.eq_zero_or_pos (i - fl.length) with h0 | h0
      · omega
      · rw [List.getElem?_eq_none (by simp; omega)] at hy
        cases hy
    subst e
    rw [Nat.sub_self] at hy
    obtain rfl := Option.some.inj hy
    exact ⟨hn, h1, h2, h3, h4⟩
theorem Whole.again {A A2 : Fs} (h : Whole A A2) {s : ByteArray} {X : Nat} {f : Fil} (hd : A2.dir s = some X) (hX : A2.file X = some f) (hf : ∀ s X, A.dir s = some X → (A.file X).isSome = true) : f.xs = f.ls := by
  have h1 := h.dirs s
  rw [hd] at h1
  obtain ⟨Y, hY⟩ := Option.isSome_iff_exists.1 h1.symm
  obtain ⟨g, hg⟩ := Option.isSome_iff_exists.1 (hf s Y hY)
  obtain ⟨X2, f2, h2, h3, h4, h5⟩ := h.files s Y g hY hg
  rw [hd] at h2
  obtain rfl := Option.some.inj h2
  rw [hX] at h3
  obtain rfl := Option.some.inj h3
  rw [h4, h5]
theorem FlOk.told {A : Fs} {nl : List ByteArray} {fl : List Sv} (h : FlOk A nl fl) (hl : fl.length = nl.length) {s : ByteArray} (hs : s ∈ nl) : ∃ x, firstOf fl s = some x ∧ x.long = true ∧ ∀ j : Nat, j < (rdL A s).length → ((j / 512 : Nat) : Int) ∈ x.zs := by
  obtain ⟨i, hi⟩ := List.getElem?_of_mem hs
  have hil : i < fl.length := by rw [hl]; exact (List.getElem?_eq_some_iff.1 hi).1
  have hx0 : fl[i]? = some fl[i] := List.getElem?_eq_getElem hil
  have hn0 := (h i _ hx0).1
  rw [hi] at hn0
  have hn1 : fl[i].name = s := (Option.some.inj hn0).symm
  cases hf : firstOf fl s with
  | none =>
    unfold firstOf at hf
    rw [List.find?_eq_none] at hf
    have := hf fl[i] (List.getElem_mem hil)
    simp [hn1] at this
  | some x =>
    have hxm : x ∈ fl := List.mem_of_find?_eq_some hf
    have hxn : x.name = s := by have := List.find?_some hf; simpa using this
    obtain ⟨k, hk⟩ := List.getElem?_of_mem hxm
    obtain ⟨_, h1, h2, _, _⟩ := h k x hk
    exact ⟨x, rfl, h1, by rw [← hxn]; exact h2⟩
set_option maxRecDepth 100000 in
set_option maxHeartbeats 4000000 in
theorem all_walk {w : World} {ao : Option Addr} {l : List Ac} {c : Nat} (n : Int) (h : RowAc w ao l) (hl : l.length ≤ maxLen) :
    Calls Try.prog 5 #[.int .i64 n, .slice ao l.length c] w fun e w' => e = .returned (.bool true) ∧ Below w.heap.size w w' := by
  have HP := Lib.hid (fun m => play_v (c := c) m h hl)
  clear h hl
  go_enter Try.func5, Try.ntmps5
  go_upto_region 2 with (first
    | ((go_at_call 16; with_reducible refine (HP.out n).mono ?_); rintro e w2 ⟨v, rfl, hv, hb2⟩)
    | go_in)
  have HB2 := Lib.hid hb2
  clear hb2 HP
  rcases hv with rfl | ⟨F, A, rfl, hps⟩
  · go_wp2_with (first
      | ((go_at_call 12; with_reducible refine (alive_ok _).mono ?_); rintro e w3 ⟨rfl, hb3⟩)
      | go_in)
    go_ret
    exact ⟨rfl, HB2.out.trans (hb3.mono HB2.out.size)⟩
  have HS2 := Lib.hid hps.1
  have HG := Lib.hid hps.2
  clear hps
  cases hoff : A.off with
  | true =>
    go_wp2_with (first
      | ((go_at_call 21; with_reducible refine (HS2.out.offs).mono ?_); rintro e w5 ⟨rfl, rfl⟩)
      | ((go_at_call 12; with_reducible refine (alive_ok _).mono ?_); rintro e w3 ⟨rfl, hb3⟩)
      | go_in)
    go_ret
    exact ⟨rfl, HB2.out.trans (hb3.mono HB2.out.size)⟩
  | false =>
    have HOFF := Lib.hid hoff
    go_upto_region 6 with (first
      | ((go_at_call 21; with_reducible refine (HS2.out.offs).mono ?_); rintro e w5 ⟨rfl, rfl⟩; rw [HOFF.out])
      | go_in)
    clear hoff
    go_loopw [6, 35] (fun v i wr => ∃ q : Nat, i = .int .i64 q ∧ q ≤ 100 ∧ RowKit.Hid (IxRow wr w2.heap.size v (rg q)) ∧ RowKit.Hid (Below w2.heap.size w2 wr)) (fun _ i _ => 100 - (intOf i).toNat)
    case atStart => exact ⟨0, rfl, Nat.zero_le _, Lib.hid (World.ownsRow_nil _ _ _ _), Lib.hid (Below.refl _ _)⟩
    case round =>
      obtain ⟨q, rfl, hq, HW, HBR⟩ := hrel
      obtain ⟨vo, vcap, hvw, _⟩ := own_sl HW.out
      rw [rg_len] at hvw
      subst hvw
      by_cases hlt : q < 100
      · obtain ⟨v7, w7, hrun, hown7, hg7⟩ := append_ix (wr.alloc (.cells #[.int .i64 q] 3)) w2.heap.size _ _ q (HW.out.below (below_alloc wr _)) wr.heap.size 1 (hb_new wr _) (by rw [rg_len]; omega) (by have := HBR.out.size; simp; omega)
        have HBW : RowKit.Hid (Below w2.heap.size w2 w7) := Lib.hid ((HBR.out.alloc HBR.out.size _).grown hg7 (by have := HBR.out.size; simp; omega) (fun j hj => (World.ownsRow.lt HW.out j hj).1))
        have HOW : RowKit.Hid (IxRow w7 w2.heap.size v7 (rg (q + 1))) := Lib.hid (by rw [rg_succ]; exact hown7)
        clear hown7 hg7
        go_wp2_with (first
          | (at_builtin; refine wpList_append_at rfl _ _ rfl rfl rfl rfl hrun ?_)
          | go_in)
        exact ⟨⟨q + 1, by go_num, by omega, HOW, HBW⟩, by simp [intOf]; omega⟩
      · obtain rfl : q = 100 := by omega
        have HTU := HW
        have HBT := HBR
        clear HW HBR
        go_upto_region 12 with (first
          | ((go_at_call 22; with_reducible refine ((HS2.out.below HBT.out).names (by omega)).mono ?_); rintro e w3 ⟨nv, nl, rfl, hnm⟩
             have hb3 := hnm.lists.choose_spec.2.below
             have HB3 := Lib.hid (HBT.out.trans (hb3.mono HBT.out.size))
             have HTU3 := Lib.hid (HTU.out.below hb3)
             have HNM := Lib.hid hnm
             obtain ⟨nao, nc, rfl, hnc⟩ := own_sl hnm.row
             have HROW := Lib.hid hnm.row
             obtain ⟨nlen, hnlen⟩ : ∃ n, n = nl.length := ⟨_, rfl⟩
             have HNL := Lib.hid hnlen
             have hn1000 : nlen ≤ 1000 := by rw [hnlen]; exact hnm.few
             rw [← hnlen]
             clear hnm hnlen hnc hb3)
          | go_in)
        have HS3 := Lib.hid (HS2.out.below HB3.out)
        have HNP : RowKit.Hid (∀ s ∈ nl, NameP s) := Lib.hid fun s hs => HS3.out.nameP ((HNM.out.mem s).1 hs)
        clear HTU HBT
        go_loopw [8, 46] (fun v i wr => ∃ q : Nat, i = .int .i64 q ∧ q ≤ nlen ∧ RowKit.Hid (∃ fl, fl.length = q ∧ FlRow wr w3.heap.size v fl ∧ FlOk A nl fl) ∧ RowKit.Hid (Below w3.heap.size w3 wr)) (fun _ i _ => nlen - (intOf i).toNat)
        case atStart => exact ⟨0, rfl, Nat.zero_le _, Lib.hid ⟨[], rfl, ⟨World.ownsRow_nil _ _ _ _, fun x hx => by cases hx⟩, fun i x hx => by simp at hx⟩, Lib.hid (Below.refl _ _)⟩
        case round =>
          obtain ⟨q, rfl, hq, HF, HBR⟩ := hrel
          obtain ⟨fl, hfl, hfr, hfo⟩ := HF.out
          obtain ⟨fo, fcap, hvw, _⟩ := own_sl hfr.row
          rw [hfl] at hvw
          subst hvw
          have HFL := Lib.hid hfl
          have HFR := Lib.hid hfr
          have HFO := Lib.hid hfo
          clear hfl hfr hfo HF
          by_cases hlt : q < nlen
          · obtain ⟨s, hs⟩ : ∃ s, nl[q]? = some s := ⟨_, List.getElem?_eq_getElem (by rw [← HNL.out]; exact hlt)⟩
            have hrow1 := HROW.out.below HBR.out
            obtain ⟨g1, rfl, x1⟩ := tx_at hrow1 hs
            have hsz : s.size ≤ maxLen := by have := (HNP.out s (List.mem_of_getElem? hs)).2.1; unfold maxLen; omega
            have HRD := Lib.hid ((HS3.out.below HBR.out).read s hsz)
            have HSQ := Lib.hid hs
            have HSZ := Lib.hid hsz
            clear hsz hs hrow1
            go_upto_region 15 with (first
              | ((go_at_call 19; with_reducible refine (HRD.out).mono ?_); rintro e w5 ⟨v, c2, rfl, hrd⟩; obtain ⟨bo, bc, rfl, _⟩ := own_sl hrd.row.own; have HB5 := Lib.hid (HBR.out.trans (hrd.row.below.mono HBR.out.size)); have HFR5 := Lib.hid (HFR.out.below hrd.row.below); have hm20 := hrd.few; clear hrd)
              | go_in)
            obtain ⟨m, hm⟩ : ∃ m, m = (rdL A s).length := ⟨_, rfl⟩
            rw [← hm] at hm20 ⊢
            have HM := Lib.hid hm
            clear hm x1
            clear HBR HFR
            go_upto_region 17 with fail
            go_loopw [14] (fun i wx => ∃ p : Nat, i = .int .i64 p ∧ p ≤ m / 512 + 1 ∧ RowKit.Hid (∃ v, wx.heap[w5.heap.size]? = some (.cells #[.string s, v, .bool true] 58 (0, 0)) ∧ IxRow wx (w5.heap.size + 1) v (rg p)) ∧ RowKit.Hid (Below w5.heap.size w5 wx)) (fun i _ => m / 512 + 1 - (intOf i).toNat)
            case atStart => exact ⟨0, rfl, Nat.zero_le _, Lib.hid ⟨_, hb_new w5 _, World.ownsRow_nil _ _ _ _⟩, Lib.hid (below_alloc w5 _)⟩
            case round =>
              obtain ⟨p, rfl, hp, HV, HBI⟩ := hrel
              obtain ⟨v, hv, hix⟩ := HV.out
              obtain ⟨vo, vc, hvv, _⟩ := own_sl hix
              rw [rg_len] at hvv
              subst hvv
              have s0 : wr.cell? ⟨w5.heap.size, 0, none⟩ = some (.string s) := hb_at hv 0 rfl
              have s1 : wr.cell? ⟨w5.heap.size, 1, none⟩ = some (.slice vo p vc) := hb_at hv 1 rfl
              have s2 : wr.cell? ⟨w5.heap.size, 2, none⟩ = some (.bool true) := hb_at hv 2 rfl
              have hSl := hb_lt hv
              by_cases hlt2 : p ≤ m / 512
              · obtain ⟨v7, w7, hrun, hown7, hg7⟩ := append_ix (wr.alloc (.cells #[.int .i64 p] 3)) (w5.heap.size + 1) _ _ p (hix.below (below_alloc wr _)) wr.heap.size 1 (hb_new wr _) (by rw [rg_len]; omega) (by simp; omega)
                obtain ⟨ao7, ac7, hv7, _⟩ := own_sl hown7
                rw [show (rg p ++ [(p : Int)]).length = p + 1 by simp [rg_len]] at hv7
                subst hv7
                have hS7 := hb_grown (hb_alloc hv _) hg7 (fun e => by have := (World.ownsRow.lt hix _ e.symm).1; omega)
                have z7 : w7.frozen? ⟨w5.heap.size, 1, none⟩ = false := hb_free hS7 1
                have c7 : w7.cell? ⟨w5.heap.size, 1, none⟩ = some (.slice vo p vc) := hb_at hS7 1 rfl
                have hbw : Below w5.heap.size w5 w7 := (HBI.out.alloc HBI.out.size _).grown hg7 (by simp; omega) (fun j hj => by have := (World.ownsRow.lt hix j hj).1; omega)
                have HNX : RowKit.Hid ((w7.setCell ⟨w5.heap.size, 1, none⟩ (.slice ao7 (p + 1) ac7)).heap[w5.heap.size]? = some (.cells #[.string s, .slice ao7 (p + 1) ac7, .bool true] 58 (0, 0)) ∧ IxRow (w7.setCell ⟨w5.heap.size, 1, none⟩ (.slice ao7 (p + 1) ac7)) (w5.heap.size + 1) (.slice ao7 (p + 1) ac7) (rg (p + 1))) := Lib.hid ⟨hb_set_same hS7 1 _, by rw [rg_succ]; exact hown7.kept fun b cs f hx => hb_set_other hx _ (tag_ne hx hS7 (by decide))⟩
                have HBW : RowKit.Hid (Below w5.heap.size w5 (w7.setCell ⟨w5.heap.size, 1, none⟩ (.slice ao7 (p + 1) ac7))) := Lib.hid (below_grown hbw (grown_at w7 w5.heap.size 1 _) hbw.size (Nat.le_refl _))
                clear hown7 hg7 hS7 hbw hix hv HV HBI
                go_wp2_with (first
                  | (at_builtin; refine wpList_append_at rfl _ _ rfl rfl rfl rfl hrun ?_)
                  | go_in)
                exact ⟨⟨p + 1, by go_num, by omega, Lib.hid ⟨_, HNX.out⟩, HBW⟩, by simp [intOf]; omega⟩
              · obtain rfl : p = m / 512 + 1 := by omega
                have hfw := (HFR5.out.below HBI.out).below (below_alloc wr (.cells #[.string s, .slice vo (m / 512 + 1) vc, .bool true] 58))
                have hbi := HBI.out.size
                have hb53 := HB5.out.size
                obtain ⟨v7, w7, hrun, hown7, hg7⟩ := append_sv (wr.alloc (.cells #[.string s, .slice vo (m / 512 + 1) vc, .bool true] 58)) w3.heap.size _ fl ⟨s, vo, vc, rg (m / 512 + 1), true⟩ hfw (by
                  show IxRow _ _ (.slice vo (rg (m / 512 + 1)).length vc) (rg (m / 512 + 1))
                  rw [rg_len]
                  exact (hix.below (below_alloc wr _)).base (by omega)) wr.heap.size 1 (by
                  show (wr.alloc _).heap[wr.heap.size]? = some (.cells #[.string s, .slice vo (rg (m / 512 + 1)).length vc, .bool true] 58 (0, 0))
                  rw [rg_len]
                  exact hb_new wr _) (by rw [HFL.out]; omega) (by simp; omega)
                have HNF : RowKit.Hid (∃ fl, fl.length = q + 1 ∧ FlRow w7 w3.heap.size v7 fl ∧ FlOk A nl fl) := Lib.hid ⟨_, by rw [List.length_append, HFL.out]; rfl, hown7, HFO.out.snoc (by rw [HFL.out]; exact HSQ.out) rfl (fun j hj => by
                  show ((j / 512 : Nat) : Int) ∈ rg (m / 512 + 1)
                  have hj2 : j < m := by rw [HM.out]; exact hj
                  exact rg_mem.2 ⟨j / 512, by omega, rfl⟩) (rg_wf (by omega)) (by show (rg (m / 512 + 1)).length ≤ 10000; rw [rg_len]; omega)⟩
                have HNB : RowKit.Hid (Below w3.heap.size w3 w7) := Lib.hid (((HB5.out.trans (HBI.out.mono hb53)).alloc (by omega) _).grown hg7 (by simp; omega) (fun j hj => (hfw.row.lt j hj).1))
                clear hown7 hg7 hix hv hfw HV HBI
                go_wp2_with (first
                  | (at_builtin; refine wpList_append_at rfl _ _ rfl rfl rfl rfl hrun ?_)
                  | go_in)
                exact ⟨⟨q + 1, by go_num, by omega, HNF, HNB⟩, by simp [intOf]; omega⟩
          · obtain rfl : q = nlen := by omega
            have hflx : FlRow wr w3.heap.size (.slice fo fl.length fcap) fl := by rw [HFL.out]; exact HFR.out
            have hrs : RowS wr fo fl := hflx.rowS fun x hx => by
              obtain ⟨i, hi⟩ := List.getElem?_of_mem hx
              obtain ⟨h1, _, _, h4, h5⟩ := HFO.out i x hi
              have h6 := (HNP.out x.name (List.mem_of_getElem? h1)).2.1
              exact ⟨by unfold maxLen; omega, h4, by unfold manyZ; omega⟩
            have hri : RowI wr vo (rg 100) := IxRow.rowI (B := w2.heap.size) (c := vcap) (by rw [rg_len]; exact HTU3.out.below HBR.out) (rg_wf (by omega))
            have hcr := (HS3.out.below HBR.out).crash2 (by omega) vcap fcap hri (by rw [rg_len]; omega) hrs (by rw [HFL.out]; omega)
            rw [rg_len, HFL.out] at hcr
            have HCR := Lib.hid hcr
            have HB4 := Lib.hid (HB2.out.trans ((HB3.out.trans (HBR.out.mono HB3.out.size)).mono HB2.out.size))
            have HS4 := Lib.hid (HS3.out.below HBR.out)
            clear hflx hrs hri hcr
            go_upto_region 23 with (first
              | ((go_at_call 20; with_reducible refine (HCR.out).mono ?_); rintro e w6 ⟨F2, A2, j, rfl, hS6, hC6, hl6, hb6⟩)
              | go_in)
            have hwh : Whole A A2 := hC6.whole hl6 (by rw [dirTo_all (fun i hi => decide_eq_true (rg_mem.2 ⟨i, by have := HG.out.few; omega, rfl⟩)) _ _ (Nat.le_refl _), List.take_length]; exact HG.out.dirt.symm) HS3.out.dirs (fun s X f hd hX => by
              obtain ⟨x, hx, hl, hz⟩ := HFO.out.told (by rw [HFL.out, HNL.out]) ((HNM.out.mem s).2 (by rw [hd]; rfl))
              exact leave_all hx hl fun j hj => hz j (by rw [rdL_some HOFF.out hd hX]; exact hj))
            have HW := Lib.hid hwh
            have HS6 := Lib.hid hS6
            have HF6 := Lib.hid (HS4.out.below hb6)
            have HB6 := Lib.hid (HB4.out.trans (hb6.mono HB4.out.size))
            have HUS := Lib.hid (hwh.used HG.out.sum HS3.out.dirs)
            clear hC6 hl6 hwh hS6 hb6 HCR HFR HFO HTU3 HS3 HBR
            go_upto_region 25 with (first
              | ((go_at_call 22; with_reducible refine (HS6.out.names (by omega)).mono ?_); rintro e w7 ⟨nv7, nl7, rfl, hnm7⟩
                 have e7 := (hnm7.one HNM.out HW.out.dirs).symm
                 subst e7
                 have hb7 := hnm7.lists.choose_spec.2.below
                 have HO7 := Lib.hid (HS6.out.below hb7)
                 have HF7 := Lib.hid (HF6.out.below hb7)
                 have HB7 := Lib.hid (HB6.out.trans (hb7.mono HB6.out.size))
                 have HR7 := Lib.hid hnm7.row
                 have hn7 := hnm7.few
                 clear hnm7 hb7)
              | ((go_at_call 22; with_reducible refine (HF7.out.names (by omega)).mono ?_); rintro e w8 ⟨nv8, nl8, rfl, hnm8⟩
                 have e8 := (hnm8.one HNM.out (fun _ => rfl)).symm
                 subst e8
                 have hb8 := hnm8.lists.choose_spec.2.below
                 have HO8 := Lib.hid (HO7.out.below hb8)
                 have HF8 := Lib.hid (HF7.out.below hb8)
                 have HB8 := Lib.hid (HB7.out.trans (hb8.mono HB7.out.size))
                 have HTX := Lib.hid (texts_same (HR7.out.below hb8) hnm8.row (by omega))
                 clear hnm8 hb8)
              | ((go_at_call 23; with_reducible refine (HTX.out).mono ?_); rintro e w9 ⟨rfl, hb9⟩
                 have HO9 := Lib.hid (HO8.out.below hb9)
                 have HF9 := Lib.hid (HF8.out.below hb9)
                 have HB9 := Lib.hid (HB8.out.trans (hb9.mono HB8.out.size))
                 clear hb9)
              | ((go_at_call 24; with_reducible refine (HO9.out.used).mono ?_); rintro e w10 ⟨rfl, rfl⟩; rw [HUS.out])
              | ((go_at_call 24; with_reducible refine (HF9.out.used).mono ?_); rintro e w10 ⟨rfl, rfl⟩)
              | go_in)
            have hc2 : Calls Try.prog 20 #[.pointer (some ⟨F2, 0, none⟩), .slice none 0 0, .slice none 0 0] w9 _ := HO9.out.crash2 (by omega) (ao := none) (fo := none) (zs := []) (fl := []) 0 0 (fun i z hz => by simp at hz) (by simp) (fun i x hx => by simp at hx) (by simp)
            have HC2 := Lib.hid hc2
            clear hc2 HTX HR7
            go_upto_region 27 with (first
              | ((go_at_call 20; with_reducible refine (HC2.out).mono ?_); rintro e w11 ⟨F3, A3, j3, rfl, hS11, hC11, hl11, hb11⟩
                 have hw3 : Whole A2 A3 := hC11.whole hl11 (by rw [dirTo_none (fun i => by simp)]; exact HW.out.last) HO9.out.dirs (fun s X f hd hX => leave_same (HW.out.again hd hX HF9.out.dirs))
                 have HW3 := Lib.hid hw3
                 have HP11 := Lib.hid hS11
                 have HO11 := Lib.hid (HO9.out.below hb11)
                 have HF11 := Lib.hid (HF9.out.below hb11)
                 have HB11 := Lib.hid (HB9.out.trans (hb11.mono HB9.out.size))
                 clear hC11 hl11 hw3 hS11 hb11)
              | ((go_at_call 22; with_reducible refine (HF11.out.names (by omega)).mono ?_); rintro e w12 ⟨nv12, nl12, rfl, hnm12⟩
                 have e12 := (hnm12.one HNM.out (fun _ => rfl)).symm
                 subst e12
                 have hb12 := hnm12.lists.choose_spec.2.below
                 obtain ⟨na2, nc2, rfl, hnc2⟩ := own_sl hnm12.row
                 have HROW2 := Lib.hid hnm12.row
                 have HP12 := Lib.hid (HP11.out.below hb12)
                 have HO12 := Lib.hid (HO11.out.below hb12)
                 have HF12 := Lib.hid (HF11.out.below hb12)
                 have HB12 := Lib.hid (HB11.out.trans (hb12.mono HB11.out.size))
                 rw [← HNL.out]
                 clear hnm12 hb12)
              | go_in)
            have HD0 := Lib.hid HF12.out.dirs
            have HD2 := Lib.hid HO12.out.dirs
            go_loopw [102] (fun i wx => ∃ p : Nat, i = .int .i64 p ∧ p ≤ q ∧ RowKit.Hid (Below w12.heap.size w12 wx)) (fun i _ => q - (intOf i).toNat)
            case atStart => exact ⟨0, rfl, Nat.zero_le _, Lib.hid (Below.refl _ _)⟩
            case round =>
              obtain ⟨p, rfl, hp, HBR⟩ := hrel
              by_cases hlt2 : p < q
              · obtain ⟨s, hs⟩ : ∃ s, nl[p]? = some s := ⟨_, List.getElem?_eq_getElem (by rw [← HNL.out]; exact hlt2)⟩
                have hrow1 := HROW2.out.below HBR.out
                obtain ⟨g1, rfl, x1⟩ := tx_at hrow1 hs
                have hsz : s.size ≤ maxLen := by have := (HNP.out s (List.mem_of_getElem? hs)).2.1; unfold maxLen; omega
                have hsm : (A.dir s).isSome = true := (HNM.out.mem s).1 (List.mem_of_getElem? hs)
                have HSM := Lib.hid hsm
                have HE2 := Lib.hid (HW.out.read HOFF.out HD0.out hsm)
                have hsm2 : (A2.dir s).isSome = true := by rw [HW.out.dirs]; exact hsm
                have HSM2 := Lib.hid hsm2
                have HE3 := Lib.hid (HW3.out.read HW.out.off HD2.out hsm2)
                have HSM3 : RowKit.Hid ((A3.dir s).isSome = true) := Lib.hid (by rw [HW3.out.dirs]; exact hsm2)
                have HR1 := Lib.hid ((HF12.out.below HBR.out).read s hsz)
                have HSZ := Lib.hid hsz
                clear hsz hs hrow1 hsm hsm2
                go_upto_region 32 with (first
                  | ((go_at_call 19; with_reducible refine (HR1.out).mono ?_); rintro e w13 ⟨v1, k1, rfl, h13⟩
                     have ek1 := h13.ok HOFF.out HSM.out
                     subst ek1
                     have HQ1 := Lib.hid h13.row
                     have HN1 := Lib.hid h13.one
                     have HR2 := Lib.hid (((HO12.out.below HBR.out).below h13.row.below).read s HSZ.out)
                     have HP2 := Lib.hid ((HP12.out.below HBR.out).below h13.row.below)
                     obtain ⟨bo1, bc1, rfl, _⟩ := own_sl h13.row.own
                     clear h13)
                  | ((go_at_call 19; with_reducible refine (HR2.out).mono ?_); rintro e w14 ⟨v2, k2, rfl, h14⟩
                     have ek2 := h14.ok HW.out.off HSM2.out
                     subst ek2
                     have hq2 := h14.row
                     rw [HE2.out] at hq2
                     have HQ2 := Lib.hid hq2
                     have HR3 := Lib.hid ((HP2.out.below hq2.below).read s HSZ.out)
                     obtain ⟨bo2, bc2, rfl, _⟩ := own_sl hq2.own
                     clear h14 hq2)
                  | ((go_at_call 19; with_reducible refine (HR3.out).mono ?_); rintro e w15 ⟨v3, k3, rfl, h15⟩
                     have ek3 := h15.ok HW3.out.off HSM3.out
                     subst ek3
                     have hq3 := h15.row
                     rw [HE3.out, HE2.out] at hq3
                     have HQ3 := Lib.hid hq3
                     obtain ⟨bo3, bc3, rfl, _⟩ := own_sl hq3.own
                     clear h15 hq3)
                  | go_in)
                have hcv3 := text_row HQ3.out.own HN1.out
                have hcv2 := text_row (own_kept (w' := w15) HQ2.out.own fun g x hg hx => hb_below hx HQ3.out.below (hb_lt hx)) HN1.out
                have hcv1 := text_row (own_kept (w' := w15) (own_kept (w' := w14) HQ1.out.own fun g x hg hx => hb_below hx HQ2.out.below (hb_lt hx)) fun g x hg hx => hb_below hx HQ3.out.below (hb_lt hx)) HN1.out
                have HBN : RowKit.Hid (Below w12.heap.size w12 w15) := Lib.hid (by
                  have b1 := HBR.out.trans (HQ1.out.below.mono HBR.out.size)
                  have b2 := b1.trans (HQ2.out.below.mono b1.size)
                  exact b2.trans (HQ3.out.below.mono b2.size))
                clear x1
                go_wp2_with (first
                  | ((go_at_call 11; with_reducible refine (no_any _ _).mono ?_); rintro e w16 ⟨rfl, rfl⟩)
                  | go_in)
                exact ⟨⟨p + 1, by go_num, by omega, HBN⟩, by simp [intOf]; omega⟩
              · obtain rfl : p = q := by omega
                go_wp2_with (first
                  | ((go_at_call 12; with_reducible refine (alive_ok _).mono ?_); rintro e w5 ⟨rfl, hb5⟩)
                  | go_in)
                go_ret
                have hbx := HB12.out.trans (HBR.out.mono HB12.out.size)
                exact ⟨rfl, hbx.trans (hb5.mono hbx.size)⟩
end Go.Proofs.Ytmfphnhdahaooaa
