/- VfsRefused: pieces. -/
import Derived.Test.YtmfphnhdahaooaaM33
import Derived.Deep.CutBlock
set_option linter.unusedSimpArgs false
set_option linter.unusedVariables false
namespace Go.Proofs.Ytmfphnhdahaooaa
open Go.RowKit Go.Maps
set_option linter.unusedSimpArgs false
set_option linter.unusedVariables false
/-- What stands while a call goes on that may be refused. -/
structure RefI (B F X : Nat) (nv : Value) (nl : List ByteArray) (vw : Value) (wl : List ByteArray) (A : Fs) (cs : Array Value) (B0 : Nat) (w0 w : World) : Prop where
  sto : Sto w B F A 200
  box : w.heap[X]? = some (.cells cs 39 (0, 0))
  names : TxRow w B nv nl
  was : TxRow w B vw wl
  below : Below B0 w0 w
  le : B0 ≤ B
/-- What stands behind it. -/
def RefC (B F : Nat) (nv : Value) (nl : List ByteArray) (vw : Value) (wl : List ByteArray) (A : Fs) (B0 : Nat) (w0 : World) (e : Value) (w : World) : Prop :=
  ∃ c A', e = .int .i64 c ∧ Sto w B F A' 201 ∧ (c ≠ 0 → A' = A ∨ A' = A.step) ∧ TxRow w B nv nl ∧ TxRow w B vw wl ∧ Below B0 w0 w
theorem same_of {A A' : Fs} (hd : A' = A ∨ A' = A.step) (h0 : A'.off = false) : A'.used = A.used ∧ (∀ s, (A'.dir s).isSome = (A.dir s).isSome) ∧ ∀ s, rdL A' s = rdL A s := by
  rcases hd with rfl | rfl
  · exact ⟨rfl, fun _ => rfl, fun _ => rfl⟩
  · refine ⟨rfl, fun _ => rfl, fun s => ?_⟩
    have h1 : A.off = false := by
      have : (A.off || A.pow == 0) = false := h0
      simpa using (Bool.or_eq_false_iff.1 this).1
    unfold rdL
    rw [h0, h1]
    rfl
section
variable {B F X B0 : Nat} {nv vw : Value} {nl wl : List ByteArray} {A : Fs} {cs : Array Value} {w0 w w' : World}
theorem RefI.over (h : RefI B F X nv nl vw wl A cs B0 w0 w) (hS : Sto w' B F A 200) (hf : Frm B w w') : RefI B F X nv nl vw wl A cs B0 w0 w' :=
  ⟨hS, hf.other _ _ _ _ (by decide) (by decide) (by decide) (by decide) h.box, h.names.over hf, h.was.over hf, h.below.trans (hf.toBelow.mono h.le), h.le⟩
theorem RefI.on (h : RefI B F X nv nl vw wl A cs B0 w0 w) (hb : Below w.heap.size w w') : RefI B F X nv nl vw wl A cs B0 w0 w' := h.over (h.sto.below hb) (Frm.ofBelow hb (by have := h.sto.lt; omega))
theorem RefI.drew (h : RefI B F X nv nl vw wl A cs B0 w0 w) : RefI B F X nv nl vw wl A cs B0 w0 w.drew := h.over (h.sto.kept fun _ _ hx => hx) (Frm.drewN B w 1)
theorem RefI.boxed (h : RefI B F X nv nl vw wl A cs B0 w0 w) (hf : Frm B w w') : w'.heap[X]? = some (.cells cs 39 (0, 0)) := hf.other _ _ _ _ (by decide) (by decide) (by decide) (by decide) h.box
theorem RefI.did (h : RefI B F X nv nl vw wl A cs B0 w0 w) {R : Fs → Fs → Prop} {c : Int} (ho : OpP B F A 200 R w (.returned (.int .i64 c)) w') : RefC B F nv nl vw wl A B0 w0 (.int .i64 c) w' := by
  obtain ⟨c2, A', e, hS, hd, hf⟩ := ho
  obtain rfl : c = c2 := by simpa using e
  refine ⟨c, A', rfl, hS, fun hc => ?_, h.names.over hf, h.was.over hf, h.below.trans (hf.toBelow.mono h.le)⟩
  rcases hd with ⟨_, h⟩ | ⟨h0, _⟩
  · exact h
  · exact absurd h0 hc
theorem RefI.none (h : RefI B F X nv nl vw wl A cs B0 w0 w) : RefC B F nv nl vw wl A B0 w0 (.int .i64 0) w := ⟨0, A, rfl, h.sto.mono (by omega), fun hc => absurd rfl hc, h.names, h.was, h.below⟩
end
set_option maxRecDepth 100000 in
set_option maxHeartbeats 4000000 in
theorem refused_walk {w : World} {ao : Option Addr} {l : List Ac} {c : Nat} {a : Ac} (n : Int) (h : RowAc w ao l) (hl : l.length ≤ maxLen) (ha : AcArg w a) :
    Calls Try.prog 6 #[.int .i64 n, .slice ao l.length c, .agg (acC a)] w fun e w' => e = .returned (.bool true) ∧ Below w.heap.size w w' := by
  obtain ⟨X, hX⟩ : ∃ X, X = w.heap.size := ⟨_, rfl⟩
  have hb1 := below_alloc w (.cells (acC a) 39)
  have HX1 : RowKit.Hid ((w.alloc (.cells (acC a) 39)).heap[X]? = some (.cells (acC a) 39 (0, 0))) := Lib.hid (by rw [hX]; exact hb_new w _)
  have HP := Lib.hid (fun m => play_v (c := c) m (h.below hb1) hl)
  have HA1 := Lib.hid (ha.on hb1)
  have HB1 := Lib.hid hb1
  clear h hl ha hb1
  unfold acC at HX1 HP HA1 HB1 ⊢
  go_enter Try.func6, Try.ntmps6
  go_upto_region 1 with fail
  rw [← hX]
  generalize (w.alloc (.cells #[.int .i64 a.kind, .string a.name, .string a.dst, .int .i64 a.at_, .int .i64 a.n, .int .u8 a.by_, .slice a.tao a.zs.length a.tc, .slice a.fo a.fl.length a.fc] 39)) = w1 at *
  have HXL := Lib.hid (show X < w1.heap.size from hb_lt HX1.out)
  have HXW := Lib.hid hX
  clear hX
  go_upto_region 2 with (first
    | ((go_at_call 16; with_reducible refine (HP.out n).mono ?_); rintro e w2 ⟨v, rfl, hv, hb2⟩)
    | go_in)
  have HB2 := Lib.hid (HB1.out.trans (hb2.mono HB1.out.size))
  have HX2 := Lib.hid (hb_below HX1.out hb2 HXL.out)
  have HA2 := Lib.hid (HA1.out.on hb2)
  rcases hv with rfl | ⟨F, A, rfl, hps⟩
  · clear hb2
    go_wp2_with (first
      | ((go_at_call 12; with_reducible refine (alive_ok _).mono ?_); rintro e w3 ⟨rfl, hb3⟩)
      | go_in)
    go_ret
    exact ⟨rfl, HB2.out.trans (hb3.mono HB2.out.size)⟩
  have HS2 := Lib.hid hps.1
  clear hps hb2
  have y0 := hb_at HX2.out 0 rfl
  have y1 := hb_at HX2.out 1 rfl
  have y2 := hb_at HX2.out 2 rfl
  have y3 := hb_at HX2.out 3 rfl
  have y4 := hb_at HX2.out 4 rfl
  have y5 := hb_at HX2.out 5 rfl
  have y6 := hb_at HX2.out 6 rfl
  have y7 := hb_at HX2.out 7 rfl
  have HFO := Lib.hid (few_one HA2.out)
  unfold acC at HFO
  go_cut [30] (fun v wx => ∃ b : Bool, v = .bool b ∧ (b = false → FewOk [a]) ∧ Below w2.heap.size w2 wx)
  case first =>
    go_wp2_with (first
      | ((go_at_call 13; with_reducible refine HFO.out.mono ?_); rintro e w3 ⟨⟨b, rfl, hfb⟩, hb3⟩)
      | go_in)
    go_meet
    exact ⟨!b, rfl, fun h => hfb (by simpa using h), (below_alloc w2 _).trans (hb3.mono (by simp))⟩
  case rest =>
  obtain ⟨b, rfl, hfw, hb3⟩ := hcut
  clear y0 y1 y2 y3 y4 y5 y6 y7 HFO
  cases b with
  | true =>
    go_wp2_with (first
      | ((go_at_call 12; with_reducible refine (alive_ok _).mono ?_); rintro e w3 ⟨rfl, hb4⟩)
      | go_in)
    go_ret
    exact ⟨rfl, (HB2.out.trans (hb3.mono HB2.out.size)).trans (hb4.mono (HB2.out.trans (hb3.mono HB2.out.size)).size)⟩
  | false =>
    have HFW := Lib.hid (hfw rfl)
    have HBC := Lib.hid (HB2.out.trans (hb3.mono HB2.out.size))
    have HSC := Lib.hid (HS2.out.below hb3)
    have HXC := Lib.hid (hb_below HX2.out hb3 (hb_lt HX2.out))
    have HAC := Lib.hid (HA2.out.on hb3)
    clear hb3 hfw HS2 HX2 HA2 HB2
    generalize hB : w1.heap.size = B at *
    have HXB : RowKit.Hid (w.heap.size ≤ B) := Lib.hid (by have := HXL.out; have := HXW.out; omega)
    clear HX1 HP HA1 HB1 hB HXL
    go_upto_region 8 with (first
      | ((go_at_call 22; with_reducible refine (HSC.out.names (by omega)).mono ?_); rintro e w3 ⟨nv, nl, rfl, hnm⟩
         have HS3 := Lib.hid (HSC.out.below hnm.lists.choose_spec.2.below)
         have HNM := Lib.hid hnm
         have hb3 := hnm.lists.choose_spec.2.below
         have HX3 := Lib.hid (hb_below HXC.out hb3 (hb_lt HXC.out))
         have HBS : RowKit.Hid (B ≤ wc.heap.size) := Lib.hid (by have := HSC.out.lt; omega)
         have HBS3 : RowKit.Hid (B ≤ w3.heap.size) := Lib.hid (by have := HSC.out.lt; have := hb3.size; omega)
         have HB3 := Lib.hid (HBC.out.trans (hb3.mono HBC.out.size))
         clear hb3
         obtain ⟨nao, nc, rfl, hnc⟩ := own_sl hnm.row
         have HROW := Lib.hid hnm.row
         obtain ⟨nlen, hnlen⟩ : ∃ n, n = nl.length := ⟨_, rfl⟩
         have HNL := Lib.hid hnlen
         have hn1000 : nlen ≤ 1000 := by rw [hnlen]; exact hnm.few
         rw [← hnlen]
         clear hnm hnlen hnc)
      | ((go_at_call 24; with_reducible refine (HS3.out.used).mono ?_); rintro e w4 ⟨rfl, rfl⟩)
      | go_in)
    have HNP : RowKit.Hid (∀ s ∈ nl, NameP s) := Lib.hid fun s hs => HS3.out.nameP ((HNM.out.mem s).1 hs)
    go_loopw [10, 38] (fun vw i wr => ∃ q : Nat, i = .int .i64 q ∧ q ≤ nlen ∧ RowKit.Hid (TxRow wr w3.heap.size vw ((nl.take q).map (fun s => textV (rdL A s)))) ∧ RowKit.Hid (Below w3.heap.size w3 wr)) (fun _ i _ => nlen - (intOf i).toNat)
    case atStart => exact ⟨0, rfl, Nat.zero_le _, Lib.hid (World.ownsRow_nil _ _ _ _), Lib.hid (Below.refl _ _)⟩
    case round =>
      obtain ⟨q, rfl, hq, HW, HBR⟩ := hrel
      by_cases hlt : q < nlen
      · obtain ⟨s, hs⟩ : ∃ s, nl[q]? = some s := ⟨_, List.getElem?_eq_getElem (by rw [← HNL.out]; exact hlt)⟩
        obtain ⟨g1, rfl, x1⟩ := tx_at (HROW.out.below HBR.out) hs
        have hsz : s.size ≤ maxLen := by have := (HNP.out s (List.mem_of_getElem? hs)).2.1; unfold maxLen; omega
        have hwl : ((nl.take q).map (fun s => textV (rdL A s))).length = q := by rw [List.length_map, List.length_take, ← HNL.out]; omega
        obtain ⟨vo, vcap, hvw, _⟩ := own_sl HW.out
        rw [hwl] at hvw
        subst hvw
        have HWL := Lib.hid hwl
        clear hwl
        have HRD := Lib.hid ((HS3.out.below HBR.out).read s hsz)
        have HSQ := Lib.hid hs
        clear hsz hs
        go_upto_region 11 with (first
          | ((go_at_call 19; with_reducible refine (HRD.out).mono ?_); rintro e w5 ⟨v, c2, rfl, hrd⟩; obtain ⟨bo, bc, rfl, _⟩ := own_sl hrd.row.own)
          | go_in)
        have hconv := text_row hrd.row.own hrd.one
        obtain ⟨v7, w7, hrun, hown7, hg7⟩ := append_tx (w5.alloc (.cells #[.string (textV (rdL A s))] 9)) w3.heap.size _ _ (textV (rdL A s)) ((HW.out.below hrd.row.below).below (below_alloc w5 _)) w5.heap.size 1 (hb_new w5 _) (by rw [HWL.out]; omega) (by have := HBR.out.size; have := hrd.row.below.size; simp; omega)
        have HBW : RowKit.Hid (Below w3.heap.size w3 w7) := Lib.hid (((HBR.out.trans (hrd.row.below.mono HBR.out.size)).alloc (by have := HBR.out.size; have := hrd.row.below.size; omega) _).grown hg7 (by have := HBR.out.size; have := hrd.row.below.size; simp; omega) (fun j hj => (World.ownsRow.lt HW.out j hj).1))
        have HOW : RowKit.Hid (TxRow w7 w3.heap.size v7 ((nl.take (q + 1)).map (fun s => textV (rdL A s)))) := Lib.hid (by rw [List.take_add_one, HSQ.out, List.map_append]; exact hown7)
        clear hrd hown7 hg7 x1
        go_wp2_with (first
          | (at_builtin; refine wpList_append_at rfl _ _ rfl rfl rfl rfl hrun ?_)
          | go_in)
        exact ⟨⟨q + 1, by go_num, by omega, HOW, HBW⟩, by simp [intOf]; omega⟩
      · obtain rfl : q = nlen := by omega
        have HWR : RowKit.Hid (TxRow wr w3.heap.size u10 (nl.map (fun s => textV (rdL A s)))) := Lib.hid (by have h := HW.out; rw [List.take_of_length_le (by rw [← HNL.out]; exact Nat.le_refl _)] at h; exact h)
        have HRI0 : RowKit.Hid (RefI B F X (.slice nao q nc) nl u10 (nl.map (fun s => textV (rdL A s))) A (acC a) w.heap.size w wr) := Lib.hid ⟨HS3.out.below HBR.out, hb_below HX3.out HBR.out (hb_lt HX3.out), (by have h := (HROW.out.below HBR.out).base HBS.out; rw [← HNL.out] at h; exact h), HWR.out.base HBS3.out, HB3.out.trans (HBR.out.mono HB3.out.size), HXB.out⟩
        have HNA1 : RowKit.Hid (a.name.size ≤ maxLen ∧ a.dst.size ≤ maxLen) := Lib.hid ⟨HAC.out.name, HAC.out.dst⟩
        have HANI : RowKit.Hid (NumOk a.at_ ∧ NumOk a.n) := Lib.hid HAC.out.nums
        clear HW HWR HBR
        unfold acC at HRI0
        generalize a.kind = kind, a.name = name, a.dst = dst, a.at_ = at_, a.n = an, a.by_ = by_, a.tao = tao, a.zs.length = zl, a.tc = tc, a.fo = fo, a.fl.length = fll, a.fc = fc at *
        have HRI := HRI0
        clear HRI0
        have y0 := hb_at HRI.out.box 0 rfl
        have y1 := hb_at HRI.out.box 1 rfl
        have y2 := hb_at HRI.out.box 2 rfl
        have y3 := hb_at HRI.out.box 3 rfl
        have y4 := hb_at HRI.out.box 4 rfl
        have y5 := hb_at HRI.out.box 5 rfl
        have y6 := hb_at HRI.out.box 6 rfl
        have y7 := hb_at HRI.out.box 7 rfl
        go_upto_block 2 with fail
        go_cut [15] (fun e wx => RefC B F (.slice nao q nc) nl u10 (nl.map (fun s => textV (rdL A s))) A w.heap.size w e wx)
        case first =>
          by_cases h0 : kind = 0
          · subst h0
            go_upto_region 17 with fail
            clear y0 y1 y2 y3 y4 y5 y6 y7
            refine wp_region_held_drew (S := fun w' => RowKit.Hid (w'.heap[X]? = some (.cells #[.int .i64 0, .string name, .string dst, .int .i64 at_, .int .i64 an, .int .u8 by_, .slice tao zl tc, .slice fo fll fc] 39 (0, 0)))) (by kernel_rfl) (by exact Lib.hid HRI.out.drew.box) (fun hHeld => ?_)
            refine wpAnyH_take (i := 0) (oi := ⟨some 59, _, _, _, _, _⟩) (v := ?_) rfl (by kernel_rfl) (by kernel_rfl) (by kernel_rfl) (fun _ _ _ h => h) (Or.inl ⟨by rfl, ?_⟩) (by assumption) ?_
            rotate_left
            focus (intro w hSw; (try dsimp only at hSw); go_simp; first | done | with_reducible rfl)
            try simp only [Act.put, List.setIfInBounds_toArray, List.set_cons_zero, List.set_cons_succ]
            refine wpAnyH_take (i := 1) (oi := ⟨some 60, _, _, _, _, _⟩) (v := ?_) rfl (by kernel_rfl) (by kernel_rfl) (by kernel_rfl) (fun _ _ _ h => h) (Or.inl ⟨by rfl, ?_⟩) (by assumption) ?_
            rotate_left
            focus (intro w hSw; (try dsimp only at hSw); go_simp; first | done | with_reducible rfl)
            try simp only [Act.put, List.setIfInBounds_toArray, List.set_cons_zero, List.set_cons_succ]
            refine wpAnyH_take (i := 2) (oi := ⟨some 61, _, _, _, _, _⟩) (v := ?_) rfl (by kernel_rfl) (by kernel_rfl) (by kernel_rfl) (fun _ _ _ h => h) (Or.inl ⟨by rfl, ?_⟩) (by assumption) ?_
            rotate_left
            focus (intro w hSw; have q1 := hSw.out; have x0 := hb_at q1 0 rfl; have x1 := hb_at q1 1 rfl; have x2 := hb_at q1 2 rfl; have x3 := hb_at q1 3 rfl; have x4 := hb_at q1 4 rfl; have x5 := hb_at q1 5 rfl; have x6 := hb_at q1 6 rfl; have x7 := hb_at q1 7 rfl; clear q1; go_simp; first | done | with_reducible rfl)
            try simp only [Act.put, List.setIfInBounds_toArray, List.set_cons_zero, List.set_cons_succ]
            refine wpAnyH_take (i := 3) (oi := ⟨some 62, _, _, _, _, _⟩) (v := ?_) rfl (by kernel_rfl) (by kernel_rfl) (by kernel_rfl) (fun _ _ _ h => h) (Or.inl ⟨by rfl, ?_⟩) (by assumption) ?_
            rotate_left
            focus (intro w hSw; (try dsimp only at hSw); go_simp; first | done | with_reducible rfl)
            try simp only [Act.put, List.setIfInBounds_toArray, List.set_cons_zero, List.set_cons_succ]
            refine wpAnyH_take (i := 4) (oi := ⟨some 63, _, _, _, _, _⟩) (v := ?_) rfl (by kernel_rfl) (by kernel_rfl) (by kernel_rfl) (fun _ _ _ h => h) (Or.inl ⟨by rfl, ?_⟩) (by assumption) ?_
            rotate_left
            focus (intro w hSw; have q1 := hSw.out; have x0 := hb_at q1 0 rfl; have x1 := hb_at q1 1 rfl; have x2 := hb_at q1 2 rfl; have x3 := hb_at q1 3 rfl; have x4 := hb_at q1 4 rfl; have x5 := hb_at q1 5 rfl; have x6 := hb_at q1 6 rfl; have x7 := hb_at q1 7 rfl; clear q1; go_simp; first | done | with_reducible rfl)
            try simp only [Act.put, List.setIfInBounds_toArray, List.set_cons_zero, List.set_cons_succ]
            refine wpAnyH_take (i := 5) (oi := ⟨some 64, _, _, _, _, _⟩) (v := ?_) rfl (by kernel_rfl) (by kernel_rfl) (by kernel_rfl) (fun _ _ _ h => h) (Or.inl ⟨by rfl, ?_⟩) (by assumption) ?_
            rotate_left
            focus (intro w hSw; have q1 := hSw.out; have x0 := hb_at q1 0 rfl; have x1 := hb_at q1 1 rfl; have x2 := hb_at q1 2 rfl; have x3 := hb_at q1 3 rfl; have x4 := hb_at q1 4 rfl; have x5 := hb_at q1 5 rfl; have x6 := hb_at q1 6 rfl; have x7 := hb_at q1 7 rfl; clear q1; go_simp; first | done | with_reducible rfl)
            try simp only [Act.put, List.setIfInBounds_toArray, List.set_cons_zero, List.set_cons_succ]
            refine wpAnyH_ready (rs := [6]) (by kernel_rfl) (by simp) ?_
            refine AllReadyH.cons (o := ⟨some 65, _, _, _, _, _⟩) rfl (fun K hK => ?_) AllReadyH.nil
            go_simp
            (go_at_call 26; (with_reducible refine (bytes_any _ 0 at_ an by_ name dst _ _).mono ?_); rintro e w6 ⟨g, bl, rfl, hll, hlo, hg, hgc, hb6⟩; have HR6 := Lib.hid (HRI.out.drew.on hb6); have HGC := Lib.hid hgc; have HLO := Lib.hid hlo; have HNA := Lib.hid (HRI.out.drew.sto.apart hg); clear hb6 hgc hlo hg)
            go_wp2_with fail
            refine hK.out _ _ (Lib.hid HR6.out.box) (fun hNew => ?_)
            clear hK K
            have hHeld := hNew
            try simp only [Act.put, List.setIfInBounds_toArray, List.set_cons_zero, List.set_cons_succ]
            refine wpAnyH_ready (rs := [7]) (by kernel_rfl) (by simp) ?_
            refine AllReadyH.cons (o := ⟨some 66, _, _, _, _, _⟩) rfl (fun K hK => ?_) AllReadyH.nil
            go_simp
            (go_at_call 25; (with_reducible refine (HR6.out.sto.write (by omega) name HNA1.out.1 at_ HGC.out hll HLO.out HNA.out).mono ?_); rintro e w7 ⟨ce, A', rfl, hS7, hd7, hf7⟩; have HX7 := Lib.hid (HR6.out.boxed hf7); have HC7 := Lib.hid (HR6.out.did ⟨ce, A', rfl, hS7, hd7, hf7⟩); clear hS7 hd7 hf7)
            go_wp2_with fail
            refine hK.out _ _ (Lib.hid HX7.out) (fun hNew => ?_)
            clear hK K
            have hHeld := hNew
            try simp only [Act.put, List.setIfInBounds_toArray, List.set_cons_zero, List.set_cons_succ]
            refine wpAnyH_ready (rs := [8]) (by kernel_rfl) (by simp) ?_
            refine AllReadyH.cons (o := ⟨some 67, _, _, _, _, _⟩) rfl (fun K hK => ?_) AllReadyH.nil
            go_simp
            (go_at_call 11; (with_reducible refine (no_any _ _).mono ?_); rintro e w9 ⟨rfl, rfl⟩)
            go_wp2_with fail
            refine hK.out _ _ (Lib.hid HX7.out) (fun hNew => ?_)
            clear hK K
            have hHeld := hNew
            try simp only [Act.put, List.setIfInBounds_toArray, List.set_cons_zero, List.set_cons_succ]
            refine wpAnyH_take (i := 9) (oi := ⟨some 15, _, _, _, _, _⟩) (v := ?_) rfl (by kernel_rfl) (by kernel_rfl) (by kernel_rfl) (fun _ _ _ h => h) (Or.inl ⟨by rfl, ?_⟩) (by assumption) ?_
            rotate_left
            focus (intro w hSw; (try dsimp only at hSw); go_simp; first | done | with_reducible rfl)
            try simp only [Act.put, List.setIfInBounds_toArray, List.set_cons_zero, List.set_cons_succ]
            refine wpAnyH_done (by kernel_rfl) ?_ _
            clear hHeld
            go_wp2_with fail
            go_meet
            exact HC7.out
          by_cases h1 : kind = 1
          · subst h1
            go_upto_region 17 with fail
            clear y0 y1 y2 y3 y4 y5 y6 y7
            refine wp_region_held_drew (S := fun w' => RowKit.Hid (w'.heap[X]? = some (.cells #[.int .i64 1, .string name, .string dst, .int .i64 at_, .int .i64 an, .int .u8 by_, .slice tao zl tc, .slice fo fll fc] 39 (0, 0)))) (by kernel_rfl) (by exact Lib.hid HRI.out.drew.box) (fun hHeld => ?_)
            refine wpAnyH_take (i := 0) (oi := ⟨some 59, _, _, _, _, _⟩) (v := ?_) rfl (by kernel_rfl) (by kernel_rfl) (by kernel_rfl) (fun _ _ _ h => h) (Or.inl ⟨by rfl, ?_⟩) (by assumption) ?_
            rotate_left
            focus (intro w hSw; (try dsimp only at hSw); go_simp; first | done | with_reducible rfl)
            try simp only [Act.put, List.setIfInBounds_toArray, List.set_cons_zero, List.set_cons_succ]
            refine wpAnyH_take (i := 1) (oi := ⟨some 60, _, _, _, _, _⟩) (v := ?_) rfl (by kernel_rfl) (by kernel_rfl) (by kernel_rfl) (fun _ _ _ h => h) (Or.inl ⟨by rfl, ?_⟩) (by assumption) ?_
            rotate_left
            focus (intro w hSw; (try dsimp only at hSw); go_simp; first | done | with_reducible rfl)
            try simp only [Act.put, List.setIfInBounds_toArray, List.set_cons_zero, List.set_cons_succ]
            refine wpAnyH_take (i := 2) (oi := ⟨some 61, _, _, _, _, _⟩) (v := ?_) rfl (by kernel_rfl) (by kernel_rfl) (by kernel_rfl) (fun _ _ _ h => h) (Or.inl ⟨by rfl, ?_⟩) (by assumption) ?_
            rotate_left
            focus (intro w hSw; have q1 := hSw.out; have x0 := hb_at q1 0 rfl; have x1 := hb_at q1 1 rfl; have x2 := hb_at q1 2 rfl; have x3 := hb_at q1 3 rfl; have x4 := hb_at q1 4 rfl; have x5 := hb_at q1 5 rfl; have x6 := hb_at q1 6 rfl; have x7 := hb_at q1 7 rfl; clear q1; go_simp; first | done | with_reducible rfl)
            try simp only [Act.put, List.setIfInBounds_toArray, List.set_cons_zero, List.set_cons_succ]
            refine wpAnyH_take (i := 3) (oi := ⟨some 62, _, _, _, _, _⟩) (v := ?_) rfl (by kernel_rfl) (by kernel_rfl) (by kernel_rfl) (fun _ _ _ h => h) (Or.inl ⟨by rfl, ?_⟩) (by assumption) ?_
            rotate_left
            focus (intro w hSw; (try dsimp only at hSw); go_simp; first | done | with_reducible rfl)
            try simp only [Act.put, List.setIfInBounds_toArray, List.set_cons_zero, List.set_cons_succ]
            refine wpAnyH_take (i := 4) (oi := ⟨some 63, _, _, _, _, _⟩) (v := ?_) rfl (by kernel_rfl) (by kernel_rfl) (by kernel_rfl) (fun _ _ _ h => h) (Or.inl ⟨by rfl, ?_⟩) (by assumption) ?_
            rotate_left
            focus (intro w hSw; have q1 := hSw.out; have x0 := hb_at q1 0 rfl; have x1 := hb_at q1 1 rfl; have x2 := hb_at q1 2 rfl; have x3 := hb_at q1 3 rfl; have x4 := hb_at q1 4 rfl; have x5 := hb_at q1 5 rfl; have x6 := hb_at q1 6 rfl; have x7 := hb_at q1 7 rfl; clear q1; go_simp; first | done | with_reducible rfl)
            try simp only [Act.put, List.setIfInBounds_toArray, List.set_cons_zero, List.set_cons_succ]
            refine wpAnyH_take (i := 5) (oi := ⟨some 64, _, _, _, _, _⟩) (v := ?_) rfl (by kernel_rfl) (by kernel_rfl) (by kernel_rfl) (fun _ _ _ h => h) (Or.inl ⟨by rfl, ?_⟩) (by assumption) ?_
            rotate_left
            focus (intro w hSw; have q1 := hSw.out; have x0 := hb_at q1 0 rfl; have x1 := hb_at q1 1 rfl; have x2 := hb_at q1 2 rfl; have x3 := hb_at q1 3 rfl; have x4 := hb_at q1 4 rfl; have x5 := hb_at q1 5 rfl; have x6 := hb_at q1 6 rfl; have x7 := hb_at q1 7 rfl; clear q1; go_simp; first | done | with_reducible rfl)
            try simp only [Act.put, List.setIfInBounds_toArray, List.set_cons_zero, List.set_cons_succ]
            refine wpAnyH_ready (rs := [6]) (by kernel_rfl) (by simp) ?_
            refine AllReadyH.cons (o := ⟨some 65, _, _, _, _, _⟩) rfl (fun K hK => ?_) AllReadyH.nil
            go_simp
            (go_at_call 26; (with_reducible refine (bytes_any _ 1 at_ an by_ name dst _ _).mono ?_); rintro e w6 ⟨g, bl, rfl, hll, hlo, hg, hgc, hb6⟩; have HR6 := Lib.hid (HRI.out.drew.on hb6); have HGC := Lib.hid hgc; have HLO := Lib.hid hlo; have HNA := Lib.hid (HRI.out.drew.sto.apart hg); clear hb6 hgc hlo hg)
            go_wp2_with fail
            refine hK.out _ _ (Lib.hid HR6.out.box) (fun hNew => ?_)
            clear hK K
            have hHeld := hNew
            try simp only [Act.put, List.setIfInBounds_toArray, List.set_cons_zero, List.set_cons_succ]
            refine wpAnyH_ready (rs := [7]) (by kernel_rfl) (by simp) ?_
            refine AllReadyH.cons (o := ⟨some 66, _, _, _, _, _⟩) rfl (fun K hK => ?_) AllReadyH.nil
            go_simp
            (go_at_call 25; (with_reducible refine (HR6.out.sto.write (by omega) name HNA1.out.1 at_ HGC.out hll HLO.out HNA.out).mono ?_); rintro e w7 ⟨ce, A', rfl, hS7, hd7, hf7⟩; have HX7 := Lib.hid (HR6.out.boxed hf7); have HC7 := Lib.hid (HR6.out.did ⟨ce, A', rfl, hS7, hd7, hf7⟩); clear hS7 hd7 hf7)
            go_wp2_with fail
            refine hK.out _ _ (Lib.hid HX7.out) (fun hNew => ?_)
            clear hK K
            have hHeld := hNew
            try simp only [Act.put, List.setIfInBounds_toArray, List.set_cons_zero, List.set_cons_succ]
            refine wpAnyH_ready (rs := [8]) (by kernel_rfl) (by simp) ?_
            refine AllReadyH.cons (o := ⟨some 67, _, _, _, _, _⟩) rfl (fun K hK => ?_) AllReadyH.nil
            go_simp
            (go_at_call 11; (with_reducible refine (no_any _ _).mono ?_); rintro e w9 ⟨rfl, rfl⟩)
            go_wp2_with fail
            refine hK.out _ _ (Lib.hid HX7.out) (fun hNew => ?_)
            clear hK K
            have hHeld := hNew
            try simp only [Act.put, List.setIfInBounds_toArray, List.set_cons_zero, List.set_cons_succ]
            refine wpAnyH_take (i := 9) (oi := ⟨some 15, _, _, _, _, _⟩) (v := ?_) rfl (by kernel_rfl) (by kernel_rfl) (by kernel_rfl) (fun _ _ _ h => h) (Or.inl ⟨by rfl, ?_⟩) (by assumption) ?_
            rotate_left
            focus (intro w hSw; (try dsimp only at hSw); go_simp; first | done | with_reducible rfl)
            try simp only [Act.put, List.setIfInBounds_toArray, List.set_cons_zero, List.set_cons_succ]
            refine wpAnyH_done (by kernel_rfl) ?_ _
            clear hHeld
            go_wp2_with fail
            go_meet
            exact HC7.out
          by_cases h2 : kind = 2
          · subst h2
            go_wp2_with (first
              | ((go_at_call 27; with_reducible refine (HRI.out.sto.trunc (by omega) name HNA1.out.1 an).mono ?_); rintro e w7 ⟨ce, A', rfl, hS7, hd7, hf7⟩; have HC7 := Lib.hid (HRI.out.did ⟨ce, A', rfl, hS7, hd7, hf7⟩); clear hS7 hd7 hf7)
              | ((go_at_call 11; with_reducible refine (no_any _ _).mono ?_); rintro e w9 ⟨rfl, rfl⟩)
              | go_in)
            go_meet
            exact HC7.out
          by_cases h3 : kind = 3
          · subst h3
            go_wp2_with (first
              | ((go_at_call 17; with_reducible refine (HRI.out.sto.fsync name HNA1.out.1).mono ?_); rintro e w7 ⟨ce, A', rfl, hS7, hd7, hf7⟩; have HC7 := Lib.hid (HRI.out.did ⟨ce, A', rfl, hS7, hd7, hf7⟩); clear hS7 hd7 hf7)
              | ((go_at_call 11; with_reducible refine (no_any _ _).mono ?_); rintro e w9 ⟨rfl, rfl⟩)
              | go_in)
            go_meet
            exact HC7.out
          by_cases h4 : kind = 4
          · subst h4
            go_wp2_with (first
              | ((go_at_call 28; with_reducible refine (HRI.out.sto.rename (by omega) name dst HNA1.out.1 HNA1.out.2).mono ?_); rintro e w7 ⟨ce, A', rfl, hS7, hd7, hf7⟩; have HC7 := Lib.hid (HRI.out.did ⟨ce, A', rfl, hS7, hd7, hf7⟩); clear hS7 hd7 hf7)
              | ((go_at_call 11; with_reducible refine (no_any _ _).mono ?_); rintro e w9 ⟨rfl, rfl⟩)
              | go_in)
            go_meet
            exact HC7.out
          by_cases h5 : kind = 5
          · subst h5
            go_wp2_with (first
              | ((go_at_call 29; with_reducible refine (HRI.out.sto.remove (by omega) name HNA1.out.1).mono ?_); rintro e w7 ⟨ce, A', rfl, hS7, hd7, hf7⟩; have HC7 := Lib.hid (HRI.out.did ⟨ce, A', rfl, hS7, hd7, hf7⟩); clear hS7 hd7 hf7)
              | ((go_at_call 11; with_reducible refine (no_any _ _).mono ?_); rintro e w9 ⟨rfl, rfl⟩)
              | go_in)
            go_meet
            exact HC7.out
          by_cases h6 : kind = 6
          · subst h6
            go_wp2_with (first
              | ((go_at_call 18; with_reducible refine (HRI.out.sto.sync (by omega)).mono ?_); rintro e w7 ⟨ce, A', rfl, hS7, hd7, hf7⟩; have HC7 := Lib.hid (HRI.out.did ⟨ce, A', rfl, hS7, hd7, hf7⟩); clear hS7 hd7 hf7)
              | ((go_at_call 11; with_reducible refine (no_any _ _).mono ?_); rintro e w9 ⟨rfl, rfl⟩)
              | go_in)
            go_meet
            exact HC7.out
          have n0 : (kind == 0) = false := by rw [beq_eq_false_iff_ne]; exact h0
          have n1 : (kind == 1) = false := by rw [beq_eq_false_iff_ne]; exact h1
          have n2 : (kind == 2) = false := by rw [beq_eq_false_iff_ne]; exact h2
          have n3 : (kind == 3) = false := by rw [beq_eq_false_iff_ne]; exact h3
          have n4 : (kind == 4) = false := by rw [beq_eq_false_iff_ne]; exact h4
          have n5 : (kind == 5) = false := by rw [beq_eq_false_iff_ne]; exact h5
          have n6 : (kind == 6) = false := by rw [beq_eq_false_iff_ne]; exact h6
          clear h0 h1 h2 h3 h4 h5 h6
          go_wp2_with fail
          go_meet
          exact HRI.out.none
        case rest =>
          clear HRI y0 y1 y2 y3 y4 y5 y6 y7
          obtain ⟨ce, A', rfl, hS, hd, hnr, hwr, hbl⟩ := hcut
          have hwl : (nl.map (fun s => textV (rdL A s))).length = q := by rw [List.length_map, ← HNL.out]
          obtain ⟨uo, uc, hu, _⟩ := own_sl hwr
          rw [hwl] at hu
          subst hu
          have HBL := Lib.hid hbl
          have HS := Lib.hid hS
          have HNR := Lib.hid hnr
          have HWS := Lib.hid hwr
          have HWL := Lib.hid hwl
          by_cases h0 : ce = 0
          · subst h0
            clear hd hS hnr hwr hbl hwl
            go_wp2_with (first
              | ((go_at_call 12; with_reducible refine (alive_ok _).mono ?_); rintro e w5 ⟨rfl, hb5⟩)
              | go_in)
            go_ret
            exact ⟨rfl, HBL.out.trans (hb5.mono HBL.out.size)⟩
          have m0 : (ce == 0) = false := by rw [beq_eq_false_iff_ne]; exact h0
          have hd := hd h0
          cases hoff : A'.off with
          | true =>
            clear hd hS hnr hwr hbl hwl h0
            go_wp2_with (first
              | ((go_at_call 21; with_reducible refine (HS.out.offs).mono ?_); rintro e w5 ⟨rfl, rfl⟩)
              | ((go_at_call 12; with_reducible refine (alive_ok _).mono ?_); rintro e w5 ⟨rfl, hb5⟩)
              | go_in)
            go_ret
            exact ⟨rfl, HBL.out.trans (hb5.mono HBL.out.size)⟩
          | false =>
            obtain ⟨hused, hdir, hrl⟩ := same_of hd hoff
            have HUS := Lib.hid hused
            have HDI := Lib.hid hdir
            have HRL := Lib.hid hrl
            clear hd hS hnr hwr hbl hwl h0 hused hdir hrl
            go_upto_region 33 with (first
              | ((go_at_call 21; with_reducible refine (HS.out.offs).mono ?_); rintro e w5 ⟨rfl, rfl⟩)
              | ((go_at_call 22; with_reducible refine (HS.out.names (by omega)).mono ?_); rintro e w6 ⟨nv2, nl2, rfl, hnm2⟩
                 have e2 := (hnm2.one HNM.out HDI.out).symm
                 subst e2
                 have HS6 := Lib.hid (HS.out.below hnm2.lists.choose_spec.2.below)
                 have HB6 := Lib.hid hnm2.lists.choose_spec.2.below
                 have HTX := Lib.hid (texts_same hnm2.row (HNR.out.below hnm2.lists.choose_spec.2.below) (by have := hnm2.few; omega))
                 clear hnm2)
              | ((go_at_call 23; with_reducible refine (HTX.out).mono ?_); rintro e w7 ⟨rfl, hb7⟩)
              | ((go_at_call 24; with_reducible refine ((HS6.out.below hb7).used).mono ?_); rintro e w8 ⟨rfl, rfl⟩; rw [HUS.out])
              | go_in)
            have HS7 := Lib.hid (HS6.out.below hb7)
            have HN7 := Lib.hid ((HNR.out.below HB6.out).below hb7)
            have HW7 := Lib.hid ((HWS.out.below HB6.out).below hb7)
            have HB7 := Lib.hid ((HBL.out.trans (HB6.out.mono HBL.out.size)).trans (hb7.mono (HBL.out.trans (HB6.out.mono HBL.out.size)).size))
            clear hb7 HTX
            go_loopw [125] (fun i wr => ∃ p : Nat, i = .int .i64 p ∧ p ≤ q ∧ RowKit.Hid (Below w7.heap.size w7 wr)) (fun i _ => q - (intOf i).toNat)
            case atStart => exact ⟨0, rfl, Nat.zero_le _, Lib.hid (Below.refl _ _)⟩
            case round =>
              obtain ⟨p, rfl, hp, HBR⟩ := hrel
              by_cases hlt : p < q
              · obtain ⟨s, hs⟩ : ∃ s, nl[p]? = some s := ⟨_, List.getElem?_eq_getElem (by rw [← HNL.out]; exact hlt)⟩
                have hrow1 := HN7.out.below HBR.out
                rw [HNL.out] at hrow1
                obtain ⟨g1, rfl, x1⟩ := tx_at hrow1 hs
                have hrow2 := HW7.out.below HBR.out
                rw [← HWL.out] at hrow2
                obtain ⟨g2, rfl, x2⟩ := tx_at (s := textV (rdL A s)) hrow2 (by rw [List.getElem?_map, hs]; rfl)
                have hsz : s.size ≤ maxLen := by have := (HNP.out s (List.mem_of_getElem? hs)).2.1; unfold maxLen; omega
                have HRD := Lib.hid ((HS7.out.below HBR.out).read s hsz)
                have HRS := Lib.hid (HRL.out s)
                clear hsz hs hrow1 hrow2
                go_upto_region 36 with (first
                  | ((go_at_call 19; with_reducible refine (HRD.out).mono ?_); rintro e w9 ⟨v, c2, rfl, hrd⟩
                     have hrr := hrd.row
                     have hone := hrd.one
                     rw [HRS.out] at hrr hone
                     obtain ⟨bo, bc, rfl, _⟩ := own_sl hrr.own
                     have HRR := Lib.hid hrr
                     have HON := Lib.hid hone
                     have x2b := cell_over x2 hrr.below
                     clear hrd hrr hone x2)
                  | go_in)
                clear x1
                refine Inv.regionP (by kernel_rfl) ?_
                refine Inv.start0 ?_ (by kernel_rfl)
                refine Inv.regionT [0, 1, 2, 3, 4, 5] [] 6 [] [some 136, some 137, some 138, some 139, some 140, some 141, some 142] [[], [0], [], [], [2, 3], [4]] (by kernel_rfl) (by kernel_rfl) (by kernel_rfl) (by kernel_rfl) (by kernel_rfl) [Inv.MP.is (.slice bo (rdL A s).length bc), Inv.MP.is (.string (textV (rdL A s))), Inv.MP.is (.slice (some ⟨g2, 0, none⟩) q uc), Inv.MP.is (.int .i64 (p : Nat)), Inv.MP.is (.pointer (some ⟨g2, p, none⟩)), Inv.MP.is (.string (textV (rdL A s)))] [] (by intro x hx; cases hx) _ (by kernel_rfl) ⟨?_, ?_, ?_, ?_, ?_, ?_, trivial⟩ (fun vs wq hbq hv htie => ?_)
                · intro vs w' hb hv K hK
                  clear hv
                  have hK2 := hK.out
                  clear hK
                  simp only [Inv.putD, Inv.dst, List.foldl_cons, List.foldl_nil, List.getD_cons_zero, List.getD_cons_succ, Act.put, List.setIfInBounds_toArray, List.set_cons_zero, List.set_cons_succ, List.filterMap_cons, List.filterMap_nil, List.getElem?_toArray, List.getElem?_cons_zero, List.getElem?_cons_succ, List.getElem_toArray, List.getElem_cons_zero, List.getElem_cons_succ] at hK2 ⊢
                  have hK := Lib.hid hK2
                  clear hK2
                  simp only [Region.wanted, Inv.yieldedD, Inv.dst, List.getD_cons_zero, List.getD_cons_succ]
                  go_simp
                  refine hK.out _ _ (Eq.refl _) (Below.refl _ _) (Inv.noTies _ _ _ _ _)
                · intro vs w' hb hv K hK
                  have h0 : (Inv.MP.is (.slice bo (rdL A s).length bc)).p (vs 0) w' := hv 0 (by simp)
                  clear hv
                  have hK2 := hK.out
                  clear hK
                  simp only [Inv.putD, Inv.dst, List.foldl_cons, List.foldl_nil, List.getD_cons_zero, List.getD_cons_succ, Act.put, List.setIfInBounds_toArray, List.set_cons_zero, List.set_cons_succ, List.filterMap_cons, List.filterMap_nil, List.getElem?_toArray, List.getElem?_cons_zero, List.getElem?_cons_succ, List.getElem_toArray, List.getElem_cons_zero, List.getElem_cons_succ] at hK2 ⊢
                  have hK := Lib.hid hK2
                  clear hK2
                  generalize vs 0 = y0 at *
                  have h0 : y0 = _ := h0
                  subst h0
                  have hcv := text_row (own_kept HRR.out.own fun g x hg hx => hb_below hx hb (hb_lt hx)) HON.out
                  simp only [Region.wanted, Inv.yieldedD, Inv.dst, List.getD_cons_zero, List.getD_cons_succ]
                  go_simp
                  refine hK.out _ _ (Eq.refl _) (Below.refl _ _) (Inv.noTies _ _ _ _ _)
                · intro vs w' hb hv K hK
                  clear hv
                  have hK2 := hK.out
                  clear hK
                  simp only [Inv.putD, Inv.dst, List.foldl_cons, List.foldl_nil, List.getD_cons_zero, List.getD_cons_succ, Act.put, List.setIfInBounds_toArray, List.set_cons_zero, List.set_cons_succ, List.filterMap_cons, List.filterMap_nil, List.getElem?_toArray, List.getElem?_cons_zero, List.getElem?_cons_succ, List.getElem_toArray, List.getElem_cons_zero, List.getElem_cons_succ] at hK2 ⊢
                  have hK := Lib.hid hK2
                  clear hK2
                  simp only [Region.wanted, Inv.yieldedD, Inv.dst, List.getD_cons_zero, List.getD_cons_succ]
                  go_simp
                  refine hK.out _ _ (Eq.refl _) (Below.refl _ _) (Inv.noTies _ _ _ _ _)
                · intro vs w' hb hv K hK
                  clear hv
                  have hK2 := hK.out
                  clear hK
                  simp only [Inv.putD, Inv.dst, List.foldl_cons, List.foldl_nil, List.getD_cons_zero, List.getD_cons_succ, Act.put, List.setIfInBounds_toArray, List.set_cons_zero, List.set_cons_succ, List.filterMap_cons, List.filterMap_nil, List.getElem?_toArray, List.getElem?_cons_zero, List.getElem?_cons_succ, List.getElem_toArray, List.getElem_cons_zero, List.getElem_cons_succ] at hK2 ⊢
                  have hK := Lib.hid hK2
                  clear hK2
                  simp only [Region.wanted, Inv.yieldedD, Inv.dst, List.getD_cons_zero, List.getD_cons_succ]
                  go_simp
                  refine hK.out _ _ (Eq.refl _) (Below.refl _ _) (Inv.noTies _ _ _ _ _)
                · intro vs w' hb hv K hK
                  have h2 : (Inv.MP.is (.slice (some ⟨g2, 0, none⟩) q uc)).p (vs 2) w' := hv 2 (by simp)
                  have h3 : (Inv.MP.is (.int .i64 (p : Nat))).p (vs 3) w' := hv 3 (by simp)
                  clear hv
                  have hK2 := hK.out
                  clear hK
                  simp only [Inv.putD, Inv.dst, List.foldl_cons, List.foldl_nil, List.getD_cons_zero, List.getD_cons_succ, Act.put, List.setIfInBounds_toArray, List.set_cons_zero, List.set_cons_succ, List.filterMap_cons, List.filterMap_nil, List.getElem?_toArray, List.getElem?_cons_zero, List.getElem?_cons_succ, List.getElem_toArray, List.getElem_cons_zero, List.getElem_cons_succ] at hK2 ⊢
                  have hK := Lib.hid hK2
                  clear hK2
                  generalize vs 2 = y2 at *
                  generalize vs 3 = y3 at *
                  have h2 : y2 = _ := h2
                  subst h2
                  have h3 : y3 = _ := h3
                  subst h3
                  simp only [Region.wanted, Inv.yieldedD, Inv.dst, List.getD_cons_zero, List.getD_cons_succ]
                  go_simp
                  refine hK.out _ _ (Eq.refl _) (Below.refl _ _) (Inv.noTies _ _ _ _ _)
                · intro vs w' hb hv K hK
                  have h4 : (Inv.MP.is (.pointer (some ⟨g2, p, none⟩))).p (vs 4) w' := hv 4 (by simp)
                  clear hv
                  have hK2 := hK.out
                  clear hK
                  simp only [Inv.putD, Inv.dst, List.foldl_cons, List.foldl_nil, List.getD_cons_zero, List.getD_cons_succ, Act.put, List.setIfInBounds_toArray, List.set_cons_zero, List.set_cons_succ, List.filterMap_cons, List.filterMap_nil, List.getElem?_toArray, List.getElem?_cons_zero, List.getElem?_cons_succ, List.getElem_toArray, List.getElem_cons_zero, List.getElem_cons_succ] at hK2 ⊢
                  have hK := Lib.hid hK2
                  clear hK2
                  generalize vs 4 = y4 at *
                  have h4 : y4 = _ := h4
                  subst h4
                  have x2c := cell_over x2b hb
                  simp only [Region.wanted, Inv.yieldedD, Inv.dst, List.getD_cons_zero, List.getD_cons_succ]
                  go_simp
                  refine hK.out _ _ (Eq.refl _) (Below.refl _ _) (Inv.noTies _ _ _ _ _)
                · have h1 : vs 1 = .string (textV (rdL A s)) := hv 1 (by simp)
                  have h5 : vs 5 = .string (textV (rdL A s)) := hv 5 (by simp)
                  clear hv htie
                  simp only [Inv.putD, Inv.dst, List.foldl_cons, List.foldl_nil, List.getD_cons_zero, List.getD_cons_succ, Act.put, List.setIfInBounds_toArray, List.set_cons_zero, List.set_cons_succ, List.filterMap_cons, List.filterMap_nil, List.getElem?_toArray, List.getElem?_cons_zero, List.getElem?_cons_succ, List.getElem_toArray, List.getElem_cons_zero, List.getElem_cons_succ]
                  generalize vs 0 = yy0 at *
                  generalize vs 1 = yy1 at *
                  generalize vs 2 = yy2 at *
                  generalize vs 3 = yy3 at *
                  generalize vs 4 = yy4 at *
                  generalize vs 5 = yy5 at *
                  subst h1 h5
                  have HBQ := Lib.hid ((HBR.out.trans (HRR.out.below.mono HBR.out.size)).trans (hbq.mono (HBR.out.trans (HRR.out.below.mono HBR.out.size)).size))
                  clear hbq x2b
                  go_wp2
                  exact ⟨⟨p + 1, by go_num, by omega, HBQ⟩, by simp [intOf]; omega⟩
              · obtain rfl : p = q := by omega
                go_wp2_with (first
                  | ((go_at_call 12; with_reducible refine (alive_ok _).mono ?_); rintro e w5 ⟨rfl, hb5⟩)
                  | go_in)
                go_ret
                have hbx := HB7.out.trans (HBR.out.mono HB7.out.size)
                exact ⟨rfl, hbx.trans (hb5.mono hbx.size)⟩
end Go.Proofs.Ytmfphnhdahaooaa
