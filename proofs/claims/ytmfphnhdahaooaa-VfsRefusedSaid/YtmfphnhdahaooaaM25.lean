/- The texts He, Ka, Kb, one behind the other. -/
import Derived.Test.YtmfphnhdahaooaaM24
import Derived.Test.YtmfphnhdahaooaaM10
import Derived.Test.YtmfphnhdahaooaaM12
set_option linter.unusedSimpArgs false
set_option linter.unusedVariables false
/- Crash of any store. -/
namespace Go.Proofs.Ytmfphnhdahaooaa
open Go.RowKit Go.Maps


theorem Walked.none_at {gt : ByteArray → Option Sv} {gd : ByteArray → Option Nat} {file : Nat → Option Fil} {left : Lit → Bool} {A' : Fs} (h : Walked gt gd file left A') {s : ByteArray} {X : Nat} (hX : gd s = some X) (hl : left (.string s.data.toList) = true) : A'.dir s = none := by
  have h1 := h s
  rw [hX] at h1
  dsimp only at h1
  rw [if_pos hl] at h1
  exact h1
structure Crashed (gt : ByteArray → Option Sv) (gd : ByteArray → Option Nat) (A : Fs) (left : Lit → Bool) (A' : Fs) (j : Nat) : Prop where
  walked : Walked gt gd A.file left A'
  turns : A'.turns = []
  cap : A'.cap = A.cap
  rest : A'.fail = -1 ∧ A'.pow = -1 ∧ A'.off = false
  used : 0 ≤ A'.used ∧ A'.used ≤ 2048 * (j : Int)
  sum : SumD A'.used A'.dir A'.file

def CrashR (nb : Nat) (fl : List Sv) (gt : ByteArray → Option Sv) (gd : ByteArray → Option Nat) (A : Fs) (C r : Nat) (D : DataW Unit) (w2 wr : World) (left : Lit → Bool) (cnt j : Nat) (A' : Fs) : Prop :=
  wr.ranges Try.prog 9 ptrR C r nb D left cnt ∧ (∀ kl, left kl = true → Maps.has D kl = true) ∧ Raw wr w2.heap.size (w2.heap.size + 2) A' w2.heap.size (w2.heap.size + 1) j 0 (.slice none 0 0) ∧ Crashed gt gd A left A' j ∧ j + cnt ≤ nb ∧ Below w2.heap.size w2 wr

def CrashP (nb : Nat) (gt : ByteArray → Option Sv) (gd : ByteArray → Option Nat) (A : Fs) (w : World) (e : Ending) (w' : World) : Prop :=
  ∃ B2 F2 N2 L2 j A', e = .returned (.pointer (some ⟨F2, 0, none⟩)) ∧ w.heap.size ≤ B2 ∧ Raw w' B2 F2 A' N2 L2 j j (.slice none 0 0) ∧ j ≤ nb ∧ Crashed gt gd A (fun _ => false) A' j ∧ A'.last = A'.dir ∧ Below w.heap.size w w'

set_option maxRecDepth 100000 in
set_option maxHeartbeats 8000000 in
theorem crash_any {w : World} {B F N L n m c fc : Nat} {A : Fs} {tv : Value} {ao fo : Option Addr} {zs : List Int} {fl : List Sv} (h : Raw w B F A N L n m tv) (hm : m + A.turns.length ≤ 1000) (hz : RowI w ao zs) (hzl : zs.length ≤ 10000) (hf : RowS w fo fl) (hfl : fl.length ≤ 1000) :
    Calls Try.prog 20 #[.pointer (some ⟨F, 0, none⟩), .slice ao zs.length c, .slice fo fl.length fc] w (CrashP (m + A.turns.length) (firstOf fl) (dirTo (fun i => decide ((i : Int) ∈ zs)) A.turns A.turns.length A.last) A w) := by
  obtain ⟨gd, hgd⟩ : ∃ gd, gd = dirTo (fun i => decide ((i : Int) ∈ zs)) A.turns A.turns.length A.last := ⟨_, rfl⟩
  have hgn : ∀ s X, gd s = some X → NameP s ∧ (A.file X).isSome = true := by
    rw [hgd]
    exact dirTo_names h.lastd h.turn _
  rw [← hgd]
  have c0 := h.cells.c0
  obtain ⟨nb, hnb⟩ : ∃ nb, nb = m + A.turns.length := ⟨_, rfl⟩
  rw [← hnb] at hm ⊢
  have HNB := Lib.hid hnb
  clear hnb
  have H := Lib.hid h
  have HM := Lib.hid hm
  have HZ := Lib.hid hz
  have HF := Lib.hid hf
  have HGD := Lib.hid hgd
  have HGN := Lib.hid hgn
  obtain ⟨len, hlen⟩ : ∃ len, len = zs.length := ⟨_, rfl⟩
  obtain ⟨fn, hfn⟩ : ∃ fn, fn = fl.length := ⟨_, rfl⟩
  rw [← hlen] at hzl ⊢
  rw [← hfn] at hfl ⊢
  have HLEN := Lib.hid hlen
  have HFN := Lib.hid hfn
  clear h hm hz hf hgd hgn hlen hfn
  go_enter Try.func20, Try.ntmps20
  go_upto_region 3 with (first
    | ((go_at_call 46; with_reducible refine (H.out.made).mono ?_); rintro e w' ⟨rfl, rfl⟩)
    | go_in)
  go_upto_region 4 with (first
    | (go_at_call 49; refine (by rw [HFN.out]; exact firsts_any HF.out (by rw [← HFN.out]; omega) : Calls Try.prog 49 #[.slice fo fn fc] w (TellP fl w)).mono ?_; rintro e w1 ⟨M1, rfl, hM1, hT1, hB1⟩)
    | go_in)
  have H1 := Lib.hid (H.out.kept fun b x hx => hb_below hx hB1 (hb_lt hx))
  have HT1 := Lib.hid hT1
  have HZ1 := Lib.hid (HZ.out.below hB1 (Nat.le_refl _))
  have HFX : Hid (∀ x ∈ fl, RowI w1 x.ao x.zs ∧ x.zs.length ≤ manyZ) := Lib.hid fun x hx => by
    obtain ⟨i, hi⟩ := List.getElem?_of_mem hx
    have := HF.out i x hi
    exact ⟨this.2.1.below hB1 (Nat.le_refl _), this.2.2.1⟩
  have HB1 := Lib.hid hB1
  have HM1 := Lib.hid hM1
  clear hB1 hM1 hT1
  go_upto_region 5 with (first
    | (go_at_call 50; refine (kept_any HT1.out (by rw [← HFN.out]; exact hfl) HFX.out).mono ?_; rintro e w2 ⟨M2, n2, rfl, hM2, hK2, hB2⟩)
    | go_in)
  have H2 := Lib.hid (H1.out.kept fun b x hx => hb_below hx hB2 (hb_lt hx))
  have HT2 := Lib.hid (HT1.out.kept fun x hx => hb_below hx hB2 (hb_lt hx))
  have HZ2 := Lib.hid (HZ1.out.below hB2 (Nat.le_refl _))
  have HK2 := Lib.hid hK2
  have HB2 := Lib.hid (HB1.out.trans (hB2.mono HB1.out.size))
  have c2 : w2.cell? ⟨F, 0, none⟩ = some (.int .i64 (A.cap : Nat)) := H2.out.cells.c0
  clear hB2 hM2 hK2 H1 HT1 HZ1 HFX c0
  go_upto_region 6 with (first
    | (go_at_call 32; refine (empty_ok A.cap _).mono ?_; rintro e w3 ⟨rfl, h3⟩)
    | go_in)
  have hcap := H2.out.caps
  have HN3 := Lib.hid (new_raw h3 hcap.1 hcap.2)
  have HB3 := Lib.hid h3.below
  have H3 := Lib.hid (H2.out.kept fun b x hx => hb_below hx h3.below (hb_lt hx))
  have HZ3 := Lib.hid (HZ2.out.below h3.below (Nat.le_refl _))
  clear h3 hcap HZ2 c2
  go_upto_region 7 with (first
    | (go_at_call 51; refine (by rw [HLEN.out, HGD.out, HNB.out]; exact dir_any H3.out (by rw [← HNB.out]; exact HM.out) HZ3.out (by rw [← HLEN.out]; exact hzl) : Calls Try.prog 51 #[.pointer (some ⟨F, 0, none⟩), .slice ao len c] w3 (DirP nb gd w3)).mono ?_; rintro e w4 ⟨C, rfl, hC, hD4, hB4⟩
       obtain ⟨D, hD, hgD⟩ := hD4
       have HD := Lib.hid hD
       have HGG := Lib.hid hgD
       have hszD := size_nm hD
       have HB4 := Lib.hid hB4
       have HC := Lib.hid hC
       clear hD hgD hB4 hC)
    | (at_range; refine wpList_range_own _ rfl _ 79 rfl 9 78 K9 Try.underlying79 ptrR C nb D rfl HD.out ?_; intro w5 hrg5 hg5 hs5)
    | go_in)
  go_frame
  have HR5 := Lib.hid hrg5
  have HG5 := Lib.hid hg5
  have q3 := HB3.out.size
  have q4 := HB4.out.size
  have HBW : Hid (Below w2.heap.size w2 w5) := ((HB3.out.trans (HB4.out.mono q3))).grown hg5 (by omega) (fun j hj => by cases hj)
  have HN5 : Hid (Raw w5 w2.heap.size (w2.heap.size + 2) (newA A.cap) w2.heap.size (w2.heap.size + 1) 0 0 (.slice none 0 0)) := HN3.out.kept fun b x hx => hb_grown (hb_below hx HB4.out (hb_lt hx)) hg5 (by simp)
  have hCN : w2.heap.size + 3 ≤ C := by have := HC.out; have := hb_lt HN3.out.store; omega
  have hCl : C < w4.heap.size := HD.out.lt
  clear hrg5 hg5 HN3 H3 HZ3 HB3
  go_loopw [31] (fun _ wr => ∃ left cnt j A', Hid (CrashR nb fl (firstOf fl) gd A C w4.heap.size D w2 wr left cnt j A')) (fun _ wr => wr.rangeLeft C w4.heap.size)
  case atStart =>
    refine ⟨_, _, 0, newA A.cap, Lib.hid ⟨HR5.out, fun _ h => h, HN5.out, ⟨Walked.start (fun _ => rfl) fun s X hX => ?_, rfl, rfl, ⟨rfl, rfl, rfl⟩, ⟨Int.le_refl _, Int.le_refl _⟩, SumD.nil _⟩, by omega, HBW.out⟩⟩
    have h := HGG.out s
    rw [hX] at h
    exact h.1
  case round =>
    clear HR5 HN5 HBW
    obtain ⟨left, cnt, j, A', HR⟩ := hrel
    have HRG := Lib.hid HR.out.1
    have HLS := Lib.hid HR.out.2.1
    have HN := Lib.hid HR.out.2.2.1
    have HCR := Lib.hid HR.out.2.2.2.1
    have hjc := HR.out.2.2.2.2.1
    have HB := Lib.hid HR.out.2.2.2.2.2
    clear HR
    have e2 : wr.cell? ⟨w2.heap.size + 2, 2, none⟩ = some (.map (some w2.heap.size)) := HN.out.cells.c2
    have e3 : wr.cell? ⟨w2.heap.size + 2, 3, none⟩ = some (.map (some (w2.heap.size + 1))) := HN.out.cells.c3
    go_upto_region 8 with (first
      | (at_next; refine wpList_next_ranges _ rfl _ rfl 9 K9 ptrR Value.string Value.pointer (fun key kl h => str_form h) (fun v y h => ptr_form h) C w4.heap.size nb D left cnt rfl HRG.out ?_ ?_)
      | go_in)
    · intro hc0 hl0
      have HL0 := Lib.hid hl0
      clear hl0
      go_upto_region 15 with fail
      go_wp2_with (first
        | (go_at_call 54; refine (mclone_nm (HN.out.names.same rfl)).mono ?_; rintro e w7 ⟨rfl, hm7, hb7, hs7⟩
           have hF7 := hb_below HN.out.store hb7 (hb_lt HN.out.store)
           have f3 : w7.frozen? ⟨w2.heap.size + 2, 3, none⟩ = false := hb_free hF7 3
           have d3 : w7.cell? ⟨w2.heap.size + 2, 3, none⟩ = some (.map (some (w2.heap.size + 1))) := hb_at hF7 3 rfl
           have HF7 := Lib.hid hF7
           have HM7 := Lib.hid hm7
           have HB7 := Lib.hid hb7
           clear hF7 hm7 hb7)
        | go_in)
      go_ret
      obtain rfl : left = fun _ => false := funext HL0.out
      have hl0 := hb_lt HN.out.store
      have hr7 := HN.out.kept fun b x hx => hb_below hx HB7.out (hb_lt hx)
      have hb7 := HB7.out.size
      have q5 := HB2.out.size
      have q6 := HB.out.size
      have hcr := HCR.out
      exact ⟨w2.heap.size, w2.heap.size + 2, w2.heap.size, wr.heap.size, j, { A' with last := A'.dir }, rfl, HB2.out.size,
        hr7.lasting (grown_at w7 (w2.heap.size + 2) 3 _) (hb_set_same HF7.out 3 _) (HM7.out.kept fun x hx => hb_set_other hx _ (by simp; omega)) (by omega) (by omega) HN.out.dirs, by omega,
        ⟨hcr.walked, hcr.turns, hcr.cap, hcr.rest, hcr.used, hcr.sum⟩, rfl, ((HB2.out.trans (HB.out.mono HB2.out.size)).trans (HB7.out.mono (by omega))).grown (grown_at w7 (w2.heap.size + 2) 3 _) (by omega) (fun k hk => by cases hk; have := HB2.out.size; omega)⟩
    · intro s p kl yd yp w6 cnt1 hkey hlk hv hat hrg6 hlt hg6 hs6 hen
      obtain ⟨hss, rfl⟩ := str_key hkey
      obtain ⟨X, hX, hpX⟩ := nm_entry HGG.out (HLS.out _ hlk) (y := (yd, yp)) hv hat
      rw [hpX] at hen ⊢
      obtain ⟨hsn, hsome⟩ := HGN.out s X hX
      obtain ⟨f, hf⟩ := Option.isSome_iff_exists.1 hsome
      have hwr := HB.out.size
      have hlt0 : cnt1 < wr.rangeLeft C w4.heap.size := by rw [HRG.out.left_eq]; exact hlt
      have HN6 := Lib.hid (HN.out.ranged HRG.out hg6)
      have HB6 : Hid (Below w2.heap.size w2 w6) := below_grown HB.out hg6 hwr (by omega)
      have HR6 := Lib.hid hrg6
      have hO6 := H2.out.kept fun b x hx => hb_below hx HB6.out (hb_lt hx)
      have HX6 := Lib.hid (hO6.files X f hf)
      have HT6 := Lib.hid (HT2.out.kept fun x hx => hb_below hx HB6.out (hb_lt hx))
      have HK6 := Lib.hid (HK2.out.kept fun x hx => hb_below hx HB6.out (hb_lt hx))
      obtain ⟨lo, lc, hlv, hlc⟩ := own_sl HX6.out.lasts
      have x1 : w6.cell? ⟨X, 1, none⟩ = some (.slice lo f.ls.length lc) := by rw [← hlv]; exact hb_at HX6.out.block 1 rfl
      have HDN := Lib.hid (HCR.out.walked.none_at hX hlk)
      have HX := Lib.hid hX
      have HSN := Lib.hid hsn
      have HSS := Lib.hid hss
      have HFF := Lib.hid hf
      have HLV := Lib.hid hlv
      have HLT := Lib.hid hlt
      have HLT0 := Lib.hid hlt0
      clear hkey hlk hv hat hrg6 hg6 hsome hss hsn hX hf hlv hO6 hlt hlt0 HN HB HRG hpX
      obtain ⟨l, hl⟩ : ∃ l, l = leaveL (firstOf fl) s f := ⟨_, rfl⟩
      have HLL := Lib.hid hl
      cases hgt : firstOf fl s with
      | none =>
        have HGT := Lib.hid hgt
        clear hgt
        have hle : l = f.ls := by rw [hl]; unfold leaveL; rw [HGT.out]
        go_upto_region 13 with (first
          | (at_lookup; refine wpList_tm_look _ rfl _ _ rfl rfl HT6.out s rfl HSS.out none HGT.out (.tuple #[.agg #[.string ⟨#[]⟩, .slice none 0 0, .bool false], .bool false]) rfl ?_)
          | go_in)
        have hl20 : l.length ≤ 1048576 := by rw [hl]; exact leave_len HX6.out.small
        have hon : OneB l := by rw [hl]; exact leave_one HX6.out.bytes
        rw [← hle]
        obtain ⟨wv, hwv⟩ : ∃ wv, wv = w6.alloc (.cells #[.string ⟨#[]⟩, .slice none 0 0, .bool false] 58) := ⟨_, rfl⟩
        have hv6 : wv.ownsRow 0 5 1 (.slice lo l.length lc) l.length l := by
          rw [hwv, hle, ← HLV.out]
          exact (own_base HX6.out.lasts (Nat.zero_le _)).alloc _
        have HNv : Hid (Raw wv w2.heap.size (w2.heap.size + 2) A' w2.heap.size (w2.heap.size + 1) j 0 (.slice none 0 0)) := by rw [hwv]; exact HN6.out.kept fun b x hx => hb_alloc hx _
        have HRv : Hid (wv.ranges Try.prog 9 ptrR C w4.heap.size nb D (fun z => left z && !z.sameKey (.string s.data.toList)) cnt1) := by rw [hwv]; exact HR6.out.alloc _
        have HBv : Hid (Below w2.heap.size w2 wv) := by rw [hwv]; exact HB6.out.alloc HB6.out.size _
        have HV := Lib.hid hv6
        have HL20 := Lib.hid hl20
        have HON := Lib.hid hon
        rw [← hwv]
        clear hv6 hl20 hon hle hl hwv x1 hen e2 e3
        have e2 : wv.cell? ⟨w2.heap.size + 2, 2, none⟩ = some (.map (some w2.heap.size)) := HNv.out.cells.c2
        have hcell : ∀ u ∈ l, u.oneCell' = true := HON.out.cells
        have HCE := Lib.hid hcell
        have hj1 : j < maxLen := by have := HM.out; unfold maxLen; omega
        clear hcell
        go_cut [53] (fun _ wx => BoxC w2.heap.size A' s l j wv wx)
        case first =>
          go_region_with (first
            | (go_at_call 45; refine (bclone_sl _ l w7 HO7.out HL20.out HCE.out).mono ?_; rintro e w8 ⟨g2, d2, rfl, h8⟩
               have HN8 := Lib.hid (HN7.out.kept fun b x hx => hb_below hx h8.below (hb_lt hx))
               have HW8 := Lib.hid h8
               have e8 : w8.cell? ⟨w2.heap.size + 2, 2, none⟩ = some (.map (some w2.heap.size)) := HN8.out.cells.c2
               have e8a : ∀ o, (w8.alloc o).cell? ⟨w2.heap.size + 2, 2, none⟩ = some (.map (some w2.heap.size)) := fun o => hb_at (hb_alloc HN8.out.store o) 2 rfl
               obtain ⟨w9, hu, hN9, hU9⟩ := (HN8.out.names.kept fun x hx => hb_alloc hx (.cells #[.slice g1 l.length d1, .slice g2 l.length d2] 85)).put hj1 s HSN.out.small w8.heap.size
               have HN9 := Lib.hid hN9
               have HU9 := Lib.hid hU9
               clear h8 hN9 hU9)
            | (go_at_call 45; refine (bclone_sl _ l wv.drew HV.out HL20.out HCE.out).mono ?_; rintro e w7 ⟨g1, d1, rfl, h7⟩
               have HO7 := Lib.hid (own_kept (w' := w7) HV.out (fun g x hg hx => hb_below (w := wv.drew) hx h7.below (hb_lt hx)))
               have HN7 := Lib.hid (HNv.out.kept (w' := w7) fun b x hx => hb_below (w := wv.drew) hx h7.below (hb_lt hx))
               have HW7 := Lib.hid h7
               have e7 : w7.cell? ⟨w2.heap.size + 2, 2, none⟩ = some (.map (some w2.heap.size)) := HN7.out.cells.c2
               clear h7))
          all_goals (go_wp2_with fail; go_meet; exact box_mk HNv.out HCR.out.turns HSN.out HL20.out HON.out HW7.out HW8.out HN9.out HU9.out)
        case rest =>
          obtain ⟨X2, f2, hNb, hfx, hfl2, hno, hgb⟩ := hcut
          clear e2
          have HNc := Lib.hid hNb
          have HRc := Lib.hid (HRv.out.kept hgb (by simp; omega) (by simp; omega))
          have HBc : Hid (Below w2.heap.size w2 wc) := below_grown HBv.out hgb HBv.out.size (Nat.le_refl _)
          have HWK := Lib.hid (HCR.out.walked.step HX.out HFF.out (hfx.trans HLL.out) (hfl2.trans HLL.out) hno)
          have hu0 := HCR.out.used
          have HSU := Lib.hid (HCR.out.sum.new (f := f2) HDN.out hno (fun t Y ht => (HNv.out.dirs t Y ht).2) (U := A'.used + (((l.length + 511) / 512 : Nat) : Int)) (by rw [hfx]; rfl))
          have hnb1 := HM.out
          have hl2 := HL20.out
          clear hNb hgb hfx hfl2 hno
          have e1 : wc.cell? ⟨w2.heap.size + 2, 1, none⟩ = some (.int .i64 A'.used) := HNc.out.cells.c1
          have f1 : wc.frozen? ⟨w2.heap.size + 2, 1, none⟩ = false := hb_free HNc.out.store 1
          have hsl : (l.length + 511) / 512 ≤ 2048 := by omega
          have qw : IntKind.i64.wrap (A'.used + (((l.length + 511) / 512 : Nat) : Int)) = A'.used + (((l.length + 511) / 512 : Nat) : Int) := IntWalk.i64_in _ (by omega)
          go_upto_region 14 with fail
          go_region_with (go_at_call 53; refine (sectors_any l.length (by omega) _).mono ?_; rintro e w' ⟨rfl, rfl⟩)
          all_goals
            go_wp2_with fail
            have e5 : (((l.length + 511) / 512 : Nat) : Int) = ((l.length : Int) + 511) / 512 := by omega
            obtain ⟨hR2, hg2⟩ := used_turned HNc.out (A'.used + (((l.length + 511) / 512 : Nat) : Int)) (IntKind.i64.wrap (A'.used + ((l.length : Int) + 511) / 512)) (by rw [← e5]; exact qw)
            have hrg9 := HRc.out.kept hg2 (by simp; omega) (by simp; omega)
            have hlt9 := HLT.out
            have hbc := HBc.out.size
            refine ⟨⟨_, cnt1, j + 1, _, Lib.hid ⟨hrg9, fun kl h => HLS.out kl (by simp at h; exact h.1), hR2, ⟨HWK.out, HCR.out.turns, HCR.out.cap, HCR.out.rest, ?_, HSU.out⟩, by omega, below_grown HBc.out hg2 hbc (by omega)⟩⟩, ?_⟩
            · show 0 ≤ A'.used + (((l.length + 511) / 512 : Nat) : Int) ∧ A'.used + (((l.length + 511) / 512 : Nat) : Int) ≤ 2048 * (((j + 1 : Nat)) : Int)
              omega
            · rw [hrg9.left_eq]
              exact HLT0.out
      | some sv =>
        have HGT := Lib.hid hgt
        clear hgt
        have hle : l = stage (fun i => keptSet (firstOf fl) s (i : Int)) f.xs f.ls (if sv.long = true then f.xs.length else f.ls.length) (sz (if sv.long = true then f.xs.length else f.ls.length)) := by rw [hl]; unfold leaveL; rw [HGT.out]
        have hl20 : l.length ≤ 1048576 := by rw [hl]; exact leave_len HX6.out.small
        have hon : OneB l := by rw [hl]; exact leave_one HX6.out.bytes
        have hcall : ∀ o, Calls Try.prog 52 #[.pointer (some ⟨X, 0, none⟩), .string s, .bool sv.long, .map (some M2)] (w6.alloc o) (LeftP l (w6.alloc o)) := by
          intro o
          rw [hle]
          exact left_any (HX6.out.kept (fun x hx => hb_alloc hx o) (fun g x _ hx => hb_alloc hx o) (fun g x _ hx => hb_alloc hx o)) (HK6.out.kept fun x hx => hb_alloc hx o) s HSS.out sv.long _ rfl
        have HCALL := Lib.hid hcall
        have HL20 := Lib.hid hl20
        have HON := Lib.hid hon
        clear hcall hl20 hon hle hl
        go_upto_region 13 with (first
          | (at_lookup; refine wpList_tm_look _ rfl _ _ rfl rfl HT6.out s rfl HSS.out (some sv) HGT.out (.tuple #[.agg #[.string sv.name, .slice sv.ao sv.zs.length sv.c, .bool sv.long], .bool true]) rfl ?_)
          | (go_at_call 52; refine (HCALL.out _).mono ?_; rintro e wv ⟨v, rfl, hw⟩; obtain ⟨vo, vc, rfl, _⟩ := own_sl hw.own
             have hvb := hw.below
             have HNv := Lib.hid ((HN6.out.kept fun b x hx => hb_alloc hx _).kept fun b x hx => hb_below hx hvb (hb_lt hx))
             have HRv := Lib.hid ((HR6.out.alloc _).kept (row := none) ⟨hvb.os, hvb.tape, hvb.output, hvb.size, fun i hi _ => hvb.block i hi⟩ (by simp) (by simp))
             have HBv := Lib.hid ((HB6.out.alloc HB6.out.size _).trans (hvb.mono (by rw [size1]; have := HB6.out.size; omega)))
             have HV := Lib.hid (own_base hw.own (Nat.zero_le _))
             clear hvb hw)
          | go_in)
        clear x1 hen e2 e3
        have e2 : wv.cell? ⟨w2.heap.size + 2, 2, none⟩ = some (.map (some w2.heap.size)) := HNv.out.cells.c2
        have hcell : ∀ u ∈ l, u.oneCell' = true := HON.out.cells
        have HCE := Lib.hid hcell
        have hj1 : j < maxLen := by have := HM.out; unfold maxLen; omega
        clear hcell
        go_cut [53] (fun _ wx => BoxC w2.heap.size A' s l j wv wx)
        case first =>
          go_region_with (first
            | (go_at_call 45; refine (bclone_sl _ l w7 HO7.out HL20.out HCE.out).mono ?_; rintro e w8 ⟨g2, d2, rfl, h8⟩
               have HN8 := Lib.hid (HN7.out.kept fun b x hx => hb_below hx h8.below (hb_lt hx))
               have HW8 := Lib.hid h8
               have e8 : w8.cell? ⟨w2.heap.size + 2, 2, none⟩ = some (.map (some w2.heap.size)) := HN8.out.cells.c2
               have e8a : ∀ o, (w8.alloc o).cell? ⟨w2.heap.size + 2, 2, none⟩ = some (.map (some w2.heap.size)) := fun o => hb_at (hb_alloc HN8.out.store o) 2 rfl
               obtain ⟨w9, hu, hN9, hU9⟩ := (HN8.out.names.kept fun x hx => hb_alloc hx (.cells #[.slice g1 l.length d1, .slice g2 l.length d2] 85)).put hj1 s HSN.out.small w8.heap.size
               have HN9 := Lib.hid hN9
               have HU9 := Lib.hid hU9
               clear h8 hN9 hU9)
            | (go_at_call 45; refine (bclone_sl _ l wv.drew HV.out HL20.out HCE.out).mono ?_; rintro e w7 ⟨g1, d1, rfl, h7⟩
               have HO7 := Lib.hid (own_kept (w' := w7) HV.out (fun g x hg hx => hb_below (w := wv.drew) hx h7.below (hb_lt hx)))
               have HN7 := Lib.hid (HNv.out.kept (w' := w7) fun b x hx => hb_below (w := wv.drew) hx h7.below (hb_lt hx))
               have HW7 := Lib.hid h7
               have e7 : w7.cell? ⟨w2.heap.size + 2, 2, none⟩ = some (.map (some w2.heap.size)) := HN7.out.cells.c2
               clear h7))
          all_goals (go_wp2_with fail; go_meet; exact box_mk HNv.out HCR.out.turns HSN.out HL20.out HON.out HW7.out HW8.out HN9.out HU9.out)
        case rest =>
          obtain ⟨X2, f2, hNb, hfx, hfl2, hno, hgb⟩ := hcut
          clear e2
          have HNc := Lib.hid hNb
          have HRc := Lib.hid (HRv.out.kept hgb (by simp; omega) (by simp; omega))
          have HBc : Hid (Below w2.heap.size w2 wc) := below_grown HBv.out hgb HBv.out.size (Nat.le_refl _)
          have HWK := Lib.hid (HCR.out.walked.step HX.out HFF.out (hfx.trans HLL.out) (hfl2.trans HLL.out) hno)
          have hu0 := HCR.out.used
          have HSU := Lib.hid (HCR.out.sum.new (f := f2) HDN.out hno (fun t Y ht => (HNv.out.dirs t Y ht).2) (U := A'.used + (((l.length + 511) / 512 : Nat) : Int)) (by rw [hfx]; rfl))
          have hnb1 := HM.out
          have hl2 := HL20.out
          clear hNb hgb hfx hfl2 hno
          have e1 : wc.cell? ⟨w2.heap.size + 2, 1, none⟩ = some (.int .i64 A'.used) := HNc.out.cells.c1
          have f1 : wc.frozen? ⟨w2.heap.size + 2, 1, none⟩ = false := hb_free HNc.out.store 1
          have hsl : (l.length + 511) / 512 ≤ 2048 := by omega
          have qw : IntKind.i64.wrap (A'.used + (((l.length + 511) / 512 : Nat) : Int)) = A'.used + (((l.length + 511) / 512 : Nat) : Int) := IntWalk.i64_in _ (by omega)
          go_upto_region 14 with fail
          go_region_with (go_at_call 53; refine (sectors_any l.length (by omega) _).mono ?_; rintro e w' ⟨rfl, rfl⟩)
          all_goals
            go_wp2_with fail
            have e5 : (((l.length + 511) / 512 : Nat) : Int) = ((l.length : Int) + 511) / 512 := by omega
            obtain ⟨hR2, hg2⟩ := used_turned HNc.out (A'.used + (((l.length + 511) / 512 : Nat) : Int)) (IntKind.i64.wrap (A'.used + ((l.length : Int) + 511) / 512)) (by rw [← e5]; exact qw)
            have hrg9 := HRc.out.kept hg2 (by simp; omega) (by simp; omega)
            have hlt9 := HLT.out
            have hbc := HBc.out.size
            refine ⟨⟨_, cnt1, j + 1, _, Lib.hid ⟨hrg9, fun kl h => HLS.out kl (by simp at h; exact h.1), hR2, ⟨HWK.out, HCR.out.turns, HCR.out.cap, HCR.out.rest, ?_, HSU.out⟩, by omega, below_grown HBc.out hg2 hbc (by omega)⟩⟩, ?_⟩
            · show 0 ≤ A'.used + (((l.length + 511) / 512 : Nat) : Int) ∧ A'.used + (((l.length + 511) / 512 : Nat) : Int) ≤ 2048 * (((j + 1 : Nat)) : Int)
              omega
            · rw [hrg9.left_eq]
              exact HLT0.out
end Go.Proofs.Ytmfphnhdahaooaa
/- The document's own store: lists of entries. -/
namespace Go.Proofs.Ytmfphnhdahaooaa
open Go.RowKit Go.Maps

structure En where
  name : ByteArray
  f : Nat
def En.cells (e : En) : List Value := [.string e.name, .int .i64 (e.f : Nat)]

/-- A slice that reads as a list of entries. -/
def Ents (w : World) (ao : Option Addr) (es : List En) : Prop := ∀ (i : Nat) (e : En), es[i]? = some e → ∃ b off, ao = some ⟨b, off, none⟩ ∧ w.cell? ⟨b, off + i * 2, none⟩ = some (.string e.name) ∧ w.cell? ⟨b, off + i * 2 + 1, none⟩ = some (.int .i64 (e.f : Nat))

def findE : List En → ByteArray → Int
  | [], _ => -1
  | e :: es, s => if e.name = s then (e.f : Nat) else findE es s

theorem find_drop {es : List En} {q : Nat} {e : En} (h : es[q]? = some e) (s : ByteArray) : findE (es.drop q) s = if e.name = s then ((e.f : Nat) : Int) else findE (es.drop (q + 1)) s := by
  obtain ⟨hl, he⟩ := List.getElem?_eq_some_iff.1 h
  rw [List.drop_eq_getElem_cons hl, he]
  rfl

theorem tl_ne {a b : ByteArray} (h : a ≠ b) : (a.toList == b.toList) = false := by
  rw [beq_eq_false_iff_ne]
  intro e
  rw [ByteArray.toList_eq, ByteArray.toList_eq] at e
  exact h (name_eq e)

set_option maxRecDepth 100000 in
set_option maxHeartbeats 4000000 in
theorem rfind_any {w : World} {ao : Option Addr} {es : List En} {c : Nat} (h : Ents w ao es) (hl : es.length ≤ 100000) (s : ByteArray) :
    Calls Try.prog 61 #[.slice ao es.length c, .string s] w fun e w' => e = .returned (.int .i64 (findE es s)) ∧ w = w' := by
  have H := Lib.hid h
  obtain ⟨len, hlen⟩ : ∃ len, len = es.length := ⟨_, rfl⟩
  obtain ⟨r, hr⟩ : ∃ r, r = findE es s := ⟨_, rfl⟩
  rw [← hlen] at hl ⊢
  rw [← hr]
  have HLEN := Lib.hid hlen
  have HR := Lib.hid hr
  clear h hlen hr
  go_enter Try.func61, Try.ntmps61
  go_upto_region 2 with fail
  go_loopw [5] (fun i wr => ∃ q : Nat, q ≤ len ∧ i = .int .i64 q ∧ Hid (findE (es.drop q) s = r) ∧ w = wr) (fun i _ => len - (intOf i).toNat)
  case atStart => exact ⟨0, Nat.zero_le _, rfl, Lib.hid HR.out.symm, rfl⟩
  case round =>
    obtain ⟨q, hq, rfl, HQ, rfl⟩ := hrel
    by_cases hlt : q < len
    · obtain ⟨e, he⟩ : ∃ e, es[q]? = some e := ⟨_, List.getElem?_eq_getElem (by rw [← HLEN.out]; exact hlt)⟩
      obtain ⟨b, off, rfl, d0, d1⟩ := H.out q e he
      have hfd := find_drop he s
      rw [HQ.out] at hfd
      by_cases hes : e.name = s
      · rw [if_pos hes] at hfd
        have HFD := Lib.hid hfd
        clear hfd he HQ
        subst hes
        go_wp2
        go_ret
        exact ⟨by rw [HFD.out]; rfl, rfl⟩
      · rw [if_neg hes] at hfd
        have HFD := Lib.hid hfd
        have hne : (e.name.toList == s.toList) = false := tl_ne hes
        clear hfd he HQ
        go_wp2
        exact ⟨⟨q + 1, by omega, by go_num, Lib.hid HFD.out.symm, trivial⟩, by simp [intOf]; omega⟩
    · obtain rfl : q = len := by omega
      go_wp2
      go_ret
      have h := HQ.out
      rw [List.drop_eq_nil_of_le (by rw [HLEN.out]; exact Nat.le_refl _)] at h
      exact ⟨by rw [← h]; rfl, rfl⟩
end Go.Proofs.Ytmfphnhdahaooaa
/- The document's own store: Name, step, sectors, in. -/
namespace Go.Proofs.Ytmfphnhdahaooaa
open Go.RowKit Go.Maps

def BoolP (e : Ending) : Prop := ∃ b, e = .returned (.bool b)

set_option maxRecDepth 100000 in
set_option maxHeartbeats 4000000 in
theorem rsectors_any (n : Nat) (hn : n ≤ 4194304) (w : World) : Calls Try.prog 63 #[.int .i64 n] w fun e w' => e = .returned (.int .i64 (((n + 511) / 512 : Nat) : Int)) ∧ w = w' := by
  have h0 : IntKind.i64.wrap ((n : Int) + 511) = (n : Int) + 511 := IntWalk.i64_in _ (by omega)
  go_enter Try.func63, Try.ntmps63
  go_wp2
  go_ret
  have e : (((n + 511) / 512 : Nat) : Int) = ((n : Int) + 511) / 512 := by omega
  rw [e]
  exact ⟨rfl, rfl⟩

set_option maxRecDepth 100000 in
set_option maxHeartbeats 4000000 in
theorem rname_any (s : ByteArray) (hs : s.size ≤ maxLen) (w : World) : Calls Try.prog 60 #[.string s] w fun e w' => BoolP e ∧ w = w' := by
  unfold maxLen at hs
  go_enter Try.func60, Try.ntmps60
  go_upto_region 2 with fail
  go_loopw [3] (fun i wr => ∃ q : Nat, q ≤ s.size ∧ i = .int .i64 q ∧ w = wr) (fun i _ => s.size - (intOf i).toNat)
  case atStart => exact ⟨0, Nat.zero_le _, rfl, rfl⟩
  case round =>
    obtain ⟨q, hq, rfl, rfl⟩ := hrel
    by_cases hlt : q < s.size
    · go_wp2
      all_goals first
        | (go_ret; exact ⟨⟨_, rfl⟩, rfl⟩)
        | exact ⟨⟨q + 1, by omega, by go_num, trivial⟩, by simp [intOf]; omega⟩
        | trace_state
    · go_wp2
      all_goals (go_ret; exact ⟨⟨_, rfl⟩, rfl⟩)

set_option maxRecDepth 100000 in
set_option maxHeartbeats 4000000 in
theorem rin_any {w : World} {ao : Option Addr} {zs : List Int} {c : Nat} (h : RowI w ao zs) (hl : zs.length ≤ maxLen) (z : Int) : Calls Try.prog 65 #[.slice ao zs.length c, .int .i64 z] w fun e w' => BoolP e ∧ w = w' := by
  unfold maxLen at hl
  have H := Lib.hid h
  obtain ⟨len, hlen⟩ : ∃ len, len = zs.length := ⟨_, rfl⟩
  rw [← hlen] at hl ⊢
  have HLEN := Lib.hid hlen
  clear h hlen
  go_enter Try.func65, Try.ntmps65
  go_upto_region 2 with fail
  go_loopw [5] (fun i wr => ∃ q : Nat, q ≤ len ∧ i = .int .i64 q ∧ w = wr) (fun i _ => len - (intOf i).toNat)
  case atStart => exact ⟨0, Nat.zero_le _, rfl, rfl⟩
  case round =>
    obtain ⟨q, hq, rfl, rfl⟩ := hrel
    by_cases hlt : q < len
    · obtain ⟨x, hx⟩ : ∃ x, zs[q]? = some x := ⟨_, List.getElem?_eq_getElem (by rw [← HLEN.out]; exact hlt)⟩
      obtain ⟨_, b, off, rfl, d0⟩ := H.out q x hx
      clear hx
      go_wp2
      all_goals first
        | (go_ret; exact ⟨⟨_, rfl⟩, rfl⟩)
        | exact ⟨⟨q + 1, by omega, by go_num, trivial⟩, by simp [intOf]; omega⟩
        | trace_state
    · go_wp2
      all_goals (go_ret; exact ⟨⟨_, rfl⟩, rfl⟩)
end Go.Proofs.Ytmfphnhdahaooaa
