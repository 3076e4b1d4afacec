/- Free, of the program, at the chapter's example: a function. -/
import Derived.Test.YthcpmdgdbceeiaaGreatDoorTc
namespace Go.Proofs.YthcpmdgdbceeiaaGreatDoor
open Go.RowKit Go.Maps
theorem FreeSt.neF {w : World} {base Bf Bb Bw Mf Mb nf nb : Nat} {fs : ByteArray → Bool} {cs : ByteArray → Int} (h : FreeSt w base Bf Bb Bw Mf Mb nf nb fs cs) {g : Nat} {c : Array Value} {t : TypeId} (hx : w.heap[g]? = some (.cells c t (0, 0))) : g ≠ Mf := fun e => by
  obtain ⟨_, _, hs⟩ := h.set
  obtain ⟨es, cl, hM⟩ := hs.heap
  exact map_ne hM hx (by rw [e])
theorem FreeSt.neB {w : World} {base Bf Bb Bw Mf Mb nf nb : Nat} {fs : ByteArray → Bool} {cs : ByteArray → Int} (h : FreeSt w base Bf Bb Bw Mf Mb nf nb fs cs) {g : Nat} {c : Array Value} {t : TypeId} (hx : w.heap[g]? = some (.cells c t (0, 0))) : g ≠ Mb := fun e => by
  obtain ⟨_, _, hs⟩ := h.count
  obtain ⟨es, cl, hM⟩ := hs.heap
  exact map_ne hM hx (by rw [e])
/-- What is left of a walk whose counts nobody asks for. -/
def FreeE (w0 w : World) (Bf Bb Bw Mf Mb nf : Nat) (fs : ByteArray → Bool) (w' : World) : Prop := ∃ nb cs, FreeSt w' w0.heap.size Bf Bb Bw Mf Mb nf nb fs cs ∧ Below w0.heap.size w0 w' ∧ Kept2 w w' Mf Mb
def FreeQ (w0 w : World) (Bf Bb Bw Mf Mb nf : Nat) (fs : ByteArray → Bool) (e : Ending) (w' : World) : Prop := e = .returned (.tuple #[]) ∧ FreeE w0 w Bf Bb Bw Mf Mb nf fs w'
def upC (cs : ByteArray → Int) (n : ByteArray) (x : Int) : ByteArray → Int := fun t => if t = n then x else cs t
theorem upC_same (cs : ByteArray → Int) (n : ByteArray) (x : Int) : upC cs n x n = x := if_pos rfl
set_option maxRecDepth 100000 in
set_option maxHeartbeats 4000000 in
/-- A function of one name. -/
theorem free_fun (w0 : World) (Bf Bb Bw Mf Mb nb d : Nat) (x : Tm) (n : ByteArray) (hn : n.size ≤ 1000) (q : Option Addr) (c : Nat) (nf nf' : Nat) (fs fs' : ByteArray → Bool) (cs : ByteArray → Int) (w : World) (hk : KidsT w0 d (.slice q 1 c) [x]) (hS : FreeSt w w0.heap.size Bf Bb Bw Mf Mb nf nb fs cs) (hB : Below w0.heap.size w0 w)
    (hc : cs n = 0) (hnb : nb ≤ 1000)
    (hstep : ∀ (v : Value) (W : World), IsT w0 d v x → FreeSt W w0.heap.size Bf Bb Bw Mf Mb nf (nb + 1) fs (upC cs n 1) → Below w0.heap.size w0 W → Calls Tryz.prog 52 #[v, .pointer (some ⟨Bb, 0, none⟩), .pointer (some ⟨Bf, 0, none⟩), .pointer (some ⟨Bw, 0, none⟩)] W (FreeR w0 W Bf Bb Bw Mf Mb nf' (nb + 1) fs' (upC cs n 1))) :
    Calls Tryz.prog 52 #[tv 26 ⟨#[]⟩ n 0 (.slice q 1 c), .pointer (some ⟨Bb, 0, none⟩), .pointer (some ⟨Bf, 0, none⟩), .pointer (some ⟨Bw, 0, none⟩)] w (FreeQ w0 w Bf Bb Bw Mf Mb nf' fs') := by
  obtain ⟨q', c', e, hm, hr⟩ := hk
  cases e
  obtain ⟨b1, o1, k1, p1, n1, N1, s1, hq1, ha1, ht1⟩ := hr 0 x rfl
  subst hq1
  obtain ⟨q3, l3, c3, hs3⟩ := ht1.spell
  subst hs3
  have HA1 := Lib.hid ha1
  have HT1 := Lib.hid ht1
  have HST := Lib.hid hstep
  have hSa := hS.below (below_alloc w (.cells #[.int .i64 26, .string ⟨#[]⟩, .string n, .int .i64 0, .slice (some ⟨b1, o1, none⟩) 1 c] 24))
  have hBa := hB.alloc hB.size (.cells #[.int .i64 26, .string ⟨#[]⟩, .string n, .int .i64 0, .slice (some ⟨b1, o1, none⟩) 1 c] 24)
  have HBX := Lib.hid (fun i W => binds_fun ⟨#[]⟩ n 0 i (some ⟨b1, o1, none⟩) 1 c W)
  have HK := Lib.hid (hb_new w (.cells #[.int .i64 26, .string ⟨#[]⟩, .string n, .int .i64 0, .slice (some ⟨b1, o1, none⟩) 1 c] 24))
  have HSA := Lib.hid hSa
  have HBA := Lib.hid hBa
  have HC0 := Lib.hid hc
  have hlo : w0.heap.size ≤ w.heap.size := hB.size
  clear hr hstep hSa hBa hS hB ha1 ht1 hc
  go_enter Tryz.func52, Tryz.ntmps52
  go_wp2
  generalize hW1 : w.alloc (.cells #[.int .i64 26, .string ⟨#[]⟩, .string n, .int .i64 0, .slice (some ⟨b1, o1, none⟩) 1 c] 24) = W1 at *
  have hz1 : w.heap.size + 1 ≤ W1.heap.size := by rw [← hW1]; simp
  have hk1 : Kept2 w W1 Mf Mb := by rw [← hW1]; exact Kept2.below (below_alloc w _)
  have HK1 := Lib.hid hk1
  clear hW1 hk1
  go_loopw [34] (fun i wr => (i = .int .i64 0 ∧ wr = W1) ∨ (i = .int .i64 1 ∧ FreeE w0 W1 Bf Bb Bw Mf Mb nf' fs' wr)) (fun i _ => 1 - (intOf i).toNat)
  case atStart => exact .inl ⟨rfl, rfl⟩
  case round =>
    rcases hrel with ⟨rfl, rfl⟩ | ⟨rfl, hE⟩
    · have hB := HBA.out
      have hbox := HK.out
      obtain ⟨x0, x1, x2, x3, x4⟩ := HA1.out.below hB HA1.out.lt
      have y0 := hb_at hbox 0 rfl
      have y1 := hb_at hbox 1 rfl
      have y2 := hb_at hbox 2 rfl
      have y3 := hb_at hbox 3 rfl
      have y4 := hb_at hbox 4 rfl
      have hwl := hb_lt hbox
      clear hB hbox
      simp only [Nat.zero_mul, Nat.add_zero] at x0 x1 x2 x3 x4
      obtain ⟨wq, hwq⟩ : ∃ wq, wq = wr := ⟨_, rfl⟩
      subst hwq
      go_wp2_with (go_at_call 54; ((with_reducible refine (HBX.out _ _).mono ?_); rintro e w2 ⟨g, rfl, hg, hgl, hb⟩; have HB2 := Lib.hid hb; have HG := Lib.hid hg; have z2 := hb.size; rw [World.size_alloc] at z2; rw [World.size_alloc] at hgl; clear hb hg))
      have hBq : Below wq.heap.size wq w2 := (below_alloc wq (.cells #[.int .i64 k1, .string p1, .string n1, .int .i64 N1, .slice q3 l3 c3] 24)).trans (HB2.out.mono (by simp))
      have hB02 := HBA.out.trans (hBq.mono HBA.out.size)
      have hS2 := HSA.out.below hBq
      have HS2 := Lib.hid hS2
      have HB02 := Lib.hid hB02
      have HLO := Lib.hid hS2.lo
      have HKQ : RowKit.Hid (Kept2 wq w2 Mf Mb) := Lib.hid (Kept2.below hBq)
      have HKB : RowKit.Hid (w2.heap[wq.heap.size]? = some (.cells #[.int .i64 k1, .string p1, .string n1, .int .i64 N1, .slice q3 l3 c3] 24 (0, 0))) := Lib.hid (hb_below (hb_new wq _) HB2.out (by simp))
      clear hBq hB02 hS2 x0 x1 x2 x3 x4 y0 y1 y2 y3 y4
      go_loopw [51] (fun j wr => (j = .int .i64 0 ∧ wr = w2) ∨ (j = .int .i64 1 ∧ FreeSt wr w0.heap.size Bf Bb Bw Mf Mb nf (nb + 1) fs (upC cs n 1) ∧ Below w0.heap.size w0 wr ∧ Kept2 w2 wr Mf Mb)) (fun j _ => 1 - (intOf j).toNat)
      case atStart => exact .inl ⟨rfl, rfl⟩
      case round =>
        rcases hrel with ⟨rfl, rfl⟩ | ⟨rfl, hS, hB, hK⟩
        · obtain ⟨m, hm2, hcm⟩ := HS2.out.count
          have g0 := hb_at HG.out 0 rfl
          have mb := hb_at HS2.out.bound 0 rfl
          have HCM := Lib.hid hcm
          clear hcm
          go_wp2_with (first
            | (at_lookup; refine wpList_cm_look _ rfl _ _ rfl rfl HCM.out n rfl (by unfold maxLen; omega) 0 HC0.out ?_)
            | (at_mapUpdate; refine wpList_cm_put _ rfl _ _ _ rfl rfl HCM.out (by unfold maxLen; omega) n rfl (by unfold maxLen; omega) 1 (by decide) rfl ?_; intro w3 hcm3 hturn3; have HCM3 := Lib.hid hcm3; have HT3 := Lib.hid hturn3; clear hcm3 hturn3))
          go_roundw
          case rel => exact .inr ⟨by go_num, HS2.out.turnB HT3.out (by omega) HCM3.out, turned_below HB02.out (Nat.le_refl _) HT3.out HLO.out.2.2.2.2.1, Kept2.turnB HT3.out⟩
          case measure => simp [intOf]
        · have HS := Lib.hid hS
          have HB := Lib.hid hB
          have HKE := Lib.hid hK
          have hkb := hK _ _ HKB.out (HS2.out.neF HKB.out) (HS2.out.neB HKB.out)
          have b0 := hb_at hkb 0 rfl
          have b1 := hb_at hkb 1 rfl
          have b2 := hb_at hkb 2 rfl
          have b3 := hb_at hkb 3 rfl
          have b4 := hb_at hkb 4 rfl
          have m0 := hb_at hS.walk 0 rfl
          have HCK := Lib.hid (HST.out (tv k1 p1 n1 N1 (.slice q3 l3 c3)) _ HT1.out hS hB)
          have HG3 := Lib.hid (hK _ _ HG.out (HS2.out.neF HG.out) (HS2.out.neB HG.out))
          clear hS hB hK hkb
          obtain ⟨wy, hwy⟩ : ∃ wy, wy = wr := ⟨_, rfl⟩
          subst hwy
          go_wp2_with (go_at_call 52; ((with_reducible refine HCK.out.mono ?_); rintro e w4 ⟨rfl, hS4, hB4, hK4⟩; have HS4 := Lib.hid hS4; have HB4 := Lib.hid hB4; have HK4 := Lib.hid hK4; clear hS4 hB4 hK4))
          have HG4 := Lib.hid (HK4.out _ _ HG3.out (HS.out.neF HG3.out) (HS.out.neB HG3.out))
          go_loopw [65] (fun j wr => (j = .int .i64 0 ∧ wr = w4) ∨ (j = .int .i64 1 ∧ FreeE w0 w4 Bf Bb Bw Mf Mb nf' fs' wr)) (fun j _ => 1 - (intOf j).toNat)
          case atStart => exact .inl ⟨rfl, rfl⟩
          case round =>
            rcases hrel with ⟨rfl, rfl⟩ | ⟨rfl, hE⟩
            · obtain ⟨m, hm2, hcm⟩ := HS4.out.count
              have g0 := hb_at HG4.out 0 rfl
              have mb := hb_at HS4.out.bound 0 rfl
              have HCM := Lib.hid hcm
              clear hcm
              go_wp2_with (first
                | (at_lookup; refine wpList_cm_look _ rfl _ _ rfl rfl HCM.out n rfl (by unfold maxLen; omega) 1 (upC_same _ _ _) ?_)
                | (at_mapUpdate; refine wpList_cm_put _ rfl _ _ _ rfl rfl HCM.out (by unfold maxLen; omega) n rfl (by unfold maxLen; omega) 0 (by decide) rfl ?_; intro w5 hcm5 hturn5; have HCM5 := Lib.hid hcm5; have HT5 := Lib.hid hturn5; have HS5 := Lib.hid (HS4.out.turnB hturn5 (Nat.le_refl _) hcm5); have mb5 := hb_at HS5.out.bound 0 rfl; clear hcm5 hturn5)
                | (at_lookup; refine wpList_cm_look _ rfl _ _ rfl rfl HCM5.out n rfl (by unfold maxLen; omega) 0 (if_pos rfl) ?_)
                | (at_delete; refine wpList_cm_del _ rfl _ _ rfl rfl HCM5.out n rfl (by unfold maxLen; omega) ?_; intro w6 hcm6 hturn6; have HCM6 := Lib.hid hcm6; have HT6 := Lib.hid hturn6; clear hcm6 hturn6))
              go_roundw
              case rel => exact .inr ⟨by go_num, _, _, HS5.out.turnB HT6.out (Nat.le_refl _) HCM6.out, turned_below (turned_below HB4.out (Nat.le_refl _) HT5.out HLO.out.2.2.2.2.1) (Nat.le_refl _) HT6.out HLO.out.2.2.2.2.1, (Kept2.turnB HT5.out).trans (Kept2.turnB HT6.out)⟩
              case measure => simp [intOf]
            · have HE := Lib.hid hE
              clear hE
              go_wp2
              go_roundw
              case rel =>
                obtain ⟨nb', cs', h1, h2, h3⟩ := HE.out
                exact .inr ⟨by go_num, nb', cs', h1, h2, ((HKQ.out.trans HKE.out).trans HK4.out).trans h3⟩
              case measure => simp [intOf]
    · have HE := Lib.hid hE
      clear hE
      go_wp2
      go_end0
      obtain ⟨nb', cs', h1, h2, h3⟩ := HE.out
      exact ⟨rfl, nb', cs', h1, h2, HK1.out.trans h3⟩
end Go.Proofs.YthcpmdgdbceeiaaGreatDoor
