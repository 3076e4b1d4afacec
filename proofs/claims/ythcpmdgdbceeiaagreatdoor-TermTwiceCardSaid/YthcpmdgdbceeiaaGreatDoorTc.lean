/- Free, of the program, at the chapter's example: applications, functions. -/
import Derived.Test.YthcpmdgdbceeiaaGreatDoorTb
namespace Go.Proofs.YthcpmdgdbceeiaaGreatDoor
open Go.RowKit Go.Maps
theorem IsT.eq {w : World} {d : Nat} {k : Int} {p n : ByteArray} {N : Int} {kids : List Tm} {v : Value} (h : IsT w d v (.mk k p n N kids)) : ∃ m s, d = m + 1 ∧ v = tv k p n N s ∧ KidsT w m s kids := by
  obtain ⟨m, k2, p2, n2, N2, s2, l2, e1, e2, e3, _, _, hk⟩ := h.open
  cases e2
  exact ⟨m, s2, e1, e3, hk⟩
set_option maxRecDepth 100000 in
set_option maxHeartbeats 2000000 in
/-- An application: each Kid in turn. -/
theorem free_app (w0 : World) (Bf Bb Bw Mf Mb nb d : Nat) (l : List Tm) (q : Option Addr) (c : Nat) (nf : Nat → Nat) (fs : Nat → ByteArray → Bool) (cs : ByteArray → Int) (w : World) (hk : KidsT w0 d (.slice q l.length c) l) (hS : FreeSt w w0.heap.size Bf Bb Bw Mf Mb (nf 0) nb (fs 0) cs) (hB : Below w0.heap.size w0 w)
    (hstep : ∀ (i : Nat) (x : Tm), l[i]? = some x → ∀ (v : Value) (W : World), IsT w0 d v x → FreeSt W w0.heap.size Bf Bb Bw Mf Mb (nf i) nb (fs i) cs → Below w0.heap.size w0 W → Calls Tryz.prog 52 #[v, .pointer (some ⟨Bb, 0, none⟩), .pointer (some ⟨Bf, 0, none⟩), .pointer (some ⟨Bw, 0, none⟩)] W (FreeR w0 W Bf Bb Bw Mf Mb (nf (i + 1)) nb (fs (i + 1)) cs)) :
    Calls Tryz.prog 52 #[tv 27 ⟨#[]⟩ ⟨#[]⟩ 0 (.slice q l.length c), .pointer (some ⟨Bb, 0, none⟩), .pointer (some ⟨Bf, 0, none⟩), .pointer (some ⟨Bw, 0, none⟩)] w (FreeR w0 w Bf Bb Bw Mf Mb (nf l.length) nb (fs l.length) cs) := by
  obtain ⟨q', c', e, hm, hr⟩ := hk
  cases e
  unfold maxLen at hm
  have HR := Lib.hid hr
  have HST := Lib.hid hstep
  have hSa := hS.below (below_alloc w (.cells #[.int .i64 27, .string ⟨#[]⟩, .string ⟨#[]⟩, .int .i64 0, .slice q l.length c] 24))
  have hBa := hB.alloc hB.size (.cells #[.int .i64 27, .string ⟨#[]⟩, .string ⟨#[]⟩, .int .i64 0, .slice q l.length c] 24)
  have HBX := Lib.hid (fun i W => binds_app ⟨#[]⟩ ⟨#[]⟩ 0 i q l.length c W)
  have HK := Lib.hid (hb_new w (.cells #[.int .i64 27, .string ⟨#[]⟩, .string ⟨#[]⟩, .int .i64 0, .slice q l.length c] 24))
  have HSA := Lib.hid hSa
  have HBA := Lib.hid hBa
  have hlo : w0.heap.size ≤ w.heap.size := hB.size
  clear hr hstep hSa hBa hS hB
  go_enter Tryz.func52, Tryz.ntmps52
  go_wp2
  generalize hW1 : w.alloc (.cells #[.int .i64 27, .string ⟨#[]⟩, .string ⟨#[]⟩, .int .i64 0, .slice q l.length c] 24) = W1 at *
  have hz1 : w.heap.size + 1 ≤ W1.heap.size := by rw [← hW1]; simp
  have hk1 : Kept2 w W1 Mf Mb := by rw [← hW1]; exact Kept2.below (below_alloc w _)
  have HK1 := Lib.hid hk1
  clear hk1
  clear hW1
  go_loopw [34] (fun i wr => ∃ k : Nat, k ≤ l.length ∧ i = .int .i64 k ∧ FreeSt wr w0.heap.size Bf Bb Bw Mf Mb (nf k) nb (fs k) cs ∧ Below w0.heap.size w0 wr ∧ wr.heap[w.heap.size]? = some (.cells #[.int .i64 27, .string ⟨#[]⟩, .string ⟨#[]⟩, .int .i64 0, .slice q l.length c] 24 (0, 0)) ∧ Kept2 W1 wr Mf Mb) (fun i _ => l.length - (intOf i).toNat)
  case atStart => exact ⟨0, Nat.zero_le _, rfl, HSA.out, HBA.out, HK.out, fun _ _ h _ _ => h⟩
  case round =>
    obtain ⟨k, hk, rfl, hS, hB, hbox, hkept⟩ := hrel
    have HKE := Lib.hid hkept
    clear hkept
    by_cases hlt : k < l.length
    · have hx1 := List.getElem?_eq_getElem hlt
      generalize l[k] = x at *
      obtain ⟨b1, o1, k1, p1, n1, N1, s1, hq1, ha1, ht1⟩ := HR.out k x hx1
      subst hq1
      obtain ⟨q3, l3, c3, hs3⟩ := ht1.spell
      subst hs3
      obtain ⟨x0, x1, x2, x3, x4⟩ := ha1.below hB ha1.lt
      have y0 := hb_at hbox 0 rfl
      have y1 := hb_at hbox 1 rfl
      have y2 := hb_at hbox 2 rfl
      have y3 := hb_at hbox 3 rfl
      have y4 := hb_at hbox 4 rfl
      have hwl := hb_lt hbox
      have m0 : wr.cell? ⟨Bw, 0, none⟩ = some (.func (.func 52) #[] #[.pointer (some ⟨Bb, 0, none⟩), .pointer (some ⟨Bf, 0, none⟩), .pointer (some ⟨Bw, 0, none⟩)]) := hb_at hS.walk 0 rfl
      have hbw : Bw < wr.heap.size := hb_lt hS.walk
      obtain ⟨wq, hwq⟩ : ∃ wq, wq = wr := ⟨_, rfl⟩
      subst hwq
      have HS := Lib.hid hS
      have HB := Lib.hid hB
      have HBOX := Lib.hid hbox
      have HX1 := Lib.hid hx1
      have HT1 := Lib.hid ht1
      clear hS hB hbox hx1 ht1 ha1
      go_wp2_with (go_at_call 54; ((with_reducible refine (HBX.out _ _).mono ?_); rintro e w2 ⟨rfl, hb⟩; have HB2 := Lib.hid hb; obtain ⟨hc2, hf2⟩ := bcell hb; have z2 := hb.size; rw [World.size_alloc] at z2; have y2 : wq.heap.size < w2.heap.size := (by omega); have hbw2 : Bw < w2.heap.size := (by omega); clear hb))
      have hBq : Below wq.heap.size wq w2 := (below_alloc wq (.cells #[.int .i64 k1, .string p1, .string n1, .int .i64 N1, .slice q3 l3 c3] 24)).trans (HB2.out.mono (by simp))
      have hB02 := HB.out.trans (hBq.mono HB.out.size)
      have HCK := Lib.hid (HST.out k x HX1.out (tv k1 p1 n1 N1 (.slice q3 l3 c3)) w2 HT1.out (HS.out.below hBq) hB02)
      have HBq := Lib.hid hBq
      clear hBq hB02
      go_loopw [51] (fun j wr => j = .int .i64 0 ∧ wr = w2) (fun _ _ => 0)
      case atStart => exact ⟨rfl, rfl⟩
      case round =>
        obtain ⟨rfl, rfl⟩ := hrel
        go_wp2_with (go_at_call 52; ((with_reducible refine HCK.out.mono ?_); rintro e w3 ⟨rfl, hS3, hB3, hK3⟩; have HS3 := Lib.hid hS3; have HB3 := Lib.hid hB3; have HK3 := Lib.hid hK3; clear hS3 hB3 hK3))
        have hneF : w.heap.size ≠ Mf := fun e => by
          obtain ⟨_, _, hs⟩ := HS.out.set
          obtain ⟨es, cl, hM⟩ := hs.heap
          exact map_ne hM HBOX.out (by rw [e])
        have hneB : w.heap.size ≠ Mb := fun e => by
          obtain ⟨_, _, hs⟩ := HS.out.count
          obtain ⟨es, cl, hM⟩ := hs.heap
          exact map_ne hM HBOX.out (by rw [e])
        have HBX3 := Lib.hid (HK3.out _ _ (hb_below HBOX.out HBq.out (hb_lt HBOX.out)) hneF hneB)
        have HKQ := Lib.hid ((HKE.out.trans (Kept2.below HBq.out)).trans HK3.out)
        clear hneF hneB
        go_loopw [65] (fun j wr => j = .int .i64 0 ∧ wr = w3) (fun _ _ => 0)
        case atStart => exact ⟨rfl, rfl⟩
        case round =>
          obtain ⟨rfl, rfl⟩ := hrel
          go_wp2
          go_roundw
          case rel => exact ⟨k + 1, by omega, by go_num, HS3.out, HB3.out, HBX3.out, HKQ.out⟩
          case measure => simp [intOf]; omega
    · obtain rfl : k = l.length := by omega
      have HS := Lib.hid hS
      have HB := Lib.hid hB
      clear hS hB hbox
      go_wp2
      go_end0
      exact ⟨rfl, HS.out, HB.out, HK1.out.trans HKE.out⟩
end Go.Proofs.YthcpmdgdbceeiaaGreatDoor
