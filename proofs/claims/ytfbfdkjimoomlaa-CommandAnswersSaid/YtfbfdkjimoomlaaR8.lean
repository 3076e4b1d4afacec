/- Contract: the document's Decode of any bytes. -/
import Derived.Test.YtfbfdkjimoomlaaR7
namespace Go.Proofs.Ytfbfdkjimoomlaa
open Go.RowKit
set_option maxRecDepth 100000 in
set_option maxHeartbeats 8000000 in
theorem refDecode_any (l : List UInt8) (hl : l.length ≤ 1000000) (w : World) : Calls Try.prog 16 #[.string (str l)] w fun e w' => e = .returned (decv (Cm.dec Cm.sm l)) ∧ Below w.heap.size w w' := by
  have hmax : l.length ≤ maxLen := by unfold maxLen; omega
  have h0 := hb_new w (.cells zeroCmd 27)
  have h1 := hb_new (w.alloc (.cells zeroCmd 27)) (.cells #[.string (str l), .bool false] 85)
  simp only [World.size_alloc] at h1
  have HW0 : RowKit.Hid (((w.alloc (.cells zeroCmd 27)).alloc (.cells #[.string (str l), .bool false] 85)).heap[w.heap.size]? = some (.cells zeroCmd 27 (0, 0))) := Lib.hid (hb_alloc h0 _)
  have HW1 : RowKit.Hid (Rq ((w.alloc (.cells zeroCmd 27)).alloc (.cells #[.string (str l), .bool false] 85)) (w.heap.size + 1) (some l)) := Lib.hid ⟨h1, hmax⟩
  have HBW1 : RowKit.Hid (Below w.heap.size w ((w.alloc (.cells zeroCmd 27)).alloc (.cells #[.string (str l), .bool false] 85))) := Lib.hid ((below_alloc w _).alloc (by simp) _)
  have HZ1 : RowKit.Hid (w.heap.size + 1 < ((w.alloc (.cells zeroCmd 27)).alloc (.cells #[.string (str l), .bool false] 85)).heap.size) := Lib.hid (by simp)
  have HU := Lib.hid (qU_any (w.heap.size + 1) (some l))
  have HRAW := Lib.hid (Cm.raw_eq Cm.sm l)
  have hx := spU_lt (some l)
  have HL1 : RowKit.Hid (∀ r, (Cx.spU (some l)).2 = some r → r.length ≤ 1000000) := Lib.hid (spU_len (fun r hr => by cases hr; exact hl))
  generalize Cx.spU (some l) = p at *
  obtain ⟨x, st1⟩ := p
  simp only at hx
  have HSM := Lib.hid (refSmall_any x hx)
  generalize Cm.sm x = K at *
  obtain ⟨P, hP⟩ : ∃ P, Cm.hasPin K = P := ⟨_, rfl⟩
  obtain ⟨O, hO⟩ : ∃ O, Cm.hasOther K = O := ⟨_, rfl⟩
  obtain ⟨S, hS⟩ : ∃ S, Cm.hasSource K = S := ⟨_, rfl⟩
  have HRAW2 := Lib.hid (HRAW.out P O S hP hO hS)
  have hHP := refHasPin_any K
  have hHS := refHasSource_any K
  have hO6 : (K == 6) = O := by
    rw [← hO]; unfold Cm.hasOther
    by_cases h6 : K = 6
    · rw [h6]; rfl
    · rw [decide_eq_false h6]; exact beq_no h6
  rw [hP] at hHP
  rw [hS] at hHS
  have HHP := Lib.hid hHP
  have HHS := Lib.hid hHS
  clear h0 h1 hP hO hS hHP hHS HRAW hmax hx
  go_enter Try.func16, Try.ntmps16
  go_upto_region 2 with fail
  generalize hWW : ((w.alloc (.cells zeroCmd 27)).alloc (.cells #[.string (str l), .bool false] 85)) = W1 at *
  have HWW := Lib.hid hWW
  clear hWW
  go_upto_region 3 with (first
    | (go_at_call 41; ((with_reducible refine (HU.out _ (by exact HW1.out)).mono ?_); rintro e w2 ⟨rfl, h2, hg2⟩; have HR2 := Lib.hid h2; have HG2 := Lib.hid hg2; clear h2 hg2))
    | (go_at_call 40; ((with_reducible refine (HSM.out _).mono ?_); rintro e w' ⟨rfl, rfl⟩)))
  have hz2 : w.heap.size + 1 < w2.heap.size := Nat.lt_of_lt_of_le HZ1.out HG2.out.size
  have HJ : RowKit.Hid (IvQ w (w2.alloc (.cells #[.int .i64 K, .string ⟨#[]⟩, .int .i64 0, .int .i64 0, .int .i64 0, .string ⟨#[]⟩, .int .i64 0, .int .i64 0, .int .i64 0, .string ⟨#[]⟩] 27)) (w.heap.size + 1) w2.heap.size st1 ⟨K, Cm.noPin, Cm.noPin, ⟨#[]⟩⟩) := Lib.hid
    ⟨hb_alloc (hb_grown HW0.out HG2.out (by simp)) _, HR2.out.kept (fun x hx => hb_alloc hx _), hb_new w2 _, (HBW1.out.grown HG2.out HBW1.out.size (fun j hj => by cases hj; omega)).alloc (by omega) _⟩
  have HD : RowKit.Hid (DisQ w (w.heap.size + 1) w2.heap.size) := Lib.hid ⟨by omega, hz2⟩
  clear HW1 HW0 HBW1 HZ1 HR2 HG2 HU HSM
  generalize hRR : w.heap.size + 1 = R at *
  have HRR := Lib.hid hRR
  clear hRR
  generalize w2.heap.size = C at *
  clear hz2 HWW
  generalize w2.alloc (.cells #[.int .i64 K, .string ⟨#[]⟩, .int .i64 0, .int .i64 0, .int .i64 0, .string ⟨#[]⟩, .int .i64 0, .int .i64 0, .int .i64 0, .string ⟨#[]⟩] 27) = W3 at *
  have ck := HJ.out.k0
  cases P with
  | false =>
    go_upto_region 5 with (go_at_call 28; ((with_reducible refine (HHP.out _).mono ?_); rintro e w' ⟨rfl, rfl⟩))
    cases O with
    | false =>
      go_upto_region 7 with fail
      cases S with
      | false =>
        go_upto_region 9 with (go_at_call 30; ((with_reducible refine (HHS.out _).mono ?_); rintro e w' ⟨rfl, rfl⟩))
        have HRW : RowKit.Hid (Cm.raw Cm.sm l = ((⟨K, Cm.noPin, Cm.noPin, ⟨#[]⟩⟩ : Cm.Cmd), st1)) := Lib.hid (by exact HRAW2.out)
        have HI := Lib.hid HJ.out
        clear ck
        obtain ⟨z0, z1, z2, z3, z4, z5, z6, z7, z8, z9⟩ := zero_cells HI.out.rs
        obtain ⟨y0, y1, y2, y3, y4, y5, y6, y7, y8, y9⟩ := ten_free HI.out.rs
        obtain ⟨k0, k1, k2, k3, k4, k5, k6, k7, k8, k9⟩ := cmd_cells HI.out.cm
        rcases rq_end HI.out.rd with ⟨vv, r1, r0, hd⟩ | ⟨vv, r1, r0, ⟨e1, e2, hd⟩ | ⟨e1, e2, hd⟩⟩
        · have HDN := Lib.hid hd
          clear hd
          go_wp2
          exact bodyPost_ret (v := .tuple #[cmdv Cm.noCmd, .int .i64 8]) (by simp [results, Try.results16, go_sem, z0, z1, z2, z3, z4, z5, z6, z7, z8, z9]) rfl ⟨by rw [Cm.dec_bad1 HRW.out HDN.out], below_sets HI.out.bl⟩
        · have HDN := Lib.hid hd
          clear hd
          go_wp2
          exact bodyPost_ret (v := .tuple #[cmdv Cm.noCmd, .int .i64 8]) (by simp [results, Try.results16, go_sem, z0, z1, z2, z3, z4, z5, z6, z7, z8, z9]) rfl ⟨by rw [Cm.dec_bad1 HRW.out HDN.out], below_sets HI.out.bl⟩
        · have HDN := Lib.hid hd
          clear hd
          clear z0 z1 z2 z3 z4 z5 z6 z7 z8 z9 y0 y1 y2 y3 y4 y5 y6 y7 y8 y9
          rcases hri : Cm.rightB ((⟨K, Cm.noPin, Cm.noPin, ⟨#[]⟩⟩ : Cm.Cmd)) with _ | _
          · have HRI := Lib.hid hri
            clear hri
            go_wp2_with (go_at_call 12; ((with_reducible refine (refCmdRight_any ((⟨K, Cm.noPin, Cm.noPin, ⟨#[]⟩⟩ : Cm.Cmd)) (show Cm.noPin.p.size ≤ 4194304 by decide) (show Cm.noPin.p.size ≤ 4194304 by decide) _).mono ?_); rintro e w9 ⟨rfl, hb9⟩; rw [HRI.out]; have HI9 := Lib.hid (HI.out.below hb9); clear hb9; obtain ⟨z0, z1, z2, z3, z4, z5, z6, z7, z8, z9⟩ := zero_cells HI9.out.rs; obtain ⟨y0, y1, y2, y3, y4, y5, y6, y7, y8, y9⟩ := ten_free HI9.out.rs; obtain ⟨k0, k1, k2, k3, k4, k5, k6, k7, k8, k9⟩ := cmd_cells HI9.out.cm))
            exact bodyPost_ret (v := .tuple #[cmdv Cm.noCmd, .int .i64 8]) (by simp [results, Try.results16, go_sem, z0, z1, z2, z3, z4, z5, z6, z7, z8, z9]) rfl ⟨by rw [Cm.dec_bad2 HRW.out HRI.out], below_sets HI9.out.bl⟩
          · have HRI := Lib.hid hri
            clear hri
            go_wp2_with (go_at_call 12; ((with_reducible refine (refCmdRight_any ((⟨K, Cm.noPin, Cm.noPin, ⟨#[]⟩⟩ : Cm.Cmd)) (show Cm.noPin.p.size ≤ 4194304 by decide) (show Cm.noPin.p.size ≤ 4194304 by decide) _).mono ?_); rintro e w9 ⟨rfl, hb9⟩; rw [HRI.out]; have HI9 := Lib.hid (HI.out.below hb9); clear hb9; obtain ⟨z0, z1, z2, z3, z4, z5, z6, z7, z8, z9⟩ := zero_cells HI9.out.rs; obtain ⟨y0, y1, y2, y3, y4, y5, y6, y7, y8, y9⟩ := ten_free HI9.out.rs; obtain ⟨k0, k1, k2, k3, k4, k5, k6, k7, k8, k9⟩ := cmd_cells HI9.out.cm))
            exact bodyPost_ret (v := .tuple #[cmdv ((⟨K, Cm.noPin, Cm.noPin, ⟨#[]⟩⟩ : Cm.Cmd)), .int .i64 0]) (by simp [results, Try.results16, go_sem, z0, z1, z2, z3, z4, z5, z6, z7, z8, z9]) rfl ⟨by rw [Cm.dec_ok HRW.out HDN.out HRI.out], below_sets HI9.out.bl⟩
      | true =>
        go_upto_region 9 with (first
          | (go_at_call 43; ((with_reducible refine (qT_any R (st1) HL1.out _ (by exact HJ.out.rd)).mono ?_); rintro e w7 ⟨rfl, h7, hg7⟩; have HJ7 := Lib.hid (HJ.out.call HD.out hg7 h7); clear h7 hg7; have c9 := hb_at HJ7.out.cm 9 rfl; have f9 := hb_free HJ7.out.cm 9))
          | (go_at_call 30; ((with_reducible refine (HHS.out _).mono ?_); rintro e w' ⟨rfl, rfl⟩)))
        clear c9 f9 ck
        have HJZ := Lib.hid (HJ7.out.setS HD.out (str (Cx.spT (st1)).1))
        have ck := HJZ.out.k0
        have HRW : RowKit.Hid (Cm.raw Cm.sm l = ((⟨K, Cm.noPin, Cm.noPin, str (Cx.spT (st1)).1⟩ : Cm.Cmd), (Cx.spT (st1)).2)) := Lib.hid (by exact HRAW2.out)
        have HI := Lib.hid HJZ.out
        clear ck
        obtain ⟨z0, z1, z2, z3, z4, z5, z6, z7, z8, z9⟩ := zero_cells HI.out.rs
        obtain ⟨y0, y1, y2, y3, y4, y5, y6, y7, y8, y9⟩ := ten_free HI.out.rs
        obtain ⟨k0, k1, k2, k3, k4, k5, k6, k7, k8, k9⟩ := cmd_cells HI.out.cm
        rcases rq_end HI.out.rd with ⟨vv, r1, r0, hd⟩ | ⟨vv, r1, r0, ⟨e1, e2, hd⟩ | ⟨e1, e2, hd⟩⟩
        · have HDN := Lib.hid hd
          clear hd
          go_wp2
          exact bodyPost_ret (v := .tuple #[cmdv Cm.noCmd, .int .i64 8]) (by simp [results, Try.results16, go_sem, z0, z1, z2, z3, z4, z5, z6, z7, z8, z9]) rfl ⟨by rw [Cm.dec_bad1 HRW.out HDN.out], below_sets HI.out.bl⟩
        · have HDN := Lib.hid hd
          clear hd
          go_wp2
          exact bodyPost_ret (v := .tuple #[cmdv Cm.noCmd, .int .i64 8]) (by simp [results, Try.results16, go_sem, z0, z1, z2, z3, z4, z5, z6, z7, z8, z9]) rfl ⟨by rw [Cm.dec_bad1 HRW.out HDN.out], below_sets HI.out.bl⟩
        · have HDN := Lib.hid hd
          clear hd
          clear z0 z1 z2 z3 z4 z5 z6 z7 z8 z9 y0 y1 y2 y3 y4 y5 y6 y7 y8 y9
          rcases hri : Cm.rightB ((⟨K, Cm.noPin, Cm.noPin, str (Cx.spT (st1)).1⟩ : Cm.Cmd)) with _ | _
          · have HRI := Lib.hid hri
            clear hri
            go_wp2_with (go_at_call 12; ((with_reducible refine (refCmdRight_any ((⟨K, Cm.noPin, Cm.noPin, str (Cx.spT (st1)).1⟩ : Cm.Cmd)) (show Cm.noPin.p.size ≤ 4194304 by decide) (show Cm.noPin.p.size ≤ 4194304 by decide) _).mono ?_); rintro e w9 ⟨rfl, hb9⟩; rw [HRI.out]; have HI9 := Lib.hid (HI.out.below hb9); clear hb9; obtain ⟨z0, z1, z2, z3, z4, z5, z6, z7, z8, z9⟩ := zero_cells HI9.out.rs; obtain ⟨y0, y1, y2, y3, y4, y5, y6, y7, y8, y9⟩ := ten_free HI9.out.rs; obtain ⟨k0, k1, k2, k3, k4, k5, k6, k7, k8, k9⟩ := cmd_cells HI9.out.cm))
            exact bodyPost_ret (v := .tuple #[cmdv Cm.noCmd, .int .i64 8]) (by simp [results, Try.results16, go_sem, z0, z1, z2, z3, z4, z5, z6, z7, z8, z9]) rfl ⟨by rw [Cm.dec_bad2 HRW.out HRI.out], below_sets HI9.out.bl⟩
          · have HRI := Lib.hid hri
            clear hri
            go_wp2_with (go_at_call 12; ((with_reducible refine (refCmdRight_any ((⟨K, Cm.noPin, Cm.noPin, str (Cx.spT (st1)).1⟩ : Cm.Cmd)) (show Cm.noPin.p.size ≤ 4194304 by decide) (show Cm.noPin.p.size ≤ 4194304 by decide) _).mono ?_); rintro e w9 ⟨rfl, hb9⟩; rw [HRI.out]; have HI9 := Lib.hid (HI.out.below hb9); clear hb9; obtain ⟨z0, z1, z2, z3, z4, z5, z6, z7, z8, z9⟩ := zero_cells HI9.out.rs; obtain ⟨y0, y1, y2, y3, y4, y5, y6, y7, y8, y9⟩ := ten_free HI9.out.rs; obtain ⟨k0, k1, k2, k3, k4, k5, k6, k7, k8, k9⟩ := cmd_cells HI9.out.cm))
            exact bodyPost_ret (v := .tuple #[cmdv ((⟨K, Cm.noPin, Cm.noPin, str (Cx.spT (st1)).1⟩ : Cm.Cmd)), .int .i64 0]) (by simp [results, Try.results16, go_sem, z0, z1, z2, z3, z4, z5, z6, z7, z8, z9]) rfl ⟨by rw [Cm.dec_ok HRW.out HDN.out HRI.out], below_sets HI9.out.bl⟩
    | true =>
      go_upto_region 7 with (first
        | (go_at_call 42; ((with_reducible refine (refRead_any R (st1) HL1.out _ (by exact HJ.out.rd)).mono ?_); rintro e w6 ⟨rfl, h6, hg6⟩; have HJ6 := Lib.hid (HJ.out.call HD.out hg6 h6); clear h6 hg6 ck; have ck := HJ6.out.k0; have HCM := HJ6.out.cm; have c5 := hb_at HCM 5 rfl; have f5 := hb_free HCM 5; have c6 := hb_at HCM 6 rfl; have f6 := hb_free HCM 6; have c7 := hb_at HCM 7 rfl; have f7 := hb_free HCM 7; have c8 := hb_at HCM 8 rfl; have f8 := hb_free HCM 8; have HCM := Lib.hid HCM))
        | (go_at_call 28; ((with_reducible refine (HHP.out _).mono ?_); rintro e w' ⟨rfl, rfl⟩)))
      clear HCM ck c5 f5 c6 f6 c7 f7 c8 f8
      have HJs := Lib.hid (HJ6.out.setB HD.out (Cm.rdPin Cm.sm (st1)).1)
      have HLHJs : RowKit.Hid (∀ r, (Cm.rdPin Cm.sm (st1)).2 = some r → r.length ≤ 1000000) := Lib.hid (rdPin_len HL1.out)
      have hsB : (Cm.rdPin Cm.sm (st1)).1.p.size ≤ 4194304 := Nat.le_trans (spT_size HL1.out) (by decide)
      have HSB := Lib.hid hsB
      clear hsB
      have ck := HJs.out.k0
      cases S with
      | false =>
        go_upto_region 9 with (go_at_call 30; ((with_reducible refine (HHS.out _).mono ?_); rintro e w' ⟨rfl, rfl⟩))
        have HRW : RowKit.Hid (Cm.raw Cm.sm l = ((⟨K, Cm.noPin, (Cm.rdPin Cm.sm (st1)).1, ⟨#[]⟩⟩ : Cm.Cmd), (Cm.rdPin Cm.sm (st1)).2)) := Lib.hid (by exact HRAW2.out)
        have HI := Lib.hid HJs.out
        clear ck
        obtain ⟨z0, z1, z2, z3, z4, z5, z6, z7, z8, z9⟩ := zero_cells HI.out.rs
        obtain ⟨y0, y1, y2, y3, y4, y5, y6, y7, y8, y9⟩ := ten_free HI.out.rs
        obtain ⟨k0, k1, k2, k3, k4, k5, k6, k7, k8, k9⟩ := cmd_cells HI.out.cm
        rcases rq_end HI.out.rd with ⟨vv, r1, r0, hd⟩ | ⟨vv, r1, r0, ⟨e1, e2, hd⟩ | ⟨e1, e2, hd⟩⟩
        · have HDN := Lib.hid hd
          clear hd
          go_wp2
          exact bodyPost_ret (v := .tuple #[cmdv Cm.noCmd, .int .i64 8]) (by simp [results, Try.results16, go_sem, z0, z1, z2, z3, z4, z5, z6, z7, z8, z9]) rfl ⟨by rw [Cm.dec_bad1 HRW.out HDN.out], below_sets HI.out.bl⟩
        · have HDN := Lib.hid hd
          clear hd
          go_wp2
          exact bodyPost_ret (v := .tuple #[cmdv Cm.noCmd, .int .i64 8]) (by simp [results, Try.results16, go_sem, z0, z1, z2, z3, z4, z5, z6, z7, z8, z9]) rfl ⟨by rw [Cm.dec_bad1 HRW.out HDN.out], below_sets HI.out.bl⟩
        · have HDN := Lib.hid hd
          clear hd
          clear z0 z1 z2 z3 z4 z5 z6 z7 z8 z9 y0 y1 y2 y3 y4 y5 y6 y7 y8 y9
          rcases hri : Cm.rightB ((⟨K, Cm.noPin, (Cm.rdPin Cm.sm (st1)).1, ⟨#[]⟩⟩ : Cm.Cmd)) with _ | _
          · have HRI := Lib.hid hri
            clear hri
            go_wp2_with (go_at_call 12; ((with_reducible refine (refCmdRight_any ((⟨K, Cm.noPin, (Cm.rdPin Cm.sm (st1)).1, ⟨#[]⟩⟩ : Cm.Cmd)) (show Cm.noPin.p.size ≤ 4194304 by decide) HSB.out _).mono ?_); rintro e w9 ⟨rfl, hb9⟩; rw [HRI.out]; have HI9 := Lib.hid (HI.out.below hb9); clear hb9; obtain ⟨z0, z1, z2, z3, z4, z5, z6, z7, z8, z9⟩ := zero_cells HI9.out.rs; obtain ⟨y0, y1, y2, y3, y4, y5, y6, y7, y8, y9⟩ := ten_free HI9.out.rs; obtain ⟨k0, k1, k2, k3, k4, k5, k6, k7, k8, k9⟩ := cmd_cells HI9.out.cm))
            exact bodyPost_ret (v := .tuple #[cmdv Cm.noCmd, .int .i64 8]) (by simp [results, Try.results16, go_sem, z0, z1, z2, z3, z4, z5, z6, z7, z8, z9]) rfl ⟨by rw [Cm.dec_bad2 HRW.out HRI.out], below_sets HI9.out.bl⟩
          · have HRI := Lib.hid hri
            clear hri
            go_wp2_with (go_at_call 12; ((with_reducible refine (refCmdRight_any ((⟨K, Cm.noPin, (Cm.rdPin Cm.sm (st1)).1, ⟨#[]⟩⟩ : Cm.Cmd)) (show Cm.noPin.p.size ≤ 4194304 by decide) HSB.out _).mono ?_); rintro e w9 ⟨rfl, hb9⟩; rw [HRI.out]; have HI9 := Lib.hid (HI.out.below hb9); clear hb9; obtain ⟨z0, z1, z2, z3, z4, z5, z6, z7, z8, z9⟩ := zero_cells HI9.out.rs; obtain ⟨y0, y1, y2, y3, y4, y5, y6, y7, y8, y9⟩ := ten_free HI9.out.rs; obtain ⟨k0, k1, k2, k3, k4, k5, k6, k7, k8, k9⟩ := cmd_cells HI9.out.cm))
            exact bodyPost_ret (v := .tuple #[cmdv ((⟨K, Cm.noPin, (Cm.rdPin Cm.sm (st1)).1, ⟨#[]⟩⟩ : Cm.Cmd)), .int .i64 0]) (by simp [results, Try.results16, go_sem, z0, z1, z2, z3, z4, z5, z6, z7, z8, z9]) rfl ⟨by rw [Cm.dec_ok HRW.out HDN.out HRI.out], below_sets HI9.out.bl⟩
      | true =>
        go_upto_region 9 with (first
          | (go_at_call 43; ((with_reducible refine (qT_any R ((Cm.rdPin Cm.sm (st1)).2) HLHJs.out _ (by exact HJs.out.rd)).mono ?_); rintro e w7 ⟨rfl, h7, hg7⟩; have HJ7 := Lib.hid (HJs.out.call HD.out hg7 h7); clear h7 hg7; have c9 := hb_at HJ7.out.cm 9 rfl; have f9 := hb_free HJ7.out.cm 9))
          | (go_at_call 30; ((with_reducible refine (HHS.out _).mono ?_); rintro e w' ⟨rfl, rfl⟩)))
        clear c9 f9 ck
        have HJZ := Lib.hid (HJ7.out.setS HD.out (str (Cx.spT ((Cm.rdPin Cm.sm (st1)).2)).1))
        have ck := HJZ.out.k0
        have HRW : RowKit.Hid (Cm.raw Cm.sm l = ((⟨K, Cm.noPin, (Cm.rdPin Cm.sm (st1)).1, str (Cx.spT ((Cm.rdPin Cm.sm (st1)).2)).1⟩ : Cm.Cmd), (Cx.spT ((Cm.rdPin Cm.sm (st1)).2)).2)) := Lib.hid (by exact HRAW2.out)
        have HI := Lib.hid HJZ.out
        clear ck
        obtain ⟨z0, z1, z2, z3, z4, z5, z6, z7, z8, z9⟩ := zero_cells HI.out.rs
        obtain ⟨y0, y1, y2, y3, y4, y5, y6, y7, y8, y9⟩ := ten_free HI.out.rs
        obtain ⟨k0, k1, k2, k3, k4, k5, k6, k7, k8, k9⟩ := cmd_cells HI.out.cm
        rcases rq_end HI.out.rd with ⟨vv, r1, r0, hd⟩ | ⟨vv, r1, r0, ⟨e1, e2, hd⟩ | ⟨e1, e2, hd⟩⟩
        · have HDN := Lib.hid hd
          clear hd
          go_wp2
          exact bodyPost_ret (v := .tuple #[cmdv Cm.noCmd, .int .i64 8]) (by simp [results, Try.results16, go_sem, z0, z1, z2, z3, z4, z5, z6, z7, z8, z9]) rfl ⟨by rw [Cm.dec_bad1 HRW.out HDN.out], below_sets HI.out.bl⟩
        · have HDN := Lib.hid hd
          clear hd
          go_wp2
          exact bodyPost_ret (v := .tuple #[cmdv Cm.noCmd, .int .i64 8]) (by simp [results, Try.results16, go_sem, z0, z1, z2, z3, z4, z5, z6, z7, z8, z9]) rfl ⟨by rw [Cm.dec_bad1 HRW.out HDN.out], below_sets HI.out.bl⟩
        · have HDN := Lib.hid hd
          clear hd
          clear z0 z1 z2 z3 z4 z5 z6 z7 z8 z9 y0 y1 y2 y3 y4 y5 y6 y7 y8 y9
          rcases hri : Cm.rightB ((⟨K, Cm.noPin, (Cm.rdPin Cm.sm (st1)).1, str (Cx.spT ((Cm.rdPin Cm.sm (st1)).2)).1⟩ : Cm.Cmd)) with _ | _
          · have HRI := Lib.hid hri
            clear hri
            go_wp2_with (go_at_call 12; ((with_reducible refine (refCmdRight_any ((⟨K, Cm.noPin, (Cm.rdPin Cm.sm (st1)).1, str (Cx.spT ((Cm.rdPin Cm.sm (st1)).2)).1⟩ : Cm.Cmd)) (show Cm.noPin.p.size ≤ 4194304 by decide) HSB.out _).mono ?_); rintro e w9 ⟨rfl, hb9⟩; rw [HRI.out]; have HI9 := Lib.hid (HI.out.below hb9); clear hb9; obtain ⟨z0, z1, z2, z3, z4, z5, z6, z7, z8, z9⟩ := zero_cells HI9.out.rs; obtain ⟨y0, y1, y2, y3, y4, y5, y6, y7, y8, y9⟩ := ten_free HI9.out.rs; obtain ⟨k0, k1, k2, k3, k4, k5, k6, k7, k8, k9⟩ := cmd_cells HI9.out.cm))
            exact bodyPost_ret (v := .tuple #[cmdv Cm.noCmd, .int .i64 8]) (by simp [results, Try.results16, go_sem, z0, z1, z2, z3, z4, z5, z6, z7, z8, z9]) rfl ⟨by rw [Cm.dec_bad2 HRW.out HRI.out], below_sets HI9.out.bl⟩
          · have HRI := Lib.hid hri
            clear hri
            go_wp2_with (go_at_call 12; ((with_reducible refine (refCmdRight_any ((⟨K, Cm.noPin, (Cm.rdPin Cm.sm (st1)).1, str (Cx.spT ((Cm.rdPin Cm.sm (st1)).2)).1⟩ : Cm.Cmd)) (show Cm.noPin.p.size ≤ 4194304 by decide) HSB.out _).mono ?_); rintro e w9 ⟨rfl, hb9⟩; rw [HRI.out]; have HI9 := Lib.hid (HI.out.below hb9); clear hb9; obtain ⟨z0, z1, z2, z3, z4, z5, z6, z7, z8, z9⟩ := zero_cells HI9.out.rs; obtain ⟨y0, y1, y2, y3, y4, y5, y6, y7, y8, y9⟩ := ten_free HI9.out.rs; obtain ⟨k0, k1, k2, k3, k4, k5, k6, k7, k8, k9⟩ := cmd_cells HI9.out.cm))
            exact bodyPost_ret (v := .tuple #[cmdv ((⟨K, Cm.noPin, (Cm.rdPin Cm.sm (st1)).1, str (Cx.spT ((Cm.rdPin Cm.sm (st1)).2)).1⟩ : Cm.Cmd)), .int .i64 0]) (by simp [results, Try.results16, go_sem, z0, z1, z2, z3, z4, z5, z6, z7, z8, z9]) rfl ⟨by rw [Cm.dec_ok HRW.out HDN.out HRI.out], below_sets HI9.out.bl⟩
  | true =>
    go_upto_region 5 with (first
      | (go_at_call 42; ((with_reducible refine (refRead_any R (st1) HL1.out _ (by exact HJ.out.rd)).mono ?_); rintro e w5 ⟨rfl, h5, hg5⟩; have HJ5 := Lib.hid (HJ.out.call HD.out hg5 h5); clear h5 hg5 ck; have ck := HJ5.out.k0; have HCM := HJ5.out.cm; have c1 := hb_at HCM 1 rfl; have f1 := hb_free HCM 1; have c2 := hb_at HCM 2 rfl; have f2 := hb_free HCM 2; have c3 := hb_at HCM 3 rfl; have f3 := hb_free HCM 3; have c4 := hb_at HCM 4 rfl; have f4 := hb_free HCM 4; have HCM := Lib.hid HCM))
      | (go_at_call 28; ((with_reducible refine (HHP.out _).mono ?_); rintro e w' ⟨rfl, rfl⟩)))
    clear HCM ck c1 f1 c2 f2 c3 f3 c4 f4
    have HJs := Lib.hid (HJ5.out.setA HD.out (Cm.rdPin Cm.sm (st1)).1)
    have HLHJs : RowKit.Hid (∀ r, (Cm.rdPin Cm.sm (st1)).2 = some r → r.length ≤ 1000000) := Lib.hid (rdPin_len HL1.out)
    have hsA : (Cm.rdPin Cm.sm (st1)).1.p.size ≤ 4194304 := Nat.le_trans (spT_size HL1.out) (by decide)
    have HSA := Lib.hid hsA
    clear hsA
    have ck := HJs.out.k0
    cases O with
    | false =>
      go_upto_region 7 with fail
      cases S with
      | false =>
        go_upto_region 9 with (go_at_call 30; ((with_reducible refine (HHS.out _).mono ?_); rintro e w' ⟨rfl, rfl⟩))
        have HRW : RowKit.Hid (Cm.raw Cm.sm l = ((⟨K, (Cm.rdPin Cm.sm (st1)).1, Cm.noPin, ⟨#[]⟩⟩ : Cm.Cmd), (Cm.rdPin Cm.sm (st1)).2)) := Lib.hid (by exact HRAW2.out)
        have HI := Lib.hid HJs.out
        clear ck
        obtain ⟨z0, z1, z2, z3, z4, z5, z6, z7, z8, z9⟩ := zero_cells HI.out.rs
        obtain ⟨y0, y1, y2, y3, y4, y5, y6, y7, y8, y9⟩ := ten_free HI.out.rs
        obtain ⟨k0, k1, k2, k3, k4, k5, k6, k7, k8, k9⟩ := cmd_cells HI.out.cm
        rcases rq_end HI.out.rd with ⟨vv, r1, r0, hd⟩ | ⟨vv, r1, r0, ⟨e1, e2, hd⟩ | ⟨e1, e2, hd⟩⟩
        · have HDN := Lib.hid hd
          clear hd
          go_wp2
          exact bodyPost_ret (v := .tuple #[cmdv Cm.noCmd, .int .i64 8]) (by simp [results, Try.results16, go_sem, z0, z1, z2, z3, z4, z5, z6, z7, z8, z9]) rfl ⟨by rw [Cm.dec_bad1 HRW.out HDN.out], below_sets HI.out.bl⟩
        · have HDN := Lib.hid hd
          clear hd
          go_wp2
          exact bodyPost_ret (v := .tuple #[cmdv Cm.noCmd, .int .i64 8]) (by simp [results, Try.results16, go_sem, z0, z1, z2, z3, z4, z5, z6, z7, z8, z9]) rfl ⟨by rw [Cm.dec_bad1 HRW.out HDN.out], below_sets HI.out.bl⟩
        · have HDN := Lib.hid hd
          clear hd
          clear z0 z1 z2 z3 z4 z5 z6 z7 z8 z9 y0 y1 y2 y3 y4 y5 y6 y7 y8 y9
          rcases hri : Cm.rightB ((⟨K, (Cm.rdPin Cm.sm (st1)).1, Cm.noPin, ⟨#[]⟩⟩ : Cm.Cmd)) with _ | _
          · have HRI := Lib.hid hri
            clear hri
            go_wp2_with (go_at_call 12; ((with_reducible refine (refCmdRight_any ((⟨K, (Cm.rdPin Cm.sm (st1)).1, Cm.noPin, ⟨#[]⟩⟩ : Cm.Cmd)) HSA.out (show Cm.noPin.p.size ≤ 4194304 by decide) _).mono ?_); rintro e w9 ⟨rfl, hb9⟩; rw [HRI.out]; have HI9 := Lib.hid (HI.out.below hb9); clear hb9; obtain ⟨z0, z1, z2, z3, z4, z5, z6, z7, z8, z9⟩ := zero_cells HI9.out.rs; obtain ⟨y0, y1, y2, y3, y4, y5, y6, y7, y8, y9⟩ := ten_free HI9.out.rs; obtain ⟨k0, k1, k2, k3, k4, k5, k6, k7, k8, k9⟩ := cmd_cells HI9.out.cm))
            exact bodyPost_ret (v := .tuple #[cmdv Cm.noCmd, .int .i64 8]) (by simp [results, Try.results16, go_sem, z0, z1, z2, z3, z4, z5, z6, z7, z8, z9]) rfl ⟨by rw [Cm.dec_bad2 HRW.out HRI.out], below_sets HI9.out.bl⟩
          · have HRI := Lib.hid hri
            clear hri
            go_wp2_with (go_at_call 12; ((with_reducible refine (refCmdRight_any ((⟨K, (Cm.rdPin Cm.sm (st1)).1, Cm.noPin, ⟨#[]⟩⟩ : Cm.Cmd)) HSA.out (show Cm.noPin.p.size ≤ 4194304 by decide) _).mono ?_); rintro e w9 ⟨rfl, hb9⟩; rw [HRI.out]; have HI9 := Lib.hid (HI.out.below hb9); clear hb9; obtain ⟨z0, z1, z2, z3, z4, z5, z6, z7, z8, z9⟩ := zero_cells HI9.out.rs; obtain ⟨y0, y1, y2, y3, y4, y5, y6, y7, y8, y9⟩ := ten_free HI9.out.rs; obtain ⟨k0, k1, k2, k3, k4, k5, k6, k7, k8, k9⟩ := cmd_cells HI9.out.cm))
            exact bodyPost_ret (v := .tuple #[cmdv ((⟨K, (Cm.rdPin Cm.sm (st1)).1, Cm.noPin, ⟨#[]⟩⟩ : Cm.Cmd)), .int .i64 0]) (by simp [results, Try.results16, go_sem, z0, z1, z2, z3, z4, z5, z6, z7, z8, z9]) rfl ⟨by rw [Cm.dec_ok HRW.out HDN.out HRI.out], below_sets HI9.out.bl⟩
      | true =>
        go_upto_region 9 with (first
          | (go_at_call 43; ((with_reducible refine (qT_any R ((Cm.rdPin Cm.sm (st1)).2) HLHJs.out _ (by exact HJs.out.rd)).mono ?_); rintro e w7 ⟨rfl, h7, hg7⟩; have HJ7 := Lib.hid (HJs.out.call HD.out hg7 h7); clear h7 hg7; have c9 := hb_at HJ7.out.cm 9 rfl; have f9 := hb_free HJ7.out.cm 9))
          | (go_at_call 30; ((with_reducible refine (HHS.out _).mono ?_); rintro e w' ⟨rfl, rfl⟩)))
        clear c9 f9 ck
        have HJZ := Lib.hid (HJ7.out.setS HD.out (str (Cx.spT ((Cm.rdPin Cm.sm (st1)).2)).1))
        have ck := HJZ.out.k0
        have HRW : RowKit.Hid (Cm.raw Cm.sm l = ((⟨K, (Cm.rdPin Cm.sm (st1)).1, Cm.noPin, str (Cx.spT ((Cm.rdPin Cm.sm (st1)).2)).1⟩ : Cm.Cmd), (Cx.spT ((Cm.rdPin Cm.sm (st1)).2)).2)) := Lib.hid (by exact HRAW2.out)
        have HI := Lib.hid HJZ.out
        clear ck
        obtain ⟨z0, z1, z2, z3, z4, z5, z6, z7, z8, z9⟩ := zero_cells HI.out.rs
        obtain ⟨y0, y1, y2, y3, y4, y5, y6, y7, y8, y9⟩ := ten_free HI.out.rs
        obtain ⟨k0, k1, k2, k3, k4, k5, k6, k7, k8, k9⟩ := cmd_cells HI.out.cm
        rcases rq_end HI.out.rd with ⟨vv, r1, r0, hd⟩ | ⟨vv, r1, r0, ⟨e1, e2, hd⟩ | ⟨e1, e2, hd⟩⟩
        · have HDN := Lib.hid hd
          clear hd
          go_wp2
          exact bodyPost_ret (v := .tuple #[cmdv Cm.noCmd, .int .i64 8]) (by simp [results, Try.results16, go_sem, z0, z1, z2, z3, z4, z5, z6, z7, z8, z9]) rfl ⟨by rw [Cm.dec_bad1 HRW.out HDN.out], below_sets HI.out.bl⟩
        · have HDN := Lib.hid hd
          clear hd
          go_wp2
          exact bodyPost_ret (v := .tuple #[cmdv Cm.noCmd, .int .i64 8]) (by simp [results, Try.results16, go_sem, z0, z1, z2, z3, z4, z5, z6, z7, z8, z9]) rfl ⟨by rw [Cm.dec_bad1 HRW.out HDN.out], below_sets HI.out.bl⟩
        · have HDN := Lib.hid hd
          clear hd
          clear z0 z1 z2 z3 z4 z5 z6 z7 z8 z9 y0 y1 y2 y3 y4 y5 y6 y7 y8 y9
          rcases hri : Cm.rightB ((⟨K, (Cm.rdPin Cm.sm (st1)).1, Cm.noPin, str (Cx.spT ((Cm.rdPin Cm.sm (st1)).2)).1⟩ : Cm.Cmd)) with _ | _
          · have HRI := Lib.hid hri
            clear hri
            go_wp2_with (go_at_call 12; ((with_reducible refine (refCmdRight_any ((⟨K, (Cm.rdPin Cm.sm (st1)).1, Cm.noPin, str (Cx.spT ((Cm.rdPin Cm.sm (st1)).2)).1⟩ : Cm.Cmd)) HSA.out (show Cm.noPin.p.size ≤ 4194304 by decide) _).mono ?_); rintro e w9 ⟨rfl, hb9⟩; rw [HRI.out]; have HI9 := Lib.hid (HI.out.below hb9); clear hb9; obtain ⟨z0, z1, z2, z3, z4, z5, z6, z7, z8, z9⟩ := zero_cells HI9.out.rs; obtain ⟨y0, y1, y2, y3, y4, y5, y6, y7, y8, y9⟩ := ten_free HI9.out.rs; obtain ⟨k0, k1, k2, k3, k4, k5, k6, k7, k8, k9⟩ := cmd_cells HI9.out.cm))
            exact bodyPost_ret (v := .tuple #[cmdv Cm.noCmd, .int .i64 8]) (by simp [results, Try.results16, go_sem, z0, z1, z2, z3, z4, z5, z6, z7, z8, z9]) rfl ⟨by rw [Cm.dec_bad2 HRW.out HRI.out], below_sets HI9.out.bl⟩
          · have HRI := Lib.hid hri
            clear hri
            go_wp2_with (go_at_call 12; ((with_reducible refine (refCmdRight_any ((⟨K, (Cm.rdPin Cm.sm (st1)).1, Cm.noPin, str (Cx.spT ((Cm.rdPin Cm.sm (st1)).2)).1⟩ : Cm.Cmd)) HSA.out (show Cm.noPin.p.size ≤ 4194304 by decide) _).mono ?_); rintro e w9 ⟨rfl, hb9⟩; rw [HRI.out]; have HI9 := Lib.hid (HI.out.below hb9); clear hb9; obtain ⟨z0, z1, z2, z3, z4, z5, z6, z7, z8, z9⟩ := zero_cells HI9.out.rs; obtain ⟨y0, y1, y2, y3, y4, y5, y6, y7, y8, y9⟩ := ten_free HI9.out.rs; obtain ⟨k0, k1, k2, k3, k4, k5, k6, k7, k8, k9⟩ := cmd_cells HI9.out.cm))
            exact bodyPost_ret (v := .tuple #[cmdv ((⟨K, (Cm.rdPin Cm.sm (st1)).1, Cm.noPin, str (Cx.spT ((Cm.rdPin Cm.sm (st1)).2)).1⟩ : Cm.Cmd)), .int .i64 0]) (by simp [results, Try.results16, go_sem, z0, z1, z2, z3, z4, z5, z6, z7, z8, z9]) rfl ⟨by rw [Cm.dec_ok HRW.out HDN.out HRI.out], below_sets HI9.out.bl⟩
    | true =>
      go_upto_region 7 with (first
        | (go_at_call 42; ((with_reducible refine (refRead_any R ((Cm.rdPin Cm.sm (st1)).2) HLHJs.out _ (by exact HJs.out.rd)).mono ?_); rintro e w6 ⟨rfl, h6, hg6⟩; have HJs6 := Lib.hid (HJs.out.call HD.out hg6 h6); clear h6 hg6 ck; have ck := HJs6.out.k0; have HCM := HJs6.out.cm; have c5 := hb_at HCM 5 rfl; have f5 := hb_free HCM 5; have c6 := hb_at HCM 6 rfl; have f6 := hb_free HCM 6; have c7 := hb_at HCM 7 rfl; have f7 := hb_free HCM 7; have c8 := hb_at HCM 8 rfl; have f8 := hb_free HCM 8; have HCM := Lib.hid HCM))
        | (go_at_call 28; ((with_reducible refine (HHP.out _).mono ?_); rintro e w' ⟨rfl, rfl⟩)))
      clear HCM ck c5 f5 c6 f6 c7 f7 c8 f8
      have HJss := Lib.hid (HJs6.out.setB HD.out (Cm.rdPin Cm.sm ((Cm.rdPin Cm.sm (st1)).2)).1)
      have HLHJss : RowKit.Hid (∀ r, (Cm.rdPin Cm.sm ((Cm.rdPin Cm.sm (st1)).2)).2 = some r → r.length ≤ 1000000) := Lib.hid (rdPin_len HLHJs.out)
      have hsB : (Cm.rdPin Cm.sm ((Cm.rdPin Cm.sm (st1)).2)).1.p.size ≤ 4194304 := Nat.le_trans (spT_size HLHJs.out) (by decide)
      have HSB := Lib.hid hsB
      clear hsB
      have ck := HJss.out.k0
      cases S with
      | false =>
        go_upto_region 9 with (go_at_call 30; ((with_reducible refine (HHS.out _).mono ?_); rintro e w' ⟨rfl, rfl⟩))
        have HRW : RowKit.Hid (Cm.raw Cm.sm l = ((⟨K, (Cm.rdPin Cm.sm (st1)).1, (Cm.rdPin Cm.sm ((Cm.rdPin Cm.sm (st1)).2)).1, ⟨#[]⟩⟩ : Cm.Cmd), (Cm.rdPin Cm.sm ((Cm.rdPin Cm.sm (st1)).2)).2)) := Lib.hid (by exact HRAW2.out)
        have HI := Lib.hid HJss.out
        clear ck
        obtain ⟨z0, z1, z2, z3, z4, z5, z6, z7, z8, z9⟩ := zero_cells HI.out.rs
        obtain ⟨y0, y1, y2, y3, y4, y5, y6, y7, y8, y9⟩ := ten_free HI.out.rs
        obtain ⟨k0, k1, k2, k3, k4, k5, k6, k7, k8, k9⟩ := cmd_cells HI.out.cm
        rcases rq_end HI.out.rd with ⟨vv, r1, r0, hd⟩ | ⟨vv, r1, r0, ⟨e1, e2, hd⟩ | ⟨e1, e2, hd⟩⟩
        · have HDN := Lib.hid hd
          clear hd
          go_wp2
          exact bodyPost_ret (v := .tuple #[cmdv Cm.noCmd, .int .i64 8]) (by simp [results, Try.results16, go_sem, z0, z1, z2, z3, z4, z5, z6, z7, z8, z9]) rfl ⟨by rw [Cm.dec_bad1 HRW.out HDN.out], below_sets HI.out.bl⟩
        · have HDN := Lib.hid hd
          clear hd
          go_wp2
          exact bodyPost_ret (v := .tuple #[cmdv Cm.noCmd, .int .i64 8]) (by simp [results, Try.results16, go_sem, z0, z1, z2, z3, z4, z5, z6, z7, z8, z9]) rfl ⟨by rw [Cm.dec_bad1 HRW.out HDN.out], below_sets HI.out.bl⟩
        · have HDN := Lib.hid hd
          clear hd
          clear z0 z1 z2 z3 z4 z5 z6 z7 z8 z9 y0 y1 y2 y3 y4 y5 y6 y7 y8 y9
          rcases hri : Cm.rightB ((⟨K, (Cm.rdPin Cm.sm (st1)).1, (Cm.rdPin Cm.sm ((Cm.rdPin Cm.sm (st1)).2)).1, ⟨#[]⟩⟩ : Cm.Cmd)) with _ | _
          · have HRI := Lib.hid hri
            clear hri
            go_wp2_with (go_at_call 12; ((with_reducible refine (refCmdRight_any ((⟨K, (Cm.rdPin Cm.sm (st1)).1, (Cm.rdPin Cm.sm ((Cm.rdPin Cm.sm (st1)).2)).1, ⟨#[]⟩⟩ : Cm.Cmd)) HSA.out HSB.out _).mono ?_); rintro e w9 ⟨rfl, hb9⟩; rw [HRI.out]; have HI9 := Lib.hid (HI.out.below hb9); clear hb9; obtain ⟨z0, z1, z2, z3, z4, z5, z6, z7, z8, z9⟩ := zero_cells HI9.out.rs; obtain ⟨y0, y1, y2, y3, y4, y5, y6, y7, y8, y9⟩ := ten_free HI9.out.rs; obtain ⟨k0, k1, k2, k3, k4, k5, k6, k7, k8, k9⟩ := cmd_cells HI9.out.cm))
            exact bodyPost_ret (v := .tuple #[cmdv Cm.noCmd, .int .i64 8]) (by simp [results, Try.results16, go_sem, z0, z1, z2, z3, z4, z5, z6, z7, z8, z9]) rfl ⟨by rw [Cm.dec_bad2 HRW.out HRI.out], below_sets HI9.out.bl⟩
          · have HRI := Lib.hid hri
            clear hri
            go_wp2_with (go_at_call 12; ((with_reducible refine (refCmdRight_any ((⟨K, (Cm.rdPin Cm.sm (st1)).1, (Cm.rdPin Cm.sm ((Cm.rdPin Cm.sm (st1)).2)).1, ⟨#[]⟩⟩ : Cm.Cmd)) HSA.out HSB.out _).mono ?_); rintro e w9 ⟨rfl, hb9⟩; rw [HRI.out]; have HI9 := Lib.hid (HI.out.below hb9); clear hb9; obtain ⟨z0, z1, z2, z3, z4, z5, z6, z7, z8, z9⟩ := zero_cells HI9.out.rs; obtain ⟨y0, y1, y2, y3, y4, y5, y6, y7, y8, y9⟩ := ten_free HI9.out.rs; obtain ⟨k0, k1, k2, k3, k4, k5, k6, k7, k8, k9⟩ := cmd_cells HI9.out.cm))
            exact bodyPost_ret (v := .tuple #[cmdv ((⟨K, (Cm.rdPin Cm.sm (st1)).1, (Cm.rdPin Cm.sm ((Cm.rdPin Cm.sm (st1)).2)).1, ⟨#[]⟩⟩ : Cm.Cmd)), .int .i64 0]) (by simp [results, Try.results16, go_sem, z0, z1, z2, z3, z4, z5, z6, z7, z8, z9]) rfl ⟨by rw [Cm.dec_ok HRW.out HDN.out HRI.out], below_sets HI9.out.bl⟩
      | true =>
        go_upto_region 9 with (first
          | (go_at_call 43; ((with_reducible refine (qT_any R ((Cm.rdPin Cm.sm ((Cm.rdPin Cm.sm (st1)).2)).2) HLHJss.out _ (by exact HJss.out.rd)).mono ?_); rintro e w7 ⟨rfl, h7, hg7⟩; have HJ7 := Lib.hid (HJss.out.call HD.out hg7 h7); clear h7 hg7; have c9 := hb_at HJ7.out.cm 9 rfl; have f9 := hb_free HJ7.out.cm 9))
          | (go_at_call 30; ((with_reducible refine (HHS.out _).mono ?_); rintro e w' ⟨rfl, rfl⟩)))
        clear c9 f9 ck
        have HJZ := Lib.hid (HJ7.out.setS HD.out (str (Cx.spT ((Cm.rdPin Cm.sm ((Cm.rdPin Cm.sm (st1)).2)).2)).1))
        have ck := HJZ.out.k0
        have HRW : RowKit.Hid (Cm.raw Cm.sm l = ((⟨K, (Cm.rdPin Cm.sm (st1)).1, (Cm.rdPin Cm.sm ((Cm.rdPin Cm.sm (st1)).2)).1, str (Cx.spT ((Cm.rdPin Cm.sm ((Cm.rdPin Cm.sm (st1)).2)).2)).1⟩ : Cm.Cmd), (Cx.spT ((Cm.rdPin Cm.sm ((Cm.rdPin Cm.sm (st1)).2)).2)).2)) := Lib.hid (by exact HRAW2.out)
        have HI := Lib.hid HJZ.out
        clear ck
        obtain ⟨z0, z1, z2, z3, z4, z5, z6, z7, z8, z9⟩ := zero_cells HI.out.rs
        obtain ⟨y0, y1, y2, y3, y4, y5, y6, y7, y8, y9⟩ := ten_free HI.out.rs
        obtain ⟨k0, k1, k2, k3, k4, k5, k6, k7, k8, k9⟩ := cmd_cells HI.out.cm
        rcases rq_end HI.out.rd with ⟨vv, r1, r0, hd⟩ | ⟨vv, r1, r0, ⟨e1, e2, hd⟩ | ⟨e1, e2, hd⟩⟩
        · have HDN := Lib.hid hd
          clear hd
          go_wp2
          exact bodyPost_ret (v := .tuple #[cmdv Cm.noCmd, .int .i64 8]) (by simp [results, Try.results16, go_sem, z0, z1, z2, z3, z4, z5, z6, z7, z8, z9]) rfl ⟨by rw [Cm.dec_bad1 HRW.out HDN.out], below_sets HI.out.bl⟩
        · have HDN := Lib.hid hd
          clear hd
          go_wp2
          exact bodyPost_ret (v := .tuple #[cmdv Cm.noCmd, .int .i64 8]) (by simp [results, Try.results16, go_sem, z0, z1, z2, z3, z4, z5, z6, z7, z8, z9]) rfl ⟨by rw [Cm.dec_bad1 HRW.out HDN.out], below_sets HI.out.bl⟩
        · have HDN := Lib.hid hd
          clear hd
          clear z0 z1 z2 z3 z4 z5 z6 z7 z8 z9 y0 y1 y2 y3 y4 y5 y6 y7 y8 y9
          rcases hri : Cm.rightB ((⟨K, (Cm.rdPin Cm.sm (st1)).1, (Cm.rdPin Cm.sm ((Cm.rdPin Cm.sm (st1)).2)).1, str (Cx.spT ((Cm.rdPin Cm.sm ((Cm.rdPin Cm.sm (st1)).2)).2)).1⟩ : Cm.Cmd)) with _ | _
          · have HRI := Lib.hid hri
            clear hri
            go_wp2_with (go_at_call 12; ((with_reducible refine (refCmdRight_any ((⟨K, (Cm.rdPin Cm.sm (st1)).1, (Cm.rdPin Cm.sm ((Cm.rdPin Cm.sm (st1)).2)).1, str (Cx.spT ((Cm.rdPin Cm.sm ((Cm.rdPin Cm.sm (st1)).2)).2)).1⟩ : Cm.Cmd)) HSA.out HSB.out _).mono ?_); rintro e w9 ⟨rfl, hb9⟩; rw [HRI.out]; have HI9 := Lib.hid (HI.out.below hb9); clear hb9; obtain ⟨z0, z1, z2, z3, z4, z5, z6, z7, z8, z9⟩ := zero_cells HI9.out.rs; obtain ⟨y0, y1, y2, y3, y4, y5, y6, y7, y8, y9⟩ := ten_free HI9.out.rs; obtain ⟨k0, k1, k2, k3, k4, k5, k6, k7, k8, k9⟩ := cmd_cells HI9.out.cm))
            exact bodyPost_ret (v := .tuple #[cmdv Cm.noCmd, .int .i64 8]) (by simp [results, Try.results16, go_sem, z0, z1, z2, z3, z4, z5, z6, z7, z8, z9]) rfl ⟨by rw [Cm.dec_bad2 HRW.out HRI.out], below_sets HI9.out.bl⟩
          · have HRI := Lib.hid hri
            clear hri
            go_wp2_with (go_at_call 12; ((with_reducible refine (refCmdRight_any ((⟨K, (Cm.rdPin Cm.sm (st1)).1, (Cm.rdPin Cm.sm ((Cm.rdPin Cm.sm (st1)).2)).1, str (Cx.spT ((Cm.rdPin Cm.sm ((Cm.rdPin Cm.sm (st1)).2)).2)).1⟩ : Cm.Cmd)) HSA.out HSB.out _).mono ?_); rintro e w9 ⟨rfl, hb9⟩; rw [HRI.out]; have HI9 := Lib.hid (HI.out.below hb9); clear hb9; obtain ⟨z0, z1, z2, z3, z4, z5, z6, z7, z8, z9⟩ := zero_cells HI9.out.rs; obtain ⟨y0, y1, y2, y3, y4, y5, y6, y7, y8, y9⟩ := ten_free HI9.out.rs; obtain ⟨k0, k1, k2, k3, k4, k5, k6, k7, k8, k9⟩ := cmd_cells HI9.out.cm))
            exact bodyPost_ret (v := .tuple #[cmdv ((⟨K, (Cm.rdPin Cm.sm (st1)).1, (Cm.rdPin Cm.sm ((Cm.rdPin Cm.sm (st1)).2)).1, str (Cx.spT ((Cm.rdPin Cm.sm ((Cm.rdPin Cm.sm (st1)).2)).2)).1⟩ : Cm.Cmd)), .int .i64 0]) (by simp [results, Try.results16, go_sem, z0, z1, z2, z3, z4, z5, z6, z7, z8, z9]) rfl ⟨by rw [Cm.dec_ok HRW.out HDN.out HRI.out], below_sets HI9.out.bl⟩
end Go.Proofs.Ytfbfdkjimoomlaa
