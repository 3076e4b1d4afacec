/- Contract: Decode of any bytes. -/
import Derived.Test.YtfbfdkjimoomlaaR5
namespace Go.Proofs.Ytfbfdkjimoomlaa
open Go.RowKit
theorem below_sets {B : Nat} {w W : World} (h : Below B w W) {v0 v1 v2 v3 v4 v5 v6 v7 v8 v9 : Value} : Below B w ((((((((((W.setCell ⟨B, 0, none⟩ v0).setCell ⟨B, 1, none⟩ v1).setCell ⟨B, 2, none⟩ v2).setCell ⟨B, 3, none⟩ v3).setCell ⟨B, 4, none⟩ v4).setCell ⟨B, 5, none⟩ v5).setCell ⟨B, 6, none⟩ v6).setCell ⟨B, 7, none⟩ v7).setCell ⟨B, 8, none⟩ v8).setCell ⟨B, 9, none⟩ v9) :=
  ((((((((((h.setCell (by simp) v0).setCell (by simp) v1).setCell (by simp) v2).setCell (by simp) v3).setCell (by simp) v4).setCell (by simp) v5).setCell (by simp) v6).setCell (by simp) v7).setCell (by simp) v8).setCell (by simp) v9)
abbrev decv (x : Cm.Cmd × Int) : Value := .tuple #[cmdv x.1, .int .i64 x.2]
set_option maxRecDepth 100000 in
set_option maxHeartbeats 8000000 in
theorem decode_any (l : List UInt8) (hl : l.length ≤ 1000000) (w : World) : Calls Try.prog 15 #[.string (str l)] w fun e w' => e = .returned (decv (Cm.dec Cm.wr64 l)) ∧ Below w.heap.size w w' := by
  have hmax : l.length ≤ maxLen := by unfold maxLen; omega
  have h0 := hb_new w (.cells zeroCmd 27)
  have h1 := hb_new (w.alloc (.cells zeroCmd 27)) (.cells #[.string (str l), .bool true] 105)
  have h2 := hb_new ((w.alloc (.cells zeroCmd 27)).alloc (.cells #[.string (str l), .bool true] 105)) (.cells #[.pointer (some ⟨w.heap.size + 1, 0, none⟩)] 80)
  simp only [World.size_alloc] at h1 h2
  have HR0 : RowKit.Hid (((w.alloc (.cells zeroCmd 27)).alloc (.cells #[.string (str l), .bool true] 105)).heap[w.heap.size]? = some (.cells zeroCmd 27 (0, 0))) := Lib.hid (hb_alloc h0 _)
  have HW1 : RowKit.Hid (Rd (((w.alloc (.cells zeroCmd 27)).alloc (.cells #[.string (str l), .bool true] 105)).alloc (.cells #[.pointer (some ⟨w.heap.size + 1, 0, none⟩)] 80)) (w.heap.size + 1) (some l)) := Lib.hid ⟨hb_alloc h1 _, hmax⟩
  have HW0 : RowKit.Hid ((((w.alloc (.cells zeroCmd 27)).alloc (.cells #[.string (str l), .bool true] 105)).alloc (.cells #[.pointer (some ⟨w.heap.size + 1, 0, none⟩)] 80)).heap[w.heap.size]? = some (.cells zeroCmd 27 (0, 0))) := Lib.hid (hb_alloc HR0.out _)
  have HX1 : RowKit.Hid ((((w.alloc (.cells zeroCmd 27)).alloc (.cells #[.string (str l), .bool true] 105)).alloc (.cells #[.pointer (some ⟨w.heap.size + 1, 0, none⟩)] 80)).heap[w.heap.size + 1 + 1]? = some (.cells #[.pointer (some ⟨w.heap.size + 1, 0, none⟩)] 80 (0, 0))) := Lib.hid h2
  have HBW1 : RowKit.Hid (Below w.heap.size w (((w.alloc (.cells zeroCmd 27)).alloc (.cells #[.string (str l), .bool true] 105)).alloc (.cells #[.pointer (some ⟨w.heap.size + 1, 0, none⟩)] 80))) := Lib.hid ((((below_alloc w _).alloc (by simp) _)).alloc (by simp; omega) _)
  have hz1 : w.heap.size + 1 + 1 < (((w.alloc (.cells zeroCmd 27)).alloc (.cells #[.string (str l), .bool true] 105)).alloc (.cells #[.pointer (some ⟨w.heap.size + 1, 0, none⟩)] 80)).heap.size := by simp
  have HZ1 := Lib.hid hz1
  have hcx : (((w.alloc (.cells zeroCmd 27)).alloc (.cells #[.string (str l), .bool true] 105)).alloc (.cells #[.pointer (some ⟨w.heap.size + 1, 0, none⟩)] 80)).cell? ⟨w.heap.size + 1 + 1, 0, none⟩ = some (.pointer (some ⟨w.heap.size + 1, 0, none⟩)) := hb_at h2 0 rfl
  have HU := Lib.hid (rU_any (w.heap.size + 1) (some l))
  have HRAW := Lib.hid (Cm.raw_eq Cm.wr64 l)
  have hv0 := wrap_wr (spU_lt (some l))
  have HL1 : RowKit.Hid (∀ r, (Cx.spU (some l)).2 = some r → r.length ≤ 1000000) := Lib.hid (spU_len (fun r hr => by cases hr; exact hl))
  generalize Cx.spU (some l) = p at *
  obtain ⟨x, st1⟩ := p
  simp only at hv0
  generalize Cm.wr64 x = K at *
  have hPARTS := partsOf_any K
  obtain ⟨P, hP⟩ : ∃ P, Cm.hasPin K = P := ⟨_, rfl⟩
  obtain ⟨O, hO⟩ : ∃ O, Cm.hasOther K = O := ⟨_, rfl⟩
  obtain ⟨S, hS⟩ : ∃ S, Cm.hasSource K = S := ⟨_, rfl⟩
  have HRAW2 := Lib.hid (HRAW.out P O S hP hO hS)
  rw [hP, hO, hS] at hPARTS
  have HPARTS := Lib.hid hPARTS
  clear h0 h1 h2 hz1 hP hO hS hPARTS HRAW hmax HR0
  have hCL : (str l).size = l.length := str_size l
  have HCL := Lib.hid hCL
  clear hCL
  go_enter Try.func15, Try.ntmps15
  go_upto_region 2 with (go_at_call 35; ((with_reducible refine (newReader_any (str l) _).mono ?_); rintro e w' ⟨rfl, rfl⟩))
  generalize hWW : (((w.alloc (.cells zeroCmd 27)).alloc (.cells #[.string (str l), .bool true] 105)).alloc (.cells #[.pointer (some ⟨w.heap.size + 1, 0, none⟩)] 80)) = W1 at *
  have HWW := Lib.hid hWW
  clear hWW
  go_upto_region 3 with (go_at_call 36; ((with_reducible refine (HU.out _ (by exact HW1.out)).mono ?_); rintro e w2 ⟨rfl, h2, hg2⟩; have HR2 := Lib.hid h2; have HG2 := Lib.hid hg2; clear h2 hg2))
  have hz2 : w.heap.size + 1 + 1 < w2.heap.size := Nat.lt_of_lt_of_le HZ1.out HG2.out.size
  have HI2 : RowKit.Hid (Inv w (w2.alloc (.cells #[.int .i64 K, .string ⟨#[]⟩, .int .i64 0, .int .i64 0, .int .i64 0, .string ⟨#[]⟩, .int .i64 0, .int .i64 0, .int .i64 0, .string ⟨#[]⟩] 27)) (w.heap.size + 1 + 1) (w.heap.size + 1) w2.heap.size st1 ⟨K, Cm.noPin, Cm.noPin, ⟨#[]⟩⟩) := Lib.hid
    ⟨hb_alloc (hb_grown HW0.out HG2.out (by simp)) _, hb_alloc (hb_grown HX1.out HG2.out (by simp)) _, HR2.out.alloc _, hb_new w2 _, (HBW1.out.grown HG2.out HBW1.out.size (fun j hj => by cases hj; omega)).alloc (by omega) _⟩
  have HD : RowKit.Hid (Dis w (w.heap.size + 1 + 1) (w.heap.size + 1) w2.heap.size) := Lib.hid ⟨by omega, by omega, hz2⟩
  clear hcx HW1 HW0 HX1 HBW1 HZ1 HR2 HG2 HU
  have ck := hb_at HI2.out.cm 0 rfl
  go_upto_region 4 with (go_at_call 23; ((with_reducible refine (HPARTS.out _).mono ?_); rintro e w3 ⟨rfl, hb3⟩; have HB3 := Lib.hid hb3; clear hb3))
  clear ck
  have hz3 : w2.heap.size < w3.heap.size := Nat.lt_of_lt_of_le (by simp) HB3.out.size
  have HJ : RowKit.Hid (InvH w (w3.alloc (.cells #[.bool P, .bool O, .bool S] 66)) (w.heap.size + 1 + 1) (w.heap.size + 1) w2.heap.size w3.heap.size #[.bool P, .bool O, .bool S] st1 ⟨K, Cm.noPin, Cm.noPin, ⟨#[]⟩⟩) := Lib.hid ⟨(HI2.out.below HB3.out).alloc _, hb_new w3 _⟩
  have HDH : RowKit.Hid (DisH w (w.heap.size + 1 + 1) (w.heap.size + 1) w2.heap.size w3.heap.size) := Lib.hid ⟨HD.out, hz3⟩
  generalize w.heap.size + 1 + 1 = X at *
  generalize hRR : w.heap.size + 1 = R at *
  have HRR := Lib.hid hRR
  clear hRR
  generalize w2.heap.size = C at *
  generalize w3.heap.size = H at *
  clear hz2 hz3 HI2 HD HB3 hv0 HCL HPARTS HWW
  generalize w3.alloc (.cells #[.bool P, .bool O, .bool S] 66) = W3 at *
  have hXR : X ≠ R := by have := HDH.out.d.x; omega
  obtain ⟨g0, g1, g2⟩ := has_cells HJ.out.h
  have px := HJ.out.px0
  cases P with
  | false =>
    go_upto_region 6 with fail
    cases O with
    | false =>
      go_upto_region 8 with fail
      cases S with
      | false =>
        go_upto_region 10 with fail
        have HRW : RowKit.Hid (Cm.raw Cm.wr64 l = ((⟨K, Cm.noPin, Cm.noPin, ⟨#[]⟩⟩ : Cm.Cmd), st1)) := Lib.hid (by exact HRAW2.out)
        have HI := Lib.hid HJ.out.i
        clear g0 g1 g2
        obtain ⟨z0, z1, z2, z3, z4, z5, z6, z7, z8, z9⟩ := zero_cells HI.out.rs
        obtain ⟨y0, y1, y2, y3, y4, y5, y6, y7, y8, y9⟩ := ten_free HI.out.rs
        obtain ⟨k0, k1, k2, k3, k4, k5, k6, k7, k8, k9⟩ := cmd_cells HI.out.cm
        rcases hd : stDone (st1) with _ | _
        · have HDN := Lib.hid hd
          clear hd
          go_wp2_with (go_at_call 39; ((with_reducible refine (done_any R (st1) _ (by exact HI.out.rd)).mono ?_); rintro e w' ⟨rfl, rfl⟩; rw [HDN.out]))
          exact bodyPost_ret (v := .tuple #[cmdv Cm.noCmd, .int .i64 8]) (by simp [results, Try.results15, go_sem, z0, z1, z2, z3, z4, z5, z6, z7, z8, z9]) rfl ⟨by rw [Cm.dec_bad1 HRW.out HDN.out], below_sets HI.out.bl⟩
        · have HDN := Lib.hid hd
          clear hd
          rcases hri : Cm.rightB ((⟨K, Cm.noPin, Cm.noPin, ⟨#[]⟩⟩ : Cm.Cmd)) with _ | _
          · have HRI := Lib.hid hri
            clear hri
            clear z0 z1 z2 z3 z4 z5 z6 z7 z8 z9 y0 y1 y2 y3 y4 y5 y6 y7 y8 y9
            go_wp2_with (first
              | (go_at_call 39; ((with_reducible refine (done_any R (st1) _ (by exact HI.out.rd)).mono ?_); rintro e w' ⟨rfl, rfl⟩; rw [HDN.out]))
              | (go_at_call 11; ((with_reducible refine (cmdRight_any ((⟨K, Cm.noPin, Cm.noPin, ⟨#[]⟩⟩ : Cm.Cmd)) _).mono ?_); rintro e w9 ⟨rfl, hb9⟩; rw [HRI.out]; have HI9 := Lib.hid (HI.out.below hb9); clear hb9; obtain ⟨z0, z1, z2, z3, z4, z5, z6, z7, z8, z9⟩ := zero_cells HI9.out.rs; obtain ⟨y0, y1, y2, y3, y4, y5, y6, y7, y8, y9⟩ := ten_free HI9.out.rs; obtain ⟨k0, k1, k2, k3, k4, k5, k6, k7, k8, k9⟩ := cmd_cells HI9.out.cm)))
            exact bodyPost_ret (v := .tuple #[cmdv Cm.noCmd, .int .i64 8]) (by simp [results, Try.results15, go_sem, z0, z1, z2, z3, z4, z5, z6, z7, z8, z9]) rfl ⟨by rw [Cm.dec_bad2 HRW.out HRI.out], below_sets HI9.out.bl⟩
          · have HRI := Lib.hid hri
            clear hri
            clear z0 z1 z2 z3 z4 z5 z6 z7 z8 z9 y0 y1 y2 y3 y4 y5 y6 y7 y8 y9
            go_wp2_with (first
              | (go_at_call 39; ((with_reducible refine (done_any R (st1) _ (by exact HI.out.rd)).mono ?_); rintro e w' ⟨rfl, rfl⟩; rw [HDN.out]))
              | (go_at_call 11; ((with_reducible refine (cmdRight_any ((⟨K, Cm.noPin, Cm.noPin, ⟨#[]⟩⟩ : Cm.Cmd)) _).mono ?_); rintro e w9 ⟨rfl, hb9⟩; rw [HRI.out]; have HI9 := Lib.hid (HI.out.below hb9); clear hb9; obtain ⟨z0, z1, z2, z3, z4, z5, z6, z7, z8, z9⟩ := zero_cells HI9.out.rs; obtain ⟨y0, y1, y2, y3, y4, y5, y6, y7, y8, y9⟩ := ten_free HI9.out.rs; obtain ⟨k0, k1, k2, k3, k4, k5, k6, k7, k8, k9⟩ := cmd_cells HI9.out.cm)))
            exact bodyPost_ret (v := .tuple #[cmdv ((⟨K, Cm.noPin, Cm.noPin, ⟨#[]⟩⟩ : Cm.Cmd)), .int .i64 0]) (by simp [results, Try.results15, go_sem, z0, z1, z2, z3, z4, z5, z6, z7, z8, z9]) rfl ⟨by rw [Cm.dec_ok HRW.out HDN.out HRI.out], below_sets HI9.out.bl⟩
      | true =>
        go_upto_region 10 with (go_at_call 38; ((with_reducible refine (rT_any R (st1) HL1.out _ (by exact HJ.out.i.rd)).mono ?_); rintro e w7 ⟨rfl, h7, hg7⟩; have HJ7 := Lib.hid (HJ.out.call HDH.out hg7 h7); clear h7 hg7; have c9 := hb_at HJ7.out.i.cm 9 rfl; have f9 := hb_free HJ7.out.i.cm 9))
        clear c9 f9 g0 g1 g2 px
        have HJZ := Lib.hid (HJ7.out.setS HDH.out (str (Cx.spT (st1)).1))
        obtain ⟨g0, g1, g2⟩ := has_cells HJZ.out.h
        have px := HJZ.out.px0
        have HRW : RowKit.Hid (Cm.raw Cm.wr64 l = ((⟨K, Cm.noPin, Cm.noPin, str (Cx.spT (st1)).1⟩ : Cm.Cmd), (Cx.spT (st1)).2)) := Lib.hid (by exact HRAW2.out)
        have HI := Lib.hid HJZ.out.i
        clear g0 g1 g2
        obtain ⟨z0, z1, z2, z3, z4, z5, z6, z7, z8, z9⟩ := zero_cells HI.out.rs
        obtain ⟨y0, y1, y2, y3, y4, y5, y6, y7, y8, y9⟩ := ten_free HI.out.rs
        obtain ⟨k0, k1, k2, k3, k4, k5, k6, k7, k8, k9⟩ := cmd_cells HI.out.cm
        rcases hd : stDone ((Cx.spT (st1)).2) with _ | _
        · have HDN := Lib.hid hd
          clear hd
          go_wp2_with (go_at_call 39; ((with_reducible refine (done_any R ((Cx.spT (st1)).2) _ (by exact HI.out.rd)).mono ?_); rintro e w' ⟨rfl, rfl⟩; rw [HDN.out]))
          exact bodyPost_ret (v := .tuple #[cmdv Cm.noCmd, .int .i64 8]) (by simp [results, Try.results15, go_sem, z0, z1, z2, z3, z4, z5, z6, z7, z8, z9]) rfl ⟨by rw [Cm.dec_bad1 HRW.out HDN.out], below_sets HI.out.bl⟩
        · have HDN := Lib.hid hd
          clear hd
          rcases hri : Cm.rightB ((⟨K, Cm.noPin, Cm.noPin, str (Cx.spT (st1)).1⟩ : Cm.Cmd)) with _ | _
          · have HRI := Lib.hid hri
            clear hri
            clear z0 z1 z2 z3 z4 z5 z6 z7 z8 z9 y0 y1 y2 y3 y4 y5 y6 y7 y8 y9
            go_wp2_with (first
              | (go_at_call 39; ((with_reducible refine (done_any R ((Cx.spT (st1)).2) _ (by exact HI.out.rd)).mono ?_); rintro e w' ⟨rfl, rfl⟩; rw [HDN.out]))
              | (go_at_call 11; ((with_reducible refine (cmdRight_any ((⟨K, Cm.noPin, Cm.noPin, str (Cx.spT (st1)).1⟩ : Cm.Cmd)) _).mono ?_); rintro e w9 ⟨rfl, hb9⟩; rw [HRI.out]; have HI9 := Lib.hid (HI.out.below hb9); clear hb9; obtain ⟨z0, z1, z2, z3, z4, z5, z6, z7, z8, z9⟩ := zero_cells HI9.out.rs; obtain ⟨y0, y1, y2, y3, y4, y5, y6, y7, y8, y9⟩ := ten_free HI9.out.rs; obtain ⟨k0, k1, k2, k3, k4, k5, k6, k7, k8, k9⟩ := cmd_cells HI9.out.cm)))
            exact bodyPost_ret (v := .tuple #[cmdv Cm.noCmd, .int .i64 8]) (by simp [results, Try.results15, go_sem, z0, z1, z2, z3, z4, z5, z6, z7, z8, z9]) rfl ⟨by rw [Cm.dec_bad2 HRW.out HRI.out], below_sets HI9.out.bl⟩
          · have HRI := Lib.hid hri
            clear hri
            clear z0 z1 z2 z3 z4 z5 z6 z7 z8 z9 y0 y1 y2 y3 y4 y5 y6 y7 y8 y9
            go_wp2_with (first
              | (go_at_call 39; ((with_reducible refine (done_any R ((Cx.spT (st1)).2) _ (by exact HI.out.rd)).mono ?_); rintro e w' ⟨rfl, rfl⟩; rw [HDN.out]))
              | (go_at_call 11; ((with_reducible refine (cmdRight_any ((⟨K, Cm.noPin, Cm.noPin, str (Cx.spT (st1)).1⟩ : Cm.Cmd)) _).mono ?_); rintro e w9 ⟨rfl, hb9⟩; rw [HRI.out]; have HI9 := Lib.hid (HI.out.below hb9); clear hb9; obtain ⟨z0, z1, z2, z3, z4, z5, z6, z7, z8, z9⟩ := zero_cells HI9.out.rs; obtain ⟨y0, y1, y2, y3, y4, y5, y6, y7, y8, y9⟩ := ten_free HI9.out.rs; obtain ⟨k0, k1, k2, k3, k4, k5, k6, k7, k8, k9⟩ := cmd_cells HI9.out.cm)))
            exact bodyPost_ret (v := .tuple #[cmdv ((⟨K, Cm.noPin, Cm.noPin, str (Cx.spT (st1)).1⟩ : Cm.Cmd)), .int .i64 0]) (by simp [results, Try.results15, go_sem, z0, z1, z2, z3, z4, z5, z6, z7, z8, z9]) rfl ⟨by rw [Cm.dec_ok HRW.out HDN.out HRI.out], below_sets HI9.out.bl⟩
    | true =>
      go_upto_region 8 with (go_at_call 37; ((with_reducible refine (rdPin_any X R (st1) HL1.out _ (by exact HJ.out.i.px) (by exact HJ.out.i.rd) hXR).mono ?_); rintro e w6 ⟨rfl, h6, hg6⟩; have HJ6 := Lib.hid (HJ.out.call HDH.out hg6 h6); clear h6 hg6; have HCM := HJ6.out.i.cm; have c5 := hb_at HCM 5 rfl; have f5 := hb_free HCM 5; have c6 := hb_at HCM 6 rfl; have f6 := hb_free HCM 6; have c7 := hb_at HCM 7 rfl; have f7 := hb_free HCM 7; have c8 := hb_at HCM 8 rfl; have f8 := hb_free HCM 8; have HCM := Lib.hid HCM))
      clear HCM c5 f5 c6 f6 c7 f7 c8 f8
      clear g0 g1 g2 px
      have HJs := Lib.hid (HJ6.out.setB HDH.out (Cm.rdPin Cm.wr64 (st1)).1)
      have HLHJs : RowKit.Hid (∀ r, (Cm.rdPin Cm.wr64 (st1)).2 = some r → r.length ≤ 1000000) := Lib.hid (rdPin_len HL1.out)
      obtain ⟨g0, g1, g2⟩ := has_cells HJs.out.h
      have px := HJs.out.px0
      cases S with
      | false =>
        go_upto_region 10 with fail
        have HRW : RowKit.Hid (Cm.raw Cm.wr64 l = ((⟨K, Cm.noPin, (Cm.rdPin Cm.wr64 (st1)).1, ⟨#[]⟩⟩ : Cm.Cmd), (Cm.rdPin Cm.wr64 (st1)).2)) := Lib.hid (by exact HRAW2.out)
        have HI := Lib.hid HJs.out.i
        clear g0 g1 g2
        obtain ⟨z0, z1, z2, z3, z4, z5, z6, z7, z8, z9⟩ := zero_cells HI.out.rs
        obtain ⟨y0, y1, y2, y3, y4, y5, y6, y7, y8, y9⟩ := ten_free HI.out.rs
        obtain ⟨k0, k1, k2, k3, k4, k5, k6, k7, k8, k9⟩ := cmd_cells HI.out.cm
        rcases hd : stDone ((Cm.rdPin Cm.wr64 (st1)).2) with _ | _
        · have HDN := Lib.hid hd
          clear hd
          go_wp2_with (go_at_call 39; ((with_reducible refine (done_any R ((Cm.rdPin Cm.wr64 (st1)).2) _ (by exact HI.out.rd)).mono ?_); rintro e w' ⟨rfl, rfl⟩; rw [HDN.out]))
          exact bodyPost_ret (v := .tuple #[cmdv Cm.noCmd, .int .i64 8]) (by simp [results, Try.results15, go_sem, z0, z1, z2, z3, z4, z5, z6, z7, z8, z9]) rfl ⟨by rw [Cm.dec_bad1 HRW.out HDN.out], below_sets HI.out.bl⟩
        · have HDN := Lib.hid hd
          clear hd
          rcases hri : Cm.rightB ((⟨K, Cm.noPin, (Cm.rdPin Cm.wr64 (st1)).1, ⟨#[]⟩⟩ : Cm.Cmd)) with _ | _
          · have HRI := Lib.hid hri
            clear hri
            clear z0 z1 z2 z3 z4 z5 z6 z7 z8 z9 y0 y1 y2 y3 y4 y5 y6 y7 y8 y9
            go_wp2_with (first
              | (go_at_call 39; ((with_reducible refine (done_any R ((Cm.rdPin Cm.wr64 (st1)).2) _ (by exact HI.out.rd)).mono ?_); rintro e w' ⟨rfl, rfl⟩; rw [HDN.out]))
              | (go_at_call 11; ((with_reducible refine (cmdRight_any ((⟨K, Cm.noPin, (Cm.rdPin Cm.wr64 (st1)).1, ⟨#[]⟩⟩ : Cm.Cmd)) _).mono ?_); rintro e w9 ⟨rfl, hb9⟩; rw [HRI.out]; have HI9 := Lib.hid (HI.out.below hb9); clear hb9; obtain ⟨z0, z1, z2, z3, z4, z5, z6, z7, z8, z9⟩ := zero_cells HI9.out.rs; obtain ⟨y0, y1, y2, y3, y4, y5, y6, y7, y8, y9⟩ := ten_free HI9.out.rs; obtain ⟨k0, k1, k2, k3, k4, k5, k6, k7, k8, k9⟩ := cmd_cells HI9.out.cm)))
            exact bodyPost_ret (v := .tuple #[cmdv Cm.noCmd, .int .i64 8]) (by simp [results, Try.results15, go_sem, z0, z1, z2, z3, z4, z5, z6, z7, z8, z9]) rfl ⟨by rw [Cm.dec_bad2 HRW.out HRI.out], below_sets HI9.out.bl⟩
          · have HRI := Lib.hid hri
            clear hri
            clear z0 z1 z2 z3 z4 z5 z6 z7 z8 z9 y0 y1 y2 y3 y4 y5 y6 y7 y8 y9
            go_wp2_with (first
              | (go_at_call 39; ((with_reducible refine (done_any R ((Cm.rdPin Cm.wr64 (st1)).2) _ (by exact HI.out.rd)).mono ?_); rintro e w' ⟨rfl, rfl⟩; rw [HDN.out]))
              | (go_at_call 11; ((with_reducible refine (cmdRight_any ((⟨K, Cm.noPin, (Cm.rdPin Cm.wr64 (st1)).1, ⟨#[]⟩⟩ : Cm.Cmd)) _).mono ?_); rintro e w9 ⟨rfl, hb9⟩; rw [HRI.out]; have HI9 := Lib.hid (HI.out.below hb9); clear hb9; obtain ⟨z0, z1, z2, z3, z4, z5, z6, z7, z8, z9⟩ := zero_cells HI9.out.rs; obtain ⟨y0, y1, y2, y3, y4, y5, y6, y7, y8, y9⟩ := ten_free HI9.out.rs; obtain ⟨k0, k1, k2, k3, k4, k5, k6, k7, k8, k9⟩ := cmd_cells HI9.out.cm)))
            exact bodyPost_ret (v := .tuple #[cmdv ((⟨K, Cm.noPin, (Cm.rdPin Cm.wr64 (st1)).1, ⟨#[]⟩⟩ : Cm.Cmd)), .int .i64 0]) (by simp [results, Try.results15, go_sem, z0, z1, z2, z3, z4, z5, z6, z7, z8, z9]) rfl ⟨by rw [Cm.dec_ok HRW.out HDN.out HRI.out], below_sets HI9.out.bl⟩
      | true =>
        go_upto_region 10 with (go_at_call 38; ((with_reducible refine (rT_any R ((Cm.rdPin Cm.wr64 (st1)).2) HLHJs.out _ (by exact HJs.out.i.rd)).mono ?_); rintro e w7 ⟨rfl, h7, hg7⟩; have HJ7 := Lib.hid (HJs.out.call HDH.out hg7 h7); clear h7 hg7; have c9 := hb_at HJ7.out.i.cm 9 rfl; have f9 := hb_free HJ7.out.i.cm 9))
        clear c9 f9 g0 g1 g2 px
        have HJZ := Lib.hid (HJ7.out.setS HDH.out (str (Cx.spT ((Cm.rdPin Cm.wr64 (st1)).2)).1))
        obtain ⟨g0, g1, g2⟩ := has_cells HJZ.out.h
        have px := HJZ.out.px0
        have HRW : RowKit.Hid (Cm.raw Cm.wr64 l = ((⟨K, Cm.noPin, (Cm.rdPin Cm.wr64 (st1)).1, str (Cx.spT ((Cm.rdPin Cm.wr64 (st1)).2)).1⟩ : Cm.Cmd), (Cx.spT ((Cm.rdPin Cm.wr64 (st1)).2)).2)) := Lib.hid (by exact HRAW2.out)
        have HI := Lib.hid HJZ.out.i
        clear g0 g1 g2
        obtain ⟨z0, z1, z2, z3, z4, z5, z6, z7, z8, z9⟩ := zero_cells HI.out.rs
        obtain ⟨y0, y1, y2, y3, y4, y5, y6, y7, y8, y9⟩ := ten_free HI.out.rs
        obtain ⟨k0, k1, k2, k3, k4, k5, k6, k7, k8, k9⟩ := cmd_cells HI.out.cm
        rcases hd : stDone ((Cx.spT ((Cm.rdPin Cm.wr64 (st1)).2)).2) with _ | _
        · have HDN := Lib.hid hd
          clear hd
          go_wp2_with (go_at_call 39; ((with_reducible refine (done_any R ((Cx.spT ((Cm.rdPin Cm.wr64 (st1)).2)).2) _ (by exact HI.out.rd)).mono ?_); rintro e w' ⟨rfl, rfl⟩; rw [HDN.out]))
          exact bodyPost_ret (v := .tuple #[cmdv Cm.noCmd, .int .i64 8]) (by simp [results, Try.results15, go_sem, z0, z1, z2, z3, z4, z5, z6, z7, z8, z9]) rfl ⟨by rw [Cm.dec_bad1 HRW.out HDN.out], below_sets HI.out.bl⟩
        · have HDN := Lib.hid hd
          clear hd
          rcases hri : Cm.rightB ((⟨K, Cm.noPin, (Cm.rdPin Cm.wr64 (st1)).1, str (Cx.spT ((Cm.rdPin Cm.wr64 (st1)).2)).1⟩ : Cm.Cmd)) with _ | _
          · have HRI := Lib.hid hri
            clear hri
            clear z0 z1 z2 z3 z4 z5 z6 z7 z8 z9 y0 y1 y2 y3 y4 y5 y6 y7 y8 y9
            go_wp2_with (first
              | (go_at_call 39; ((with_reducible refine (done_any R ((Cx.spT ((Cm.rdPin Cm.wr64 (st1)).2)).2) _ (by exact HI.out.rd)).mono ?_); rintro e w' ⟨rfl, rfl⟩; rw [HDN.out]))
              | (go_at_call 11; ((with_reducible refine (cmdRight_any ((⟨K, Cm.noPin, (Cm.rdPin Cm.wr64 (st1)).1, str (Cx.spT ((Cm.rdPin Cm.wr64 (st1)).2)).1⟩ : Cm.Cmd)) _).mono ?_); rintro e w9 ⟨rfl, hb9⟩; rw [HRI.out]; have HI9 := Lib.hid (HI.out.below hb9); clear hb9; obtain ⟨z0, z1, z2, z3, z4, z5, z6, z7, z8, z9⟩ := zero_cells HI9.out.rs; obtain ⟨y0, y1, y2, y3, y4, y5, y6, y7, y8, y9⟩ := ten_free HI9.out.rs; obtain ⟨k0, k1, k2, k3, k4, k5, k6, k7, k8, k9⟩ := cmd_cells HI9.out.cm)))
            exact bodyPost_ret (v := .tuple #[cmdv Cm.noCmd, .int .i64 8]) (by simp [results, Try.results15, go_sem, z0, z1, z2, z3, z4, z5, z6, z7, z8, z9]) rfl ⟨by rw [Cm.dec_bad2 HRW.out HRI.out], below_sets HI9.out.bl⟩
          · have HRI := Lib.hid hri
            clear hri
            clear z0 z1 z2 z3 z4 z5 z6 z7 z8 z9 y0 y1 y2 y3 y4 y5 y6 y7 y8 y9
            go_wp2_with (first
              | (go_at_call 39; ((with_reducible refine (done_any R ((Cx.spT ((Cm.rdPin Cm.wr64 (st1)).2)).2) _ (by exact HI.out.rd)).mono ?_); rintro e w' ⟨rfl, rfl⟩; rw [HDN.out]))
              | (go_at_call 11; ((with_reducible refine (cmdRight_any ((⟨K, Cm.noPin, (Cm.rdPin Cm.wr64 (st1)).1, str (Cx.spT ((Cm.rdPin Cm.wr64 (st1)).2)).1⟩ : Cm.Cmd)) _).mono ?_); rintro e w9 ⟨rfl, hb9⟩; rw [HRI.out]; have HI9 := Lib.hid (HI.out.below hb9); clear hb9; obtain ⟨z0, z1, z2, z3, z4, z5, z6, z7, z8, z9⟩ := zero_cells HI9.out.rs; obtain ⟨y0, y1, y2, y3, y4, y5, y6, y7, y8, y9⟩ := ten_free HI9.out.rs; obtain ⟨k0, k1, k2, k3, k4, k5, k6, k7, k8, k9⟩ := cmd_cells HI9.out.cm)))
            exact bodyPost_ret (v := .tuple #[cmdv ((⟨K, Cm.noPin, (Cm.rdPin Cm.wr64 (st1)).1, str (Cx.spT ((Cm.rdPin Cm.wr64 (st1)).2)).1⟩ : Cm.Cmd)), .int .i64 0]) (by simp [results, Try.results15, go_sem, z0, z1, z2, z3, z4, z5, z6, z7, z8, z9]) rfl ⟨by rw [Cm.dec_ok HRW.out HDN.out HRI.out], below_sets HI9.out.bl⟩
  | true =>
    go_upto_region 6 with (go_at_call 37; ((with_reducible refine (rdPin_any X R (st1) HL1.out _ (by exact HJ.out.i.px) (by exact HJ.out.i.rd) hXR).mono ?_); rintro e w5 ⟨rfl, h5, hg5⟩; have HJ5 := Lib.hid (HJ.out.call HDH.out hg5 h5); clear h5 hg5; have HCM := HJ5.out.i.cm; have c1 := hb_at HCM 1 rfl; have f1 := hb_free HCM 1; have c2 := hb_at HCM 2 rfl; have f2 := hb_free HCM 2; have c3 := hb_at HCM 3 rfl; have f3 := hb_free HCM 3; have c4 := hb_at HCM 4 rfl; have f4 := hb_free HCM 4; have HCM := Lib.hid HCM))
    clear HCM c1 f1 c2 f2 c3 f3 c4 f4
    clear g0 g1 g2 px
    have HJs := Lib.hid (HJ5.out.setA HDH.out (Cm.rdPin Cm.wr64 (st1)).1)
    have HLHJs : RowKit.Hid (∀ r, (Cm.rdPin Cm.wr64 (st1)).2 = some r → r.length ≤ 1000000) := Lib.hid (rdPin_len HL1.out)
    obtain ⟨g0, g1, g2⟩ := has_cells HJs.out.h
    have px := HJs.out.px0
    cases O with
    | false =>
      go_upto_region 8 with fail
      cases S with
      | false =>
        go_upto_region 10 with fail
        have HRW : RowKit.Hid (Cm.raw Cm.wr64 l = ((⟨K, (Cm.rdPin Cm.wr64 (st1)).1, Cm.noPin, ⟨#[]⟩⟩ : Cm.Cmd), (Cm.rdPin Cm.wr64 (st1)).2)) := Lib.hid (by exact HRAW2.out)
        have HI := Lib.hid HJs.out.i
        clear g0 g1 g2
        obtain ⟨z0, z1, z2, z3, z4, z5, z6, z7, z8, z9⟩ := zero_cells HI.out.rs
        obtain ⟨y0, y1, y2, y3, y4, y5, y6, y7, y8, y9⟩ := ten_free HI.out.rs
        obtain ⟨k0, k1, k2, k3, k4, k5, k6, k7, k8, k9⟩ := cmd_cells HI.out.cm
        rcases hd : stDone ((Cm.rdPin Cm.wr64 (st1)).2) with _ | _
        · have HDN := Lib.hid hd
          clear hd
          go_wp2_with (go_at_call 39; ((with_reducible refine (done_any R ((Cm.rdPin Cm.wr64 (st1)).2) _ (by exact HI.out.rd)).mono ?_); rintro e w' ⟨rfl, rfl⟩; rw [HDN.out]))
          exact bodyPost_ret (v := .tuple #[cmdv Cm.noCmd, .int .i64 8]) (by simp [results, Try.results15, go_sem, z0, z1, z2, z3, z4, z5, z6, z7, z8, z9]) rfl ⟨by rw [Cm.dec_bad1 HRW.out HDN.out], below_sets HI.out.bl⟩
        · have HDN := Lib.hid hd
          clear hd
          rcases hri : Cm.rightB ((⟨K, (Cm.rdPin Cm.wr64 (st1)).1, Cm.noPin, ⟨#[]⟩⟩ : Cm.Cmd)) with _ | _
          · have HRI := Lib.hid hri
            clear hri
            clear z0 z1 z2 z3 z4 z5 z6 z7 z8 z9 y0 y1 y2 y3 y4 y5 y6 y7 y8 y9
            go_wp2_with (first
              | (go_at_call 39; ((with_reducible refine (done_any R ((Cm.rdPin Cm.wr64 (st1)).2) _ (by exact HI.out.rd)).mono ?_); rintro e w' ⟨rfl, rfl⟩; rw [HDN.out]))
              | (go_at_call 11; ((with_reducible refine (cmdRight_any ((⟨K, (Cm.rdPin Cm.wr64 (st1)).1, Cm.noPin, ⟨#[]⟩⟩ : Cm.Cmd)) _).mono ?_); rintro e w9 ⟨rfl, hb9⟩; rw [HRI.out]; have HI9 := Lib.hid (HI.out.below hb9); clear hb9; obtain ⟨z0, z1, z2, z3, z4, z5, z6, z7, z8, z9⟩ := zero_cells HI9.out.rs; obtain ⟨y0, y1, y2, y3, y4, y5, y6, y7, y8, y9⟩ := ten_free HI9.out.rs; obtain ⟨k0, k1, k2, k3, k4, k5, k6, k7, k8, k9⟩ := cmd_cells HI9.out.cm)))
            exact bodyPost_ret (v := .tuple #[cmdv Cm.noCmd, .int .i64 8]) (by simp [results, Try.results15, go_sem, z0, z1, z2, z3, z4, z5, z6, z7, z8, z9]) rfl ⟨by rw [Cm.dec_bad2 HRW.out HRI.out], below_sets HI9.out.bl⟩
          · have HRI := Lib.hid hri
            clear hri
            clear z0 z1 z2 z3 z4 z5 z6 z7 z8 z9 y0 y1 y2 y3 y4 y5 y6 y7 y8 y9
            go_wp2_with (first
              | (go_at_call 39; ((with_reducible refine (done_any R ((Cm.rdPin Cm.wr64 (st1)).2) _ (by exact HI.out.rd)).mono ?_); rintro e w' ⟨rfl, rfl⟩; rw [HDN.out]))
              | (go_at_call 11; ((with_reducible refine (cmdRight_any ((⟨K, (Cm.rdPin Cm.wr64 (st1)).1, Cm.noPin, ⟨#[]⟩⟩ : Cm.Cmd)) _).mono ?_); rintro e w9 ⟨rfl, hb9⟩; rw [HRI.out]; have HI9 := Lib.hid (HI.out.below hb9); clear hb9; obtain ⟨z0, z1, z2, z3, z4, z5, z6, z7, z8, z9⟩ := zero_cells HI9.out.rs; obtain ⟨y0, y1, y2, y3, y4, y5, y6, y7, y8, y9⟩ := ten_free HI9.out.rs; obtain ⟨k0, k1, k2, k3, k4, k5, k6, k7, k8, k9⟩ := cmd_cells HI9.out.cm)))
            exact bodyPost_ret (v := .tuple #[cmdv ((⟨K, (Cm.rdPin Cm.wr64 (st1)).1, Cm.noPin, ⟨#[]⟩⟩ : Cm.Cmd)), .int .i64 0]) (by simp [results, Try.results15, go_sem, z0, z1, z2, z3, z4, z5, z6, z7, z8, z9]) rfl ⟨by rw [Cm.dec_ok HRW.out HDN.out HRI.out], below_sets HI9.out.bl⟩
      | true =>
        go_upto_region 10 with (go_at_call 38; ((with_reducible refine (rT_any R ((Cm.rdPin Cm.wr64 (st1)).2) HLHJs.out _ (by exact HJs.out.i.rd)).mono ?_); rintro e w7 ⟨rfl, h7, hg7⟩; have HJ7 := Lib.hid (HJs.out.call HDH.out hg7 h7); clear h7 hg7; have c9 := hb_at HJ7.out.i.cm 9 rfl; have f9 := hb_free HJ7.out.i.cm 9))
        clear c9 f9 g0 g1 g2 px
        have HJZ := Lib.hid (HJ7.out.setS HDH.out (str (Cx.spT ((Cm.rdPin Cm.wr64 (st1)).2)).1))
        obtain ⟨g0, g1, g2⟩ := has_cells HJZ.out.h
        have px := HJZ.out.px0
        have HRW : RowKit.Hid (Cm.raw Cm.wr64 l = ((⟨K, (Cm.rdPin Cm.wr64 (st1)).1, Cm.noPin, str (Cx.spT ((Cm.rdPin Cm.wr64 (st1)).2)).1⟩ : Cm.Cmd), (Cx.spT ((Cm.rdPin Cm.wr64 (st1)).2)).2)) := Lib.hid (by exact HRAW2.out)
        have HI := Lib.hid HJZ.out.i
        clear g0 g1 g2
        obtain ⟨z0, z1, z2, z3, z4, z5, z6, z7, z8, z9⟩ := zero_cells HI.out.rs
        obtain ⟨y0, y1, y2, y3, y4, y5, y6, y7, y8, y9⟩ := ten_free HI.out.rs
        obtain ⟨k0, k1, k2, k3, k4, k5, k6, k7, k8, k9⟩ := cmd_cells HI.out.cm
        rcases hd : stDone ((Cx.spT ((Cm.rdPin Cm.wr64 (st1)).2)).2) with _ | _
        · have HDN := Lib.hid hd
          clear hd
          go_wp2_with (go_at_call 39; ((with_reducible refine (done_any R ((Cx.spT ((Cm.rdPin Cm.wr64 (st1)).2)).2) _ (by exact HI.out.rd)).mono ?_); rintro e w' ⟨rfl, rfl⟩; rw [HDN.out]))
          exact bodyPost_ret (v := .tuple #[cmdv Cm.noCmd, .int .i64 8]) (by simp [results, Try.results15, go_sem, z0, z1, z2, z3, z4, z5, z6, z7, z8, z9]) rfl ⟨by rw [Cm.dec_bad1 HRW.out HDN.out], below_sets HI.out.bl⟩
        · have HDN := Lib.hid hd
          clear hd
          rcases hri : Cm.rightB ((⟨K, (Cm.rdPin Cm.wr64 (st1)).1, Cm.noPin, str (Cx.spT ((Cm.rdPin Cm.wr64 (st1)).2)).1⟩ : Cm.Cmd)) with _ | _
          · have HRI := Lib.hid hri
            clear hri
            clear z0 z1 z2 z3 z4 z5 z6 z7 z8 z9 y0 y1 y2 y3 y4 y5 y6 y7 y8 y9
            go_wp2_with (first
              | (go_at_call 39; ((with_reducible refine (done_any R ((Cx.spT ((Cm.rdPin Cm.wr64 (st1)).2)).2) _ (by exact HI.out.rd)).mono ?_); rintro e w' ⟨rfl, rfl⟩; rw [HDN.out]))
              | (go_at_call 11; ((with_reducible refine (cmdRight_any ((⟨K, (Cm.rdPin Cm.wr64 (st1)).1, Cm.noPin, str (Cx.spT ((Cm.rdPin Cm.wr64 (st1)).2)).1⟩ : Cm.Cmd)) _).mono ?_); rintro e w9 ⟨rfl, hb9⟩; rw [HRI.out]; have HI9 := Lib.hid (HI.out.below hb9); clear hb9; obtain ⟨z0, z1, z2, z3, z4, z5, z6, z7, z8, z9⟩ := zero_cells HI9.out.rs; obtain ⟨y0, y1, y2, y3, y4, y5, y6, y7, y8, y9⟩ := ten_free HI9.out.rs; obtain ⟨k0, k1, k2, k3, k4, k5, k6, k7, k8, k9⟩ := cmd_cells HI9.out.cm)))
            exact bodyPost_ret (v := .tuple #[cmdv Cm.noCmd, .int .i64 8]) (by simp [results, Try.results15, go_sem, z0, z1, z2, z3, z4, z5, z6, z7, z8, z9]) rfl ⟨by rw [Cm.dec_bad2 HRW.out HRI.out], below_sets HI9.out.bl⟩
          · have HRI := Lib.hid hri
            clear hri
            clear z0 z1 z2 z3 z4 z5 z6 z7 z8 z9 y0 y1 y2 y3 y4 y5 y6 y7 y8 y9
            go_wp2_with (first
              | (go_at_call 39; ((with_reducible refine (done_any R ((Cx.spT ((Cm.rdPin Cm.wr64 (st1)).2)).2) _ (by exact HI.out.rd)).mono ?_); rintro e w' ⟨rfl, rfl⟩; rw [HDN.out]))
              | (go_at_call 11; ((with_reducible refine (cmdRight_any ((⟨K, (Cm.rdPin Cm.wr64 (st1)).1, Cm.noPin, str (Cx.spT ((Cm.rdPin Cm.wr64 (st1)).2)).1⟩ : Cm.Cmd)) _).mono ?_); rintro e w9 ⟨rfl, hb9⟩; rw [HRI.out]; have HI9 := Lib.hid (HI.out.below hb9); clear hb9; obtain ⟨z0, z1, z2, z3, z4, z5, z6, z7, z8, z9⟩ := zero_cells HI9.out.rs; obtain ⟨y0, y1, y2, y3, y4, y5, y6, y7, y8, y9⟩ := ten_free HI9.out.rs; obtain ⟨k0, k1, k2, k3, k4, k5, k6, k7, k8, k9⟩ := cmd_cells HI9.out.cm)))
            exact bodyPost_ret (v := .tuple #[cmdv ((⟨K, (Cm.rdPin Cm.wr64 (st1)).1, Cm.noPin, str (Cx.spT ((Cm.rdPin Cm.wr64 (st1)).2)).1⟩ : Cm.Cmd)), .int .i64 0]) (by simp [results, Try.results15, go_sem, z0, z1, z2, z3, z4, z5, z6, z7, z8, z9]) rfl ⟨by rw [Cm.dec_ok HRW.out HDN.out HRI.out], below_sets HI9.out.bl⟩
    | true =>
      go_upto_region 8 with (go_at_call 37; ((with_reducible refine (rdPin_any X R ((Cm.rdPin Cm.wr64 (st1)).2) HLHJs.out _ (by exact HJs.out.i.px) (by exact HJs.out.i.rd) hXR).mono ?_); rintro e w6 ⟨rfl, h6, hg6⟩; have HJs6 := Lib.hid (HJs.out.call HDH.out hg6 h6); clear h6 hg6; have HCM := HJs6.out.i.cm; have c5 := hb_at HCM 5 rfl; have f5 := hb_free HCM 5; have c6 := hb_at HCM 6 rfl; have f6 := hb_free HCM 6; have c7 := hb_at HCM 7 rfl; have f7 := hb_free HCM 7; have c8 := hb_at HCM 8 rfl; have f8 := hb_free HCM 8; have HCM := Lib.hid HCM))
      clear HCM c5 f5 c6 f6 c7 f7 c8 f8
      clear g0 g1 g2 px
      have HJss := Lib.hid (HJs6.out.setB HDH.out (Cm.rdPin Cm.wr64 ((Cm.rdPin Cm.wr64 (st1)).2)).1)
      have HLHJss : RowKit.Hid (∀ r, (Cm.rdPin Cm.wr64 ((Cm.rdPin Cm.wr64 (st1)).2)).2 = some r → r.length ≤ 1000000) := Lib.hid (rdPin_len HLHJs.out)
      obtain ⟨g0, g1, g2⟩ := has_cells HJss.out.h
      have px := HJss.out.px0
      cases S with
      | false =>
        go_upto_region 10 with fail
        have HRW : RowKit.Hid (Cm.raw Cm.wr64 l = ((⟨K, (Cm.rdPin Cm.wr64 (st1)).1, (Cm.rdPin Cm.wr64 ((Cm.rdPin Cm.wr64 (st1)).2)).1, ⟨#[]⟩⟩ : Cm.Cmd), (Cm.rdPin Cm.wr64 ((Cm.rdPin Cm.wr64 (st1)).2)).2)) := Lib.hid (by exact HRAW2.out)
        have HI := Lib.hid HJss.out.i
        clear g0 g1 g2
        obtain ⟨z0, z1, z2, z3, z4, z5, z6, z7, z8, z9⟩ := zero_cells HI.out.rs
        obtain ⟨y0, y1, y2, y3, y4, y5, y6, y7, y8, y9⟩ := ten_free HI.out.rs
        obtain ⟨k0, k1, k2, k3, k4, k5, k6, k7, k8, k9⟩ := cmd_cells HI.out.cm
        rcases hd : stDone ((Cm.rdPin Cm.wr64 ((Cm.rdPin Cm.wr64 (st1)).2)).2) with _ | _
        · have HDN := Lib.hid hd
          clear hd
          go_wp2_with (go_at_call 39; ((with_reducible refine (done_any R ((Cm.rdPin Cm.wr64 ((Cm.rdPin Cm.wr64 (st1)).2)).2) _ (by exact HI.out.rd)).mono ?_); rintro e w' ⟨rfl, rfl⟩; rw [HDN.out]))
          exact bodyPost_ret (v := .tuple #[cmdv Cm.noCmd, .int .i64 8]) (by simp [results, Try.results15, go_sem, z0, z1, z2, z3, z4, z5, z6, z7, z8, z9]) rfl ⟨by rw [Cm.dec_bad1 HRW.out HDN.out], below_sets HI.out.bl⟩
        · have HDN := Lib.hid hd
          clear hd
          rcases hri : Cm.rightB ((⟨K, (Cm.rdPin Cm.wr64 (st1)).1, (Cm.rdPin Cm.wr64 ((Cm.rdPin Cm.wr64 (st1)).2)).1, ⟨#[]⟩⟩ : Cm.Cmd)) with _ | _
          · have HRI := Lib.hid hri
            clear hri
            clear z0 z1 z2 z3 z4 z5 z6 z7 z8 z9 y0 y1 y2 y3 y4 y5 y6 y7 y8 y9
            go_wp2_with (first
              | (go_at_call 39; ((with_reducible refine (done_any R ((Cm.rdPin Cm.wr64 ((Cm.rdPin Cm.wr64 (st1)).2)).2) _ (by exact HI.out.rd)).mono ?_); rintro e w' ⟨rfl, rfl⟩; rw [HDN.out]))
              | (go_at_call 11; ((with_reducible refine (cmdRight_any ((⟨K, (Cm.rdPin Cm.wr64 (st1)).1, (Cm.rdPin Cm.wr64 ((Cm.rdPin Cm.wr64 (st1)).2)).1, ⟨#[]⟩⟩ : Cm.Cmd)) _).mono ?_); rintro e w9 ⟨rfl, hb9⟩; rw [HRI.out]; have HI9 := Lib.hid (HI.out.below hb9); clear hb9; obtain ⟨z0, z1, z2, z3, z4, z5, z6, z7, z8, z9⟩ := zero_cells HI9.out.rs; obtain ⟨y0, y1, y2, y3, y4, y5, y6, y7, y8, y9⟩ := ten_free HI9.out.rs; obtain ⟨k0, k1, k2, k3, k4, k5, k6, k7, k8, k9⟩ := cmd_cells HI9.out.cm)))
            exact bodyPost_ret (v := .tuple #[cmdv Cm.noCmd, .int .i64 8]) (by simp [results, Try.results15, go_sem, z0, z1, z2, z3, z4, z5, z6, z7, z8, z9]) rfl ⟨by rw [Cm.dec_bad2 HRW.out HRI.out], below_sets HI9.out.bl⟩
          · have HRI := Lib.hid hri
            clear hri
            clear z0 z1 z2 z3 z4 z5 z6 z7 z8 z9 y0 y1 y2 y3 y4 y5 y6 y7 y8 y9
            go_wp2_with (first
              | (go_at_call 39; ((with_reducible refine (done_any R ((Cm.rdPin Cm.wr64 ((Cm.rdPin Cm.wr64 (st1)).2)).2) _ (by exact HI.out.rd)).mono ?_); rintro e w' ⟨rfl, rfl⟩; rw [HDN.out]))
              | (go_at_call 11; ((with_reducible refine (cmdRight_any ((⟨K, (Cm.rdPin Cm.wr64 (st1)).1, (Cm.rdPin Cm.wr64 ((Cm.rdPin Cm.wr64 (st1)).2)).1, ⟨#[]⟩⟩ : Cm.Cmd)) _).mono ?_); rintro e w9 ⟨rfl, hb9⟩; rw [HRI.out]; have HI9 := Lib.hid (HI.out.below hb9); clear hb9; obtain ⟨z0, z1, z2, z3, z4, z5, z6, z7, z8, z9⟩ := zero_cells HI9.out.rs; obtain ⟨y0, y1, y2, y3, y4, y5, y6, y7, y8, y9⟩ := ten_free HI9.out.rs; obtain ⟨k0, k1, k2, k3, k4, k5, k6, k7, k8, k9⟩ := cmd_cells HI9.out.cm)))
            exact bodyPost_ret (v := .tuple #[cmdv ((⟨K, (Cm.rdPin Cm.wr64 (st1)).1, (Cm.rdPin Cm.wr64 ((Cm.rdPin Cm.wr64 (st1)).2)).1, ⟨#[]⟩⟩ : Cm.Cmd)), .int .i64 0]) (by simp [results, Try.results15, go_sem, z0, z1, z2, z3, z4, z5, z6, z7, z8, z9]) rfl ⟨by rw [Cm.dec_ok HRW.out HDN.out HRI.out], below_sets HI9.out.bl⟩
      | true =>
        go_upto_region 10 with (go_at_call 38; ((with_reducible refine (rT_any R ((Cm.rdPin Cm.wr64 ((Cm.rdPin Cm.wr64 (st1)).2)).2) HLHJss.out _ (by exact HJss.out.i.rd)).mono ?_); rintro e w7 ⟨rfl, h7, hg7⟩; have HJ7 := Lib.hid (HJss.out.call HDH.out hg7 h7); clear h7 hg7; have c9 := hb_at HJ7.out.i.cm 9 rfl; have f9 := hb_free HJ7.out.i.cm 9))
        clear c9 f9 g0 g1 g2 px
        have HJZ := Lib.hid (HJ7.out.setS HDH.out (str (Cx.spT ((Cm.rdPin Cm.wr64 ((Cm.rdPin Cm.wr64 (st1)).2)).2)).1))
        obtain ⟨g0, g1, g2⟩ := has_cells HJZ.out.h
        have px := HJZ.out.px0
        have HRW : RowKit.Hid (Cm.raw Cm.wr64 l = ((⟨K, (Cm.rdPin Cm.wr64 (st1)).1, (Cm.rdPin Cm.wr64 ((Cm.rdPin Cm.wr64 (st1)).2)).1, str (Cx.spT ((Cm.rdPin Cm.wr64 ((Cm.rdPin Cm.wr64 (st1)).2)).2)).1⟩ : Cm.Cmd), (Cx.spT ((Cm.rdPin Cm.wr64 ((Cm.rdPin Cm.wr64 (st1)).2)).2)).2)) := Lib.hid (by exact HRAW2.out)
        have HI := Lib.hid HJZ.out.i
        clear g0 g1 g2
        obtain ⟨z0, z1, z2, z3, z4, z5, z6, z7, z8, z9⟩ := zero_cells HI.out.rs
        obtain ⟨y0, y1, y2, y3, y4, y5, y6, y7, y8, y9⟩ := ten_free HI.out.rs
        obtain ⟨k0, k1, k2, k3, k4, k5, k6, k7, k8, k9⟩ := cmd_cells HI.out.cm
        rcases hd : stDone ((Cx.spT ((Cm.rdPin Cm.wr64 ((Cm.rdPin Cm.wr64 (st1)).2)).2)).2) with _ | _
        · have HDN := Lib.hid hd
          clear hd
          go_wp2_with (go_at_call 39; ((with_reducible refine (done_any R ((Cx.spT ((Cm.rdPin Cm.wr64 ((Cm.rdPin Cm.wr64 (st1)).2)).2)).2) _ (by exact HI.out.rd)).mono ?_); rintro e w' ⟨rfl, rfl⟩; rw [HDN.out]))
          exact bodyPost_ret (v := .tuple #[cmdv Cm.noCmd, .int .i64 8]) (by simp [results, Try.results15, go_sem, z0, z1, z2, z3, z4, z5, z6, z7, z8, z9]) rfl ⟨by rw [Cm.dec_bad1 HRW.out HDN.out], below_sets HI.out.bl⟩
        · have HDN := Lib.hid hd
          clear hd
          rcases hri : Cm.rightB ((⟨K, (Cm.rdPin Cm.wr64 (st1)).1, (Cm.rdPin Cm.wr64 ((Cm.rdPin Cm.wr64 (st1)).2)).1, str (Cx.spT ((Cm.rdPin Cm.wr64 ((Cm.rdPin Cm.wr64 (st1)).2)).2)).1⟩ : Cm.Cmd)) with _ | _
          · have HRI := Lib.hid hri
            clear hri
            clear z0 z1 z2 z3 z4 z5 z6 z7 z8 z9 y0 y1 y2 y3 y4 y5 y6 y7 y8 y9
            go_wp2_with (first
              | (go_at_call 39; ((with_reducible refine (done_any R ((Cx.spT ((Cm.rdPin Cm.wr64 ((Cm.rdPin Cm.wr64 (st1)).2)).2)).2) _ (by exact HI.out.rd)).mono ?_); rintro e w' ⟨rfl, rfl⟩; rw [HDN.out]))
              | (go_at_call 11; ((with_reducible refine (cmdRight_any ((⟨K, (Cm.rdPin Cm.wr64 (st1)).1, (Cm.rdPin Cm.wr64 ((Cm.rdPin Cm.wr64 (st1)).2)).1, str (Cx.spT ((Cm.rdPin Cm.wr64 ((Cm.rdPin Cm.wr64 (st1)).2)).2)).1⟩ : Cm.Cmd)) _).mono ?_); rintro e w9 ⟨rfl, hb9⟩; rw [HRI.out]; have HI9 := Lib.hid (HI.out.below hb9); clear hb9; obtain ⟨z0, z1, z2, z3, z4, z5, z6, z7, z8, z9⟩ := zero_cells HI9.out.rs; obtain ⟨y0, y1, y2, y3, y4, y5, y6, y7, y8, y9⟩ := ten_free HI9.out.rs; obtain ⟨k0, k1, k2, k3, k4, k5, k6, k7, k8, k9⟩ := cmd_cells HI9.out.cm)))
            exact bodyPost_ret (v := .tuple #[cmdv Cm.noCmd, .int .i64 8]) (by simp [results, Try.results15, go_sem, z0, z1, z2, z3, z4, z5, z6, z7, z8, z9]) rfl ⟨by rw [Cm.dec_bad2 HRW.out HRI.out], below_sets HI9.out.bl⟩
          · have HRI := Lib.hid hri
            clear hri
            clear z0 z1 z2 z3 z4 z5 z6 z7 z8 z9 y0 y1 y2 y3 y4 y5 y6 y7 y8 y9
            go_wp2_with (first
              | (go_at_call 39; ((with_reducible refine (done_any R ((Cx.spT ((Cm.rdPin Cm.wr64 ((Cm.rdPin Cm.wr64 (st1)).2)).2)).2) _ (by exact HI.out.rd)).mono ?_); rintro e w' ⟨rfl, rfl⟩; rw [HDN.out]))
              | (go_at_call 11; ((with_reducible refine (cmdRight_any ((⟨K, (Cm.rdPin Cm.wr64 (st1)).1, (Cm.rdPin Cm.wr64 ((Cm.rdPin Cm.wr64 (st1)).2)).1, str (Cx.spT ((Cm.rdPin Cm.wr64 ((Cm.rdPin Cm.wr64 (st1)).2)).2)).1⟩ : Cm.Cmd)) _).mono ?_); rintro e w9 ⟨rfl, hb9⟩; rw [HRI.out]; have HI9 := Lib.hid (HI.out.below hb9); clear hb9; obtain ⟨z0, z1, z2, z3, z4, z5, z6, z7, z8, z9⟩ := zero_cells HI9.out.rs; obtain ⟨y0, y1, y2, y3, y4, y5, y6, y7, y8, y9⟩ := ten_free HI9.out.rs; obtain ⟨k0, k1, k2, k3, k4, k5, k6, k7, k8, k9⟩ := cmd_cells HI9.out.cm)))
            exact bodyPost_ret (v := .tuple #[cmdv ((⟨K, (Cm.rdPin Cm.wr64 (st1)).1, (Cm.rdPin Cm.wr64 ((Cm.rdPin Cm.wr64 (st1)).2)).1, str (Cx.spT ((Cm.rdPin Cm.wr64 ((Cm.rdPin Cm.wr64 (st1)).2)).2)).1⟩ : Cm.Cmd)), .int .i64 0]) (by simp [results, Try.results15, go_sem, z0, z1, z2, z3, z4, z5, z6, z7, z8, z9]) rfl ⟨by rw [Cm.dec_ok HRW.out HDN.out HRI.out], below_sets HI9.out.bl⟩
end Go.Proofs.Ytfbfdkjimoomlaa
