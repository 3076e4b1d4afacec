/- Contract: the document's Answer of any bytes. -/
import Derived.Test.YtfbfdkjimoomlaaU6
namespace Go.Proofs.Ytfbfdkjimoomlaa
open Go.RowKit
structure IvR (w W : World) (R C : Nat) (st : Cm.St) (a : Cm.An) (v : Value) : Prop where
  rs : W.heap[w.heap.size]? = some (.cells zeroAns 49 (0, 0))
  rd : Rq W R st
  cm : W.heap[C]? = some (.cells (ansCells a v) 49 (0, 0))
  bl : Below w.heap.size w W
  ow : W.ownsRow (C + 1) 25 4 v a.ps.length (a.ps.flatMap fun x => [.string x.p, .int .i64 x.v.a, .int .i64 x.v.b, .int .i64 x.v.c])
section
variable {w W W' : World} {R C P : Nat} {st st' : Cm.St} {a : Cm.An} {v : Value}
theorem IvR.call (h : IvR w W R C st a v) (d : DisQ w R C) (hg : W.grownBy W' (some R)) (hr : Rq W' R st') : IvR w W' R C st' a v := by
  have h1 := d.r
  have h3 := d.c
  refine ⟨hb_grown h.rs hg (by simp; omega), hr, hb_grown h.cm hg (by simp; omega), h.bl.grown hg h.bl.size (fun j hj => by cases hj; omega), h.ow.kept hg ?_⟩
  rcases hv : v.ownBlock with _ | k
  · exact .inl rfl
  · right
    have := (h.ow.lt k hv).1
    intro e
    cases e
    omega
theorem IvR.set (h : IvR w W R C st a v) (d : DisQ w R C) (i : Nat) (u : Value) (a' : Cm.An) (hc : (ansCells a v).setIfInBounds i u = ansCells a' v) (hp : a'.ps = a.ps) : IvR w (W.setCell ⟨C, i, none⟩ u) R C st a' v := by
  have h1 := d.r
  have h3 := d.c
  refine ⟨hb_set_other h.rs u (by simp; omega), h.rd.kept (fun x hx => hb_set_other hx u (by simp; omega)), ?_, h.bl.setCell (by simp; omega) u, ?_⟩
  · have := hb_set_same h.cm i u
    rwa [hc] at this
  · rw [hp]
    refine own_kept h.ow (fun g x hg hx => hb_set_other hx u ?_)
    have := (h.ow.lt g hg).1
    simp
    omega
theorem IvR.far (h : IvR w W R C st a v) (d : DisQ w R C) (hP : C < P) (hg : ∀ g, v.ownBlock = some g → g ≠ P) (i : Nat) (u : Value) : IvR w (W.setCell ⟨P, i, none⟩ u) R C st a v := by
  have h1 := d.r
  have h3 := d.c
  exact ⟨hb_set_other h.rs u (by simp; omega), h.rd.kept (fun x hx => hb_set_other hx u (by simp; omega)), hb_set_other h.cm u (by simp; omega), h.bl.setCell (by simp; omega) u, own_kept h.ow (fun g x hgg hx => hb_set_other hx u (hg g hgg))⟩
theorem IvR.below (h : IvR w W R C st a v) (hb : Below W.heap.size W W') : IvR w W' R C st a v :=
  ⟨hb_below h.rs hb (hb_lt h.rs), h.rd.kept (fun x hx => hb_below hx hb (hb_lt hx)), hb_below h.cm hb (hb_lt h.cm), h.bl.trans (hb.mono h.bl.size), own_kept h.ow (fun g x hg hx => hb_below hx hb (hb_lt hx))⟩
structure IvS (w W : World) (R C : Nat) (st : Cm.St) (a : Cm.An) (v v2 : Value) (x : Cm.Pn) : Prop where
  rs : W.heap[w.heap.size]? = some (.cells zeroAns 49 (0, 0))
  rd : Rq W R st
  cm : W.heap[C]? = some (.cells (ansCells a v) 49 (0, 0))
  bl : Below w.heap.size w W
  ow : W.ownsRow (C + 1) 25 4 v2 (a.ps.length + 1) ((a.ps.flatMap fun x => [.string x.p, .int .i64 x.v.a, .int .i64 x.v.b, .int .i64 x.v.c]) ++ [.string x.p, .int .i64 x.v.a, .int .i64 x.v.b, .int .i64 x.v.c])
end
theorem ivR_app {w W W2 : World} {R C : Nat} {st : Cm.St} {a : Cm.An} {v v2 : Value} {x : Cm.Pn} {o : Obj} (h : IvR w W R C st a v) (d : DisQ w R C)
    (ho : W2.ownsRow (C + 1) 25 4 v2 (a.ps.length + 1) ((a.ps.flatMap fun x => [.string x.p, .int .i64 x.v.a, .int .i64 x.v.b, .int .i64 x.v.c]) ++ [.string x.p, .int .i64 x.v.a, .int .i64 x.v.b, .int .i64 x.v.c]))
    (hg : (W.alloc o).grownBy W2 v.ownBlock) : IvS w W2 R C st a v v2 x := by
  have hA := h.below (below_alloc W o)
  have h1 := d.r
  have h3 := d.c
  have hn : ∀ k, k ≤ C → some k ≠ v.ownBlock := fun k hk e => by
    have := (hA.ow.lt k e.symm).1
    omega
  exact ⟨hb_grown hA.rs hg (hn _ (by omega)), hA.rd.kept (fun x hx => hb_grown hx hg (hn _ (by omega))), hb_grown hA.cm hg (hn _ (Nat.le_refl _)), hA.bl.grown hg hA.bl.size (fun j hj => by have := (hA.ow.lt j hj).1; omega), ho⟩
theorem ivR_round {w W : World} {R C L N0 k m : Nat} {s7 : Cm.St} {r : List UInt8} {done : List Cm.Pn} {v v2 : Value} (A : List Cm.Pn → Cm.An) (hA : ∀ d, (A d).ps = d) (hAc : ∀ d1 d2 v1 v2, (ansCells (A d1) v1).setIfInBounds 6 v2 = ansCells (A d2) v2)
    (h : IvS w W R C (Cm.rdZ (some r)).2 (A done) v v2 (Cm.rdZ (some r)).1) (d : DisQ w R C) (hrd : Cm.rdPs N0 s7 = (done ++ (Cm.rdPs m (some r)).1, (Cm.rdPs m (some r)).2)) (hk : k + m = N0) (h1 : 1 ≤ m)
    (hbd : done.length + stw (some r) ≤ L + 1) (hlen : ∀ r', some r = some r' → r'.length ≤ 1000000) :
    ∃ (k' m' : Nat) (done' : List Cm.Pn) (st' : Cm.St) (v' : Value), Value.int .u64 ((k : Int) + 1) = .int .u64 (k' : Nat) ∧ k' + m' = N0 ∧ Cm.rdPs N0 s7 = (done' ++ (Cm.rdPs m' st').1, (Cm.rdPs m' st').2) ∧ IvR w (W.setCell ⟨C, 6, none⟩ v2) R C st' (A done') v' ∧ done'.length + stw st' ≤ L + 1 ∧ (∀ r, st' = some r → r.length ≤ 1000000) := by
  obtain ⟨m', rfl⟩ : ∃ m', m = m' + 1 := ⟨m - 1, by omega⟩
  have d1 := d.r
  have d3 := d.c
  have hw := stw_rdZ r
  refine ⟨k + 1, m', done ++ [(Cm.rdZ (some r)).1], (Cm.rdZ (some r)).2, v2, by congr 1, by omega, ?_, ?_, ?_, ?_⟩
  · rw [hrd]
    show (done ++ ((Cm.rdZ (some r)).1 :: (Cm.rdPs m' (Cm.rdZ (some r)).2).1), _) = _
    rw [List.append_assoc]
    rfl
  · refine ⟨hb_set_other h.rs v2 (by simp; omega), h.rd.kept (fun x hx => hb_set_other hx v2 (by simp; omega)), ?_, h.bl.setCell (by simp; omega) v2, ?_⟩
    · have := hb_set_same h.cm 6 v2
      rwa [hAc _ (done ++ [(Cm.rdZ (some r)).1])] at this
    · rw [hA, List.length_append, List.flatMap_append]
      have ho := h.ow
      rw [hA] at ho
      refine own_kept (n := done.length + 1) (by simpa using ho) (fun g x hg hx => hb_set_other hx v2 ?_)
      have := (ho.lt g hg).1
      simp
      omega
  · rw [List.length_append]
    simp only [List.length_cons, List.length_nil]
    omega
  · intro r' hr'
    rw [hr'] at hw
    have := hlen r rfl
    simp only [stw] at hw
    omega
set_option maxRecDepth 100000 in
set_option maxHeartbeats 16000000 in
theorem refAnswer_any (l : List UInt8) (hl : l.length ≤ 100000) (w : World) : Calls Try.prog 21 #[.string (str l)] w fun e w' => ∃ v, e = .returned (.tuple #[ansv (Cm.decA l).1 v, .int .i64 (Cm.decA l).2]) ∧ w'.ownsRow w.heap.size 25 4 v (Cm.decA l).1.ps.length ((Cm.decA l).1.ps.flatMap fun x => [.string x.p, .int .i64 x.v.a, .int .i64 x.v.b, .int .i64 x.v.c]) ∧ Below w.heap.size w w' := by
  have hmax : l.length ≤ maxLen := by unfold maxLen; omega
  have h0 := hb_new w (.cells zeroAns 49)
  have h1 := hb_new (w.alloc (.cells zeroAns 49)) (.cells #[.string (str l), .bool false] 85)
  have h2 := hb_new ((w.alloc (.cells zeroAns 49)).alloc (.cells #[.string (str l), .bool false] 85)) (.cells zeroAns 49)
  simp only [World.size_alloc] at h1 h2
  have HI0 : RowKit.Hid (IvR w (((w.alloc (.cells zeroAns 49)).alloc (.cells #[.string (str l), .bool false] 85)).alloc (.cells zeroAns 49)) (w.heap.size + 1) (w.heap.size + 1 + 1) (some l) Cm.noAn (.slice none 0 0)) := Lib.hid
    ⟨hb_alloc (hb_alloc h0 _) _, ⟨hb_alloc h1 _, hmax⟩, h2, (((below_alloc w _).alloc (by simp) _)).alloc (by simp; omega) _, World.ownsRow_nil _ _ _ _⟩
  have HD : RowKit.Hid (DisQ w (w.heap.size + 1) (w.heap.size + 1 + 1)) := Lib.hid ⟨by omega, by omega⟩
  have HL := Lib.hid (ra_len l (by omega))
  have HL4 := Lib.hid HL.out.1
  have HL5 := Lib.hid HL.out.2.1
  have HL7 := Lib.hid HL.out.2.2
  clear h0 h1 h2 hmax
  go_enter Try.func21, Try.ntmps21
  go_upto_region 3 with fail
  generalize hWW : ((w.alloc (.cells zeroAns 49)).alloc (.cells #[.string (str l), .bool false] 85)).alloc (.cells zeroAns 49) = W1 at *
  have HWW := Lib.hid hWW
  clear hWW
  generalize hCC : w.heap.size + 1 + 1 = C at *
  generalize hRR : w.heap.size + 1 = R at *
  clear hRR hCC HWW
  have HI := HI0
  clear HI0
  go_upto_region 4 with (go_at_call 49; ((with_reducible refine (qZ_any R (some l) _ (by exact HI.out.rd)).mono ?_); rintro e u1 ⟨rfl, h, hg⟩; have HJ : RowKit.Hid (IvR w u1 R C (Cm.ra l).s1 _ _) := Lib.hid (HI.out.call HD.out hg h); clear h hg; have cc := (ans_cells HJ.out.cm).1; have ff := hb_free HJ.out.cm 0))
  clear cc ff
  have HI2 := Lib.hid (HJ.out.set HD.out 0 (.int .i64 (Cx.zag (Cx.spU (some l)).1)) (⟨Cx.zag (Cx.spU (some l)).1, 0, 0, 0, ⟨#[]⟩, ⟨#[]⟩, [], ⟨#[]⟩, false, 0, 0, 0, 0⟩ : Cm.An) rfl rfl)
  clear HI HJ
  have HI := HI2
  clear HI2
  go_upto_region 5 with (go_at_call 49; ((with_reducible refine (qZ_any R ((Cm.ra l).s1) _ (by exact HI.out.rd)).mono ?_); rintro e u2 ⟨rfl, h, hg⟩; have HJ : RowKit.Hid (IvR w u2 R C (Cm.ra l).s2 _ _) := Lib.hid (HI.out.call HD.out hg h); clear h hg; have cc := (ans_cells HJ.out.cm).2.1; have ff := hb_free HJ.out.cm 1))
  clear cc ff
  have HI2 := Lib.hid (HJ.out.set HD.out 1 (.int .i64 (Cx.zag (Cx.spU ((Cm.ra l).s1)).1)) (⟨Cx.zag (Cx.spU (some l)).1, Cx.zag (Cx.spU ((Cm.ra l).s1)).1, 0, 0, ⟨#[]⟩, ⟨#[]⟩, [], ⟨#[]⟩, false, 0, 0, 0, 0⟩ : Cm.An) rfl rfl)
  clear HI HJ
  have HI := HI2
  clear HI2
  go_upto_region 6 with (go_at_call 49; ((with_reducible refine (qZ_any R ((Cm.ra l).s2) _ (by exact HI.out.rd)).mono ?_); rintro e u3 ⟨rfl, h, hg⟩; have HJ : RowKit.Hid (IvR w u3 R C (Cm.ra l).s3 _ _) := Lib.hid (HI.out.call HD.out hg h); clear h hg; have cc := (ans_cells HJ.out.cm).2.2.1; have ff := hb_free HJ.out.cm 2))
  clear cc ff
  have HI2 := Lib.hid (HJ.out.set HD.out 2 (.int .i64 (Cx.zag (Cx.spU ((Cm.ra l).s2)).1)) (⟨Cx.zag (Cx.spU (some l)).1, Cx.zag (Cx.spU ((Cm.ra l).s1)).1, Cx.zag (Cx.spU ((Cm.ra l).s2)).1, 0, ⟨#[]⟩, ⟨#[]⟩, [], ⟨#[]⟩, false, 0, 0, 0, 0⟩ : Cm.An) rfl rfl)
  clear HI HJ
  have HI := HI2
  clear HI2
  go_upto_region 7 with (go_at_call 49; ((with_reducible refine (qZ_any R ((Cm.ra l).s3) _ (by exact HI.out.rd)).mono ?_); rintro e u4 ⟨rfl, h, hg⟩; have HJ : RowKit.Hid (IvR w u4 R C (Cm.ra l).s4 _ _) := Lib.hid (HI.out.call HD.out hg h); clear h hg; have cc := (ans_cells HJ.out.cm).2.2.2.1; have ff := hb_free HJ.out.cm 3))
  clear cc ff
  have HI2 := Lib.hid (HJ.out.set HD.out 3 (.int .i64 (Cx.zag (Cx.spU ((Cm.ra l).s3)).1)) (⟨Cx.zag (Cx.spU (some l)).1, Cx.zag (Cx.spU ((Cm.ra l).s1)).1, Cx.zag (Cx.spU ((Cm.ra l).s2)).1, Cx.zag (Cx.spU ((Cm.ra l).s3)).1, ⟨#[]⟩, ⟨#[]⟩, [], ⟨#[]⟩, false, 0, 0, 0, 0⟩ : Cm.An) rfl rfl)
  clear HI HJ
  have HI := HI2
  clear HI2
  go_upto_region 8 with (go_at_call 43; ((with_reducible refine (qT_any R ((Cm.ra l).s4) HL4.out _ (by exact HI.out.rd)).mono ?_); rintro e u5 ⟨rfl, h, hg⟩; have HJ : RowKit.Hid (IvR w u5 R C (Cm.ra l).s5 _ _) := Lib.hid (HI.out.call HD.out hg h); clear h hg; have cc := (ans_cells HJ.out.cm).2.2.2.2.1; have ff := hb_free HJ.out.cm 4))
  clear cc ff
  have HI2 := Lib.hid (HJ.out.set HD.out 4 (.string (str (Cx.spT ((Cm.ra l).s4)).1)) (⟨Cx.zag (Cx.spU (some l)).1, Cx.zag (Cx.spU ((Cm.ra l).s1)).1, Cx.zag (Cx.spU ((Cm.ra l).s2)).1, Cx.zag (Cx.spU ((Cm.ra l).s3)).1, str (Cx.spT ((Cm.ra l).s4)).1, ⟨#[]⟩, [], ⟨#[]⟩, false, 0, 0, 0, 0⟩ : Cm.An) rfl rfl)
  clear HI HJ
  have HI := HI2
  clear HI2
  go_upto_region 9 with (go_at_call 43; ((with_reducible refine (qT_any R ((Cm.ra l).s5) HL5.out _ (by exact HI.out.rd)).mono ?_); rintro e u6 ⟨rfl, h, hg⟩; have HJ : RowKit.Hid (IvR w u6 R C (Cm.ra l).s6 _ _) := Lib.hid (HI.out.call HD.out hg h); clear h hg; have cc := (ans_cells HJ.out.cm).2.2.2.2.2.1; have ff := hb_free HJ.out.cm 5))
  clear cc ff
  have HI2 := Lib.hid (HJ.out.set HD.out 5 (.string (str (Cx.spT ((Cm.ra l).s5)).1)) (⟨Cx.zag (Cx.spU (some l)).1, Cx.zag (Cx.spU ((Cm.ra l).s1)).1, Cx.zag (Cx.spU ((Cm.ra l).s2)).1, Cx.zag (Cx.spU ((Cm.ra l).s3)).1, str (Cx.spT ((Cm.ra l).s4)).1, str (Cx.spT ((Cm.ra l).s5)).1, [], ⟨#[]⟩, false, 0, 0, 0, 0⟩ : Cm.An) rfl rfl)
  clear HI HJ
  have HI := HI2
  clear HI2
  go_wp2_with (go_at_call 41; ((with_reducible refine (qU_any R (Cm.ra l).s6 _ (by exact HI.out.rd)).mono ?_); rintro e u7 ⟨rfl, h, hg⟩; have HI7 : RowKit.Hid (IvR w u7 R C (Cm.ra l).s7 _ _) := Lib.hid (HI.out.call HD.out hg h); clear h hg))
  clear HI
  have hn64 := spU_lt (Cm.ra l).s6
  have hstw0 : stw (Cm.ra l).s7 ≤ l.length + 1 := ra_stw l
  obtain ⟨i0, hi, hz0, hz1, hz2⟩ := info_parts info25
  generalize hNN : (Cx.spU (Cm.ra l).s6).1 = N0 at *
  have HNN := Lib.hid hNN
  clear hNN
  go_loopw [7] (fun i wr => ∃ (k m : Nat) (done : List Cm.Pn) (st : Cm.St) (v : Value), i = .int .u64 (k : Nat) ∧ k + m = N0 ∧ Cm.rdPs N0 (Cm.ra l).s7 = (done ++ (Cm.rdPs m st).1, (Cm.rdPs m st).2) ∧ IvR w wr R C st (⟨Cx.zag (Cx.spU (some l)).1, Cx.zag (Cx.spU ((Cm.ra l).s1)).1, Cx.zag (Cx.spU ((Cm.ra l).s2)).1, Cx.zag (Cx.spU ((Cm.ra l).s3)).1, str (Cx.spT ((Cm.ra l).s4)).1, str (Cx.spT ((Cm.ra l).s5)).1, done, ⟨#[]⟩, false, 0, 0, 0, 0⟩ : Cm.An) v ∧ done.length + stw st ≤ l.length + 1 ∧ (∀ r, st = some r → r.length ≤ 1000000)) (fun i _ => N0 - (intOf i).toNat)
  case atStart => exact ⟨0, N0, [], (Cm.ra l).s7, .slice none 0 0, rfl, by omega, rfl, HI7.out, by simpa using hstw0, HL7.out⟩
  case round =>
    obtain ⟨k, m, done, st, v, rfl, hkm, hrd, hI, hbd, hlen⟩ := hrel
    have HI := Lib.hid hI
    have HRDP := Lib.hid hrd
    have HLEN := Lib.hid hlen
    have hExit : (m = 0 ∨ st = none) → (Cm.rdPs m st) = ([], st) := by
      rintro (rfl | rfl)
      · rfl
      · cases m <;> rfl
    have HEX := Lib.hid hExit
    clear hI hrd hlen hExit HI7
    by_cases hm0 : m = 0
    · have HE := Lib.hid (HEX.out (.inl hm0))
      have d0 : decide ((k : Int) < N0) = false := by simp; omega
      have dk : ¬ k < N0 := by omega
      clear HEX
      have HPS := Lib.hid (exit_eq HRDP.out HE.out)
      clear HRDP HE
      have HE8 : RowKit.Hid (st = (Cm.ra l).s8) := Lib.hid (by have e := HPS.out.2; rw [← HNN.out] at e; exact e)
      have hU9 := qU_any R (Cx.spT st).2
      rw [show Cx.spU (Cx.spT st).2 = Cx.spU (Cm.ra l).s9 from congrArg (fun s => Cx.spU (Cx.spT s).2) HE8.out] at hU9
      have HU9 := Lib.hid hU9
      clear hU9
      go_upto_region 19 with (go_at_call 43; ((with_reducible refine (qT_any R (st) HLEN.out _ (by exact HI.out.rd)).mono ?_); rintro e u7 ⟨rfl, h, hg⟩; have HJ : RowKit.Hid (IvR w u7 R C (Cx.spT st).2 _ _) := Lib.hid (HI.out.call HD.out hg h); clear h hg; have cc := (ans_cells HJ.out.cm).2.2.2.2.2.2.2.1; have ff := hb_free HJ.out.cm 7))
      clear cc ff
      have HI2 := Lib.hid (HJ.out.set HD.out 7 (.string (str (Cx.spT st).1)) (⟨Cx.zag (Cx.spU (some l)).1, Cx.zag (Cx.spU ((Cm.ra l).s1)).1, Cx.zag (Cx.spU ((Cm.ra l).s2)).1, Cx.zag (Cx.spU ((Cm.ra l).s3)).1, str (Cx.spT ((Cm.ra l).s4)).1, str (Cx.spT ((Cm.ra l).s5)).1, done, str (Cx.spT st).1, false, 0, 0, 0, 0⟩ : Cm.An) rfl rfl)
      clear HI HJ
      have HI := HI2
      clear HI2
      obtain ⟨y1, b2, ey1, eyn, eb2, ey2, hy1⟩ := y_cases (Cx.spU (Cm.ra l).s9).1
      have hy64 := spU_lt (Cm.ra l).s9
      have HEY := Lib.hid ey1
      have HEB := Lib.hid ey2
      clear hy1 ey1 ey2
      generalize hYY : (Cx.spU (Cm.ra l).s9).1 = Y at *
      have HYY := Lib.hid hYY
      clear hYY
      go_upto_region 20 with (go_at_call 41; ((with_reducible refine (HU9.out _ (by exact HI.out.rd)).mono ?_); rintro e u8 ⟨rfl, h, hg⟩; have HJ : RowKit.Hid (IvR w u8 R C (Cm.ra l).s10 _ _) := Lib.hid (HI.out.call HD.out hg h); clear h hg))
      have cc := (ans_cells HJ.out.cm).2.2.2.2.2.2.2.2.1
      have ff := hb_free HJ.out.cm 8
      go_upto_region 21 with fail
      clear cc ff HU9
      have HI2 := Lib.hid (HJ.out.set HD.out 8 (.bool y1) (⟨Cx.zag (Cx.spU (some l)).1, Cx.zag (Cx.spU ((Cm.ra l).s1)).1, Cx.zag (Cx.spU ((Cm.ra l).s2)).1, Cx.zag (Cx.spU ((Cm.ra l).s3)).1, str (Cx.spT ((Cm.ra l).s4)).1, str (Cx.spT ((Cm.ra l).s5)).1, done, str (Cx.spT st).1, y1, 0, 0, 0, 0⟩ : Cm.An) rfl rfl)
      clear HI HJ
      have HI := HI2
      clear HI2
      go_upto_region 22 with (go_at_call 49; ((with_reducible refine (qZ_any R ((Cm.ra l).s10) _ (by exact HI.out.rd)).mono ?_); rintro e u9 ⟨rfl, h, hg⟩; have HJ : RowKit.Hid (IvR w u9 R C (Cm.ra l).s11 _ _) := Lib.hid (HI.out.call HD.out hg h); clear h hg; have cc := (ans_cells HJ.out.cm).2.2.2.2.2.2.2.2.2.1; have ff := hb_free HJ.out.cm 9))
      clear cc ff
      have HI2 := Lib.hid (HJ.out.set HD.out 9 (.int .i64 (Cx.zag (Cx.spU ((Cm.ra l).s10)).1)) (⟨Cx.zag (Cx.spU (some l)).1, Cx.zag (Cx.spU ((Cm.ra l).s1)).1, Cx.zag (Cx.spU ((Cm.ra l).s2)).1, Cx.zag (Cx.spU ((Cm.ra l).s3)).1, str (Cx.spT ((Cm.ra l).s4)).1, str (Cx.spT ((Cm.ra l).s5)).1, done, str (Cx.spT st).1, y1, Cx.zag (Cx.spU ((Cm.ra l).s10)).1, 0, 0, 0⟩ : Cm.An) rfl rfl)
      clear HI HJ
      have HI := HI2
      clear HI2
      go_upto_region 23 with (go_at_call 49; ((with_reducible refine (qZ_any R ((Cm.ra l).s11) _ (by exact HI.out.rd)).mono ?_); rintro e u10 ⟨rfl, h, hg⟩; have HJ : RowKit.Hid (IvR w u10 R C (Cm.ra l).s12 _ _) := Lib.hid (HI.out.call HD.out hg h); clear h hg; have cc := (ans_cells HJ.out.cm).2.2.2.2.2.2.2.2.2.2.1; have ff := hb_free HJ.out.cm 10))
      clear cc ff
      have HI2 := Lib.hid (HJ.out.set HD.out 10 (.int .i64 (Cx.zag (Cx.spU ((Cm.ra l).s11)).1)) (⟨Cx.zag (Cx.spU (some l)).1, Cx.zag (Cx.spU ((Cm.ra l).s1)).1, Cx.zag (Cx.spU ((Cm.ra l).s2)).1, Cx.zag (Cx.spU ((Cm.ra l).s3)).1, str (Cx.spT ((Cm.ra l).s4)).1, str (Cx.spT ((Cm.ra l).s5)).1, done, str (Cx.spT st).1, y1, Cx.zag (Cx.spU ((Cm.ra l).s10)).1, Cx.zag (Cx.spU ((Cm.ra l).s11)).1, 0, 0⟩ : Cm.An) rfl rfl)
      clear HI HJ
      have HI := HI2
      clear HI2
      go_upto_region 24 with (go_at_call 49; ((with_reducible refine (qZ_any R ((Cm.ra l).s12) _ (by exact HI.out.rd)).mono ?_); rintro e u11 ⟨rfl, h, hg⟩; have HJ : RowKit.Hid (IvR w u11 R C (Cm.ra l).s13 _ _) := Lib.hid (HI.out.call HD.out hg h); clear h hg; have cc := (ans_cells HJ.out.cm).2.2.2.2.2.2.2.2.2.2.2.1; have ff := hb_free HJ.out.cm 11))
      clear cc ff
      have HI2 := Lib.hid (HJ.out.set HD.out 11 (.int .i64 (Cx.zag (Cx.spU ((Cm.ra l).s12)).1)) (⟨Cx.zag (Cx.spU (some l)).1, Cx.zag (Cx.spU ((Cm.ra l).s1)).1, Cx.zag (Cx.spU ((Cm.ra l).s2)).1, Cx.zag (Cx.spU ((Cm.ra l).s3)).1, str (Cx.spT ((Cm.ra l).s4)).1, str (Cx.spT ((Cm.ra l).s5)).1, done, str (Cx.spT st).1, y1, Cx.zag (Cx.spU ((Cm.ra l).s10)).1, Cx.zag (Cx.spU ((Cm.ra l).s11)).1, Cx.zag (Cx.spU ((Cm.ra l).s12)).1, 0⟩ : Cm.An) rfl rfl)
      clear HI HJ
      have HI := HI2
      clear HI2
      go_upto_region 25 with (go_at_call 49; ((with_reducible refine (qZ_any R ((Cm.ra l).s13) _ (by exact HI.out.rd)).mono ?_); rintro e u12 ⟨rfl, h, hg⟩; have HJ : RowKit.Hid (IvR w u12 R C (Cm.ra l).s14 _ _) := Lib.hid (HI.out.call HD.out hg h); clear h hg; have cc := (ans_cells HJ.out.cm).2.2.2.2.2.2.2.2.2.2.2.2; have ff := hb_free HJ.out.cm 12))
      clear cc ff
      have HI2 := Lib.hid (HJ.out.set HD.out 12 (.int .i64 (Cx.zag (Cx.spU ((Cm.ra l).s13)).1)) (⟨Cx.zag (Cx.spU (some l)).1, Cx.zag (Cx.spU ((Cm.ra l).s1)).1, Cx.zag (Cx.spU ((Cm.ra l).s2)).1, Cx.zag (Cx.spU ((Cm.ra l).s3)).1, str (Cx.spT ((Cm.ra l).s4)).1, str (Cx.spT ((Cm.ra l).s5)).1, done, str (Cx.spT st).1, y1, Cx.zag (Cx.spU ((Cm.ra l).s10)).1, Cx.zag (Cx.spU ((Cm.ra l).s11)).1, Cx.zag (Cx.spU ((Cm.ra l).s12)).1, Cx.zag (Cx.spU ((Cm.ra l).s13)).1⟩ : Cm.An) rfl rfl)
      clear HI HJ
      have HI := HI2
      clear HI2
      have hEQ : (⟨Cx.zag (Cx.spU (some l)).1, Cx.zag (Cx.spU ((Cm.ra l).s1)).1, Cx.zag (Cx.spU ((Cm.ra l).s2)).1, Cx.zag (Cx.spU ((Cm.ra l).s3)).1, str (Cx.spT ((Cm.ra l).s4)).1, str (Cx.spT ((Cm.ra l).s5)).1, done, str (Cx.spT st).1, y1, Cx.zag (Cx.spU ((Cm.ra l).s10)).1, Cx.zag (Cx.spU ((Cm.ra l).s11)).1, Cx.zag (Cx.spU ((Cm.ra l).s12)).1, Cx.zag (Cx.spU ((Cm.ra l).s13)).1⟩ : Cm.An) = Cm.rawA l := by
        have hy : ((Cx.spU (Cm.ra l).s9).1 == 1) = y1 := by rw [HYY.out]; exact HEY.out
        rw [← hy, HPS.out.1, ← HNN.out, HE8.out]
        rfl
      have HEQ := Lib.hid hEQ
      clear hEQ
      obtain ⟨z0, z1, z2, z3, z4, z5, z6, z7, z8, z9, z10, z11, z12⟩ := zeroA_cells HI.out.rs
      obtain ⟨f0, f1, f2, f3, f4, f5, f6, f7, f8, f9, f10, f11, f12⟩ := ans_free HI.out.rs
      obtain ⟨k0, k1, k2, k3, k4, k5, k6, k7, k8, k9, k10, k11, k12⟩ := ans_cells HI.out.cm
      rcases rq_end HI.out.rd with ⟨vv, r1, r0, hd⟩ | ⟨vv, r1, r0, ⟨e1, e2, hd⟩ | ⟨e1, e2, hd⟩⟩
      · have HDN := Lib.hid hd
        clear hd
        have HDEC : RowKit.Hid (Cm.decA l = (Cm.noAn, 8)) := Lib.hid (Cm.decA_bad (fun q => by rw [HDN.out] at q; cases q.1))
        go_wp2
        exact bodyPost_ret (v := .tuple #[ansv Cm.noAn (.slice none 0 0), .int .i64 8]) (by simp [results, Try.results21, go_sem, z0, z1, z2, z3, z4, z5, z6, z7, z8, z9, z10, z11, z12]) rfl ⟨.slice none 0 0, by rw [HDEC.out], by rw [HDEC.out]; exact World.ownsRow_nil _ _ _ _, below_sets13 HI.out.bl⟩
      · have HDN := Lib.hid hd
        clear hd
        have HDEC : RowKit.Hid (Cm.decA l = (Cm.noAn, 8)) := Lib.hid (Cm.decA_bad (fun q => by rw [HDN.out] at q; cases q.1))
        go_wp2
        exact bodyPost_ret (v := .tuple #[ansv Cm.noAn (.slice none 0 0), .int .i64 8]) (by simp [results, Try.results21, go_sem, z0, z1, z2, z3, z4, z5, z6, z7, z8, z9, z10, z11, z12]) rfl ⟨.slice none 0 0, by rw [HDEC.out], by rw [HDEC.out]; exact World.ownsRow_nil _ _ _ _, below_sets13 HI.out.bl⟩
      · have HDN := Lib.hid hd
        clear hd
        cases b2 with
        | true =>
          have HDEC : RowKit.Hid (Cm.decA l = (Cm.noAn, 8)) := Lib.hid (Cm.decA_bad (fun q => by have := q.2; rw [HYY.out] at this; exact absurd this (HEB.out.1 rfl)))
          go_wp2
          exact bodyPost_ret (v := .tuple #[ansv Cm.noAn (.slice none 0 0), .int .i64 8]) (by simp [results, Try.results21, go_sem, z0, z1, z2, z3, z4, z5, z6, z7, z8, z9, z10, z11, z12]) rfl ⟨.slice none 0 0, by rw [HDEC.out], by rw [HDEC.out]; exact World.ownsRow_nil _ _ _ _, below_sets13 HI.out.bl⟩
        | false =>
          have HDEC : RowKit.Hid (Cm.decA l = (Cm.rawA l, 0)) := Lib.hid (Cm.decA_good HDN.out (by rw [HYY.out]; exact HEB.out.2 rfl))
          obtain ⟨vq, vl, vc, rfl⟩ := own_sl HI.out.ow
          go_wp2
          exact bodyPost_ret (v := .tuple #[ansv (⟨Cx.zag (Cx.spU (some l)).1, Cx.zag (Cx.spU ((Cm.ra l).s1)).1, Cx.zag (Cx.spU ((Cm.ra l).s2)).1, Cx.zag (Cx.spU ((Cm.ra l).s3)).1, str (Cx.spT ((Cm.ra l).s4)).1, str (Cx.spT ((Cm.ra l).s5)).1, done, str (Cx.spT st).1, y1, Cx.zag (Cx.spU ((Cm.ra l).s10)).1, Cx.zag (Cx.spU ((Cm.ra l).s11)).1, Cx.zag (Cx.spU ((Cm.ra l).s12)).1, Cx.zag (Cx.spU ((Cm.ra l).s13)).1⟩ : Cm.An) (.slice vq vl vc), .int .i64 0]) (by simp [results, Try.results21, go_sem, z0, z1, z2, z3, z4, z5, z6, z7, z8, z9, z10, z11, z12]) rfl ⟨.slice vq vl vc, by rw [HDEC.out, ← HEQ.out], by rw [HDEC.out, ← HEQ.out]; exact own_sets13 (own_base HI.out.ow (by have := HD.out.r; have := HD.out.c; omega)) (by exact own_far HI.out.ow (by have := HD.out.r; have := HD.out.c; omega)), below_sets13 HI.out.bl⟩
    · have hm1 : 1 ≤ m := by omega
      have hkN : k < N0 := by omega
      have d0 : decide ((k : Int) < N0) = true := by simp; omega
      cases st with
      | none =>
        have HE := Lib.hid (HEX.out (.inr rfl))
        clear HEX
        obtain ⟨bv, hbv⟩ := HI.out.rd
        have b1 := hb_at hbv 1 rfl
        have HBV := Lib.hid hbv
        clear hbv
        go_upto_region 18 with fail
        have HPS := Lib.hid (exit_eq HRDP.out HE.out)
        clear HRDP HE
        have HE8 : RowKit.Hid (none = (Cm.ra l).s8) := Lib.hid (by have e := HPS.out.2; rw [← HNN.out] at e; exact e)
        have hU9 := qU_any R (Cx.spT none).2
        rw [show Cx.spU (Cx.spT none).2 = Cx.spU (Cm.ra l).s9 from congrArg (fun s => Cx.spU (Cx.spT s).2) HE8.out] at hU9
        have HU9 := Lib.hid hU9
        clear hU9
        go_upto_region 19 with (go_at_call 43; ((with_reducible refine (qT_any R (none) HLEN.out _ (by exact HI.out.rd)).mono ?_); rintro e u7 ⟨rfl, h, hg⟩; have HJ : RowKit.Hid (IvR w u7 R C (Cx.spT none).2 _ _) := Lib.hid (HI.out.call HD.out hg h); clear h hg; have cc := (ans_cells HJ.out.cm).2.2.2.2.2.2.2.1; have ff := hb_free HJ.out.cm 7))
        clear cc ff
        have HI2 := Lib.hid (HJ.out.set HD.out 7 (.string (str (Cx.spT none).1)) (⟨Cx.zag (Cx.spU (some l)).1, Cx.zag (Cx.spU ((Cm.ra l).s1)).1, Cx.zag (Cx.spU ((Cm.ra l).s2)).1, Cx.zag (Cx.spU ((Cm.ra l).s3)).1, str (Cx.spT ((Cm.ra l).s4)).1, str (Cx.spT ((Cm.ra l).s5)).1, done, str (Cx.spT none).1, false, 0, 0, 0, 0⟩ : Cm.An) rfl rfl)
        clear HI HJ
        have HI := HI2
        clear HI2
        obtain ⟨y1, b2, ey1, eyn, eb2, ey2, hy1⟩ := y_cases (Cx.spU (Cm.ra l).s9).1
        have hy64 := spU_lt (Cm.ra l).s9
        have HEY := Lib.hid ey1
        have HEB := Lib.hid ey2
        clear hy1 ey1 ey2
        generalize hYY : (Cx.spU (Cm.ra l).s9).1 = Y at *
        have HYY := Lib.hid hYY
        clear hYY
        go_upto_region 20 with (go_at_call 41; ((with_reducible refine (HU9.out _ (by exact HI.out.rd)).mono ?_); rintro e u8 ⟨rfl, h, hg⟩; have HJ : RowKit.Hid (IvR w u8 R C (Cm.ra l).s10 _ _) := Lib.hid (HI.out.call HD.out hg h); clear h hg))
        have cc := (ans_cells HJ.out.cm).2.2.2.2.2.2.2.2.1
        have ff := hb_free HJ.out.cm 8
        go_upto_region 21 with fail
        clear cc ff HU9
        have HI2 := Lib.hid (HJ.out.set HD.out 8 (.bool y1) (⟨Cx.zag (Cx.spU (some l)).1, Cx.zag (Cx.spU ((Cm.ra l).s1)).1, Cx.zag (Cx.spU ((Cm.ra l).s2)).1, Cx.zag (Cx.spU ((Cm.ra l).s3)).1, str (Cx.spT ((Cm.ra l).s4)).1, str (Cx.spT ((Cm.ra l).s5)).1, done, str (Cx.spT none).1, y1, 0, 0, 0, 0⟩ : Cm.An) rfl rfl)
        clear HI HJ
        have HI := HI2
        clear HI2
        go_upto_region 22 with (go_at_call 49; ((with_reducible refine (qZ_any R ((Cm.ra l).s10) _ (by exact HI.out.rd)).mono ?_); rintro e u9 ⟨rfl, h, hg⟩; have HJ : RowKit.Hid (IvR w u9 R C (Cm.ra l).s11 _ _) := Lib.hid (HI.out.call HD.out hg h); clear h hg; have cc := (ans_cells HJ.out.cm).2.2.2.2.2.2.2.2.2.1; have ff := hb_free HJ.out.cm 9))
        clear cc ff
        have HI2 := Lib.hid (HJ.out.set HD.out 9 (.int .i64 (Cx.zag (Cx.spU ((Cm.ra l).s10)).1)) (⟨Cx.zag (Cx.spU (some l)).1, Cx.zag (Cx.spU ((Cm.ra l).s1)).1, Cx.zag (Cx.spU ((Cm.ra l).s2)).1, Cx.zag (Cx.spU ((Cm.ra l).s3)).1, str (Cx.spT ((Cm.ra l).s4)).1, str (Cx.spT ((Cm.ra l).s5)).1, done, str (Cx.spT none).1, y1, Cx.zag (Cx.spU ((Cm.ra l).s10)).1, 0, 0, 0⟩ : Cm.An) rfl rfl)
        clear HI HJ
        have HI := HI2
        clear HI2
        go_upto_region 23 with (go_at_call 49; ((with_reducible refine (qZ_any R ((Cm.ra l).s11) _ (by exact HI.out.rd)).mono ?_); rintro e u10 ⟨rfl, h, hg⟩; have HJ : RowKit.Hid (IvR w u10 R C (Cm.ra l).s12 _ _) := Lib.hid (HI.out.call HD.out hg h); clear h hg; have cc := (ans_cells HJ.out.cm).2.2.2.2.2.2.2.2.2.2.1; have ff := hb_free HJ.out.cm 10))
        clear cc ff
        have HI2 := Lib.hid (HJ.out.set HD.out 10 (.int .i64 (Cx.zag (Cx.spU ((Cm.ra l).s11)).1)) (⟨Cx.zag (Cx.spU (some l)).1, Cx.zag (Cx.spU ((Cm.ra l).s1)).1, Cx.zag (Cx.spU ((Cm.ra l).s2)).1, Cx.zag (Cx.spU ((Cm.ra l).s3)).1, str (Cx.spT ((Cm.ra l).s4)).1, str (Cx.spT ((Cm.ra l).s5)).1, done, str (Cx.spT none).1, y1, Cx.zag (Cx.spU ((Cm.ra l).s10)).1, Cx.zag (Cx.spU ((Cm.ra l).s11)).1, 0, 0⟩ : Cm.An) rfl rfl)
        clear HI HJ
        have HI := HI2
        clear HI2
        go_upto_region 24 with (go_at_call 49; ((with_reducible refine (qZ_any R ((Cm.ra l).s12) _ (by exact HI.out.rd)).mono ?_); rintro e u11 ⟨rfl, h, hg⟩; have HJ : RowKit.Hid (IvR w u11 R C (Cm.ra l).s13 _ _) := Lib.hid (HI.out.call HD.out hg h); clear h hg; have cc := (ans_cells HJ.out.cm).2.2.2.2.2.2.2.2.2.2.2.1; have ff := hb_free HJ.out.cm 11))
        clear cc ff
        have HI2 := Lib.hid (HJ.out.set HD.out 11 (.int .i64 (Cx.zag (Cx.spU ((Cm.ra l).s12)).1)) (⟨Cx.zag (Cx.spU (some l)).1, Cx.zag (Cx.spU ((Cm.ra l).s1)).1, Cx.zag (Cx.spU ((Cm.ra l).s2)).1, Cx.zag (Cx.spU ((Cm.ra l).s3)).1, str (Cx.spT ((Cm.ra l).s4)).1, str (Cx.spT ((Cm.ra l).s5)).1, done, str (Cx.spT none).1, y1, Cx.zag (Cx.spU ((Cm.ra l).s10)).1, Cx.zag (Cx.spU ((Cm.ra l).s11)).1, Cx.zag (Cx.spU ((Cm.ra l).s12)).1, 0⟩ : Cm.An) rfl rfl)
        clear HI HJ
        have HI := HI2
        clear HI2
        go_upto_region 25 with (go_at_call 49; ((with_reducible refine (qZ_any R ((Cm.ra l).s13) _ (by exact HI.out.rd)).mono ?_); rintro e u12 ⟨rfl, h, hg⟩; have HJ : RowKit.Hid (IvR w u12 R C (Cm.ra l).s14 _ _) := Lib.hid (HI.out.call HD.out hg h); clear h hg; have cc := (ans_cells HJ.out.cm).2.2.2.2.2.2.2.2.2.2.2.2; have ff := hb_free HJ.out.cm 12))
        clear cc ff
        have HI2 := Lib.hid (HJ.out.set HD.out 12 (.int .i64 (Cx.zag (Cx.spU ((Cm.ra l).s13)).1)) (⟨Cx.zag (Cx.spU (some l)).1, Cx.zag (Cx.spU ((Cm.ra l).s1)).1, Cx.zag (Cx.spU ((Cm.ra l).s2)).1, Cx.zag (Cx.spU ((Cm.ra l).s3)).1, str (Cx.spT ((Cm.ra l).s4)).1, str (Cx.spT ((Cm.ra l).s5)).1, done, str (Cx.spT none).1, y1, Cx.zag (Cx.spU ((Cm.ra l).s10)).1, Cx.zag (Cx.spU ((Cm.ra l).s11)).1, Cx.zag (Cx.spU ((Cm.ra l).s12)).1, Cx.zag (Cx.spU ((Cm.ra l).s13)).1⟩ : Cm.An) rfl rfl)
        clear HI HJ
        have HI := HI2
        clear HI2
        have hEQ : (⟨Cx.zag (Cx.spU (some l)).1, Cx.zag (Cx.spU ((Cm.ra l).s1)).1, Cx.zag (Cx.spU ((Cm.ra l).s2)).1, Cx.zag (Cx.spU ((Cm.ra l).s3)).1, str (Cx.spT ((Cm.ra l).s4)).1, str (Cx.spT ((Cm.ra l).s5)).1, done, str (Cx.spT none).1, y1, Cx.zag (Cx.spU ((Cm.ra l).s10)).1, Cx.zag (Cx.spU ((Cm.ra l).s11)).1, Cx.zag (Cx.spU ((Cm.ra l).s12)).1, Cx.zag (Cx.spU ((Cm.ra l).s13)).1⟩ : Cm.An) = Cm.rawA l := by
          have hy : ((Cx.spU (Cm.ra l).s9).1 == 1) = y1 := by rw [HYY.out]; exact HEY.out
          rw [← hy, HPS.out.1, ← HNN.out, HE8.out]
          rfl
        have HEQ := Lib.hid hEQ
        clear hEQ
        obtain ⟨z0, z1, z2, z3, z4, z5, z6, z7, z8, z9, z10, z11, z12⟩ := zeroA_cells HI.out.rs
        obtain ⟨f0, f1, f2, f3, f4, f5, f6, f7, f8, f9, f10, f11, f12⟩ := ans_free HI.out.rs
        obtain ⟨k0, k1, k2, k3, k4, k5, k6, k7, k8, k9, k10, k11, k12⟩ := ans_cells HI.out.cm
        rcases rq_end HI.out.rd with ⟨vv, r1, r0, hd⟩ | ⟨vv, r1, r0, ⟨e1, e2, hd⟩ | ⟨e1, e2, hd⟩⟩
        · have HDN := Lib.hid hd
          clear hd
          have HDEC : RowKit.Hid (Cm.decA l = (Cm.noAn, 8)) := Lib.hid (Cm.decA_bad (fun q => by rw [HDN.out] at q; cases q.1))
          go_wp2
          exact bodyPost_ret (v := .tuple #[ansv Cm.noAn (.slice none 0 0), .int .i64 8]) (by simp [results, Try.results21, go_sem, z0, z1, z2, z3, z4, z5, z6, z7, z8, z9, z10, z11, z12]) rfl ⟨.slice none 0 0, by rw [HDEC.out], by rw [HDEC.out]; exact World.ownsRow_nil _ _ _ _, below_sets13 HI.out.bl⟩
        · have HDN := Lib.hid hd
          clear hd
          have HDEC : RowKit.Hid (Cm.decA l = (Cm.noAn, 8)) := Lib.hid (Cm.decA_bad (fun q => by rw [HDN.out] at q; cases q.1))
          go_wp2
          exact bodyPost_ret (v := .tuple #[ansv Cm.noAn (.slice none 0 0), .int .i64 8]) (by simp [results, Try.results21, go_sem, z0, z1, z2, z3, z4, z5, z6, z7, z8, z9, z10, z11, z12]) rfl ⟨.slice none 0 0, by rw [HDEC.out], by rw [HDEC.out]; exact World.ownsRow_nil _ _ _ _, below_sets13 HI.out.bl⟩
        · have HDN := Lib.hid hd
          clear hd
          cases b2 with
          | true =>
            have HDEC : RowKit.Hid (Cm.decA l = (Cm.noAn, 8)) := Lib.hid (Cm.decA_bad (fun q => by have := q.2; rw [HYY.out] at this; exact absurd this (HEB.out.1 rfl)))
            go_wp2
            exact bodyPost_ret (v := .tuple #[ansv Cm.noAn (.slice none 0 0), .int .i64 8]) (by simp [results, Try.results21, go_sem, z0, z1, z2, z3, z4, z5, z6, z7, z8, z9, z10, z11, z12]) rfl ⟨.slice none 0 0, by rw [HDEC.out], by rw [HDEC.out]; exact World.ownsRow_nil _ _ _ _, below_sets13 HI.out.bl⟩
          | false =>
            have HDEC : RowKit.Hid (Cm.decA l = (Cm.rawA l, 0)) := Lib.hid (Cm.decA_good HDN.out (by rw [HYY.out]; exact HEB.out.2 rfl))
            obtain ⟨vq, vl, vc, rfl⟩ := own_sl HI.out.ow
            go_wp2
            exact bodyPost_ret (v := .tuple #[ansv (⟨Cx.zag (Cx.spU (some l)).1, Cx.zag (Cx.spU ((Cm.ra l).s1)).1, Cx.zag (Cx.spU ((Cm.ra l).s2)).1, Cx.zag (Cx.spU ((Cm.ra l).s3)).1, str (Cx.spT ((Cm.ra l).s4)).1, str (Cx.spT ((Cm.ra l).s5)).1, done, str (Cx.spT none).1, y1, Cx.zag (Cx.spU ((Cm.ra l).s10)).1, Cx.zag (Cx.spU ((Cm.ra l).s11)).1, Cx.zag (Cx.spU ((Cm.ra l).s12)).1, Cx.zag (Cx.spU ((Cm.ra l).s13)).1⟩ : Cm.An) (.slice vq vl vc), .int .i64 0]) (by simp [results, Try.results21, go_sem, z0, z1, z2, z3, z4, z5, z6, z7, z8, z9, z10, z11, z12]) rfl ⟨.slice vq vl vc, by rw [HDEC.out, ← HEQ.out], by rw [HDEC.out, ← HEQ.out]; exact own_sets13 (own_base HI.out.ow (by have := HD.out.r; have := HD.out.c; omega)) (by exact own_far HI.out.ow (by have := HD.out.r; have := HD.out.c; omega)), below_sets13 HI.out.bl⟩
      | some r =>
        clear HEX
        have b1 := hb_at HI.out.rd.1 1 rfl
        go_upto_region 14 with (go_at_call 43; ((with_reducible refine (qT_any R (some r) HLEN.out _ (by exact HI.out.rd)).mono ?_); rintro e w1 ⟨rfl, h, hg⟩; have HJ := Lib.hid (HI.out.call HD.out hg h); clear h hg))
        clear b1
        have hCP : C < w1.heap.size := hb_lt HJ.out.cm
        have hRP : R < w1.heap.size := by have := HD.out.c; omega
        have HGP : RowKit.Hid (∀ g, v.ownBlock = some g → g ≠ w1.heap.size) := Lib.hid (fun g hg => by have := (HJ.out.ow.lt g hg).2; omega)
        have HP := Lib.hid (hb_new w1 (.cells #[.string (str (Cx.spT (some r)).1), .int .i64 0, .int .i64 0, .int .i64 0] 25))
        have HK := Lib.hid (HJ.out.below (below_alloc w1 (.cells #[.string (str (Cx.spT (some r)).1), .int .i64 0, .int .i64 0, .int .i64 0] 25)))
        clear HJ
        generalize w1.alloc (.cells #[.string (str (Cx.spT (some r)).1), .int .i64 0, .int .i64 0, .int .i64 0] 25) = W2 at *
        generalize w1.heap.size = P at *
        go_upto_region 15 with (go_at_call 49; ((with_reducible refine (qZ_any R ((Cx.spT (some r)).2) _ (by exact HK.out.rd)).mono ?_); rintro e x0 ⟨rfl, h, hg⟩; have HJ : RowKit.Hid (IvR w x0 R C (Cx.spU (Cx.spT (some r)).2).2 _ _) := Lib.hid (HK.out.call HD.out hg h); have HP1 := Lib.hid (hb_grown HP.out hg (by simp; omega)); clear h hg; have cc := hb_at HP1.out 1 rfl; have ff := hb_free HP1.out 1))
        clear cc ff
        have HP2 := Lib.hid (hb_set_same HP1.out 1 (.int .i64 (Cx.zag (Cx.spU ((Cx.spT (some r)).2)).1)))
        have HK2 := Lib.hid (HJ.out.far HD.out hCP HGP.out 1 (.int .i64 (Cx.zag (Cx.spU ((Cx.spT (some r)).2)).1)))
        clear HP HP1 HK HJ
        have HP := HP2
        have HK := HK2
        clear HP2 HK2
        go_upto_region 16 with (go_at_call 49; ((with_reducible refine (qZ_any R ((Cx.spU (Cx.spT (some r)).2).2) _ (by exact HK.out.rd)).mono ?_); rintro e x1 ⟨rfl, h, hg⟩; have HJ : RowKit.Hid (IvR w x1 R C (Cx.spU (Cx.spU (Cx.spT (some r)).2).2).2 _ _) := Lib.hid (HK.out.call HD.out hg h); have HP1 := Lib.hid (hb_grown HP.out hg (by simp; omega)); clear h hg; have cc := hb_at HP1.out 2 rfl; have ff := hb_free HP1.out 2))
        clear cc ff
        have HP2 := Lib.hid (hb_set_same HP1.out 2 (.int .i64 (Cx.zag (Cx.spU ((Cx.spU (Cx.spT (some r)).2).2)).1)))
        have HK2 := Lib.hid (HJ.out.far HD.out hCP HGP.out 2 (.int .i64 (Cx.zag (Cx.spU ((Cx.spU (Cx.spT (some r)).2).2)).1)))
        clear HP HP1 HK HJ
        have HP := HP2
        have HK := HK2
        clear HP2 HK2
        go_upto_region 17 with (go_at_call 49; ((with_reducible refine (qZ_any R ((Cx.spU (Cx.spU (Cx.spT (some r)).2).2).2) _ (by exact HK.out.rd)).mono ?_); rintro e x2 ⟨rfl, h, hg⟩; have HJ : RowKit.Hid (IvR w x2 R C (Cm.rdZ (some r)).2 _ _) := Lib.hid (HK.out.call HD.out hg h); have HP1 := Lib.hid (hb_grown HP.out hg (by simp; omega)); clear h hg; have cc := hb_at HP1.out 3 rfl; have ff := hb_free HP1.out 3))
        clear cc ff
        have HP2 := Lib.hid (hb_set_same HP1.out 3 (.int .i64 (Cx.zag (Cx.spU ((Cx.spU (Cx.spU (Cx.spT (some r)).2).2).2)).1)))
        have HK2 := Lib.hid (HJ.out.far HD.out hCP HGP.out 3 (.int .i64 (Cx.zag (Cx.spU ((Cx.spU (Cx.spU (Cx.spT (some r)).2).2).2)).1)))
        clear HP HP1 HK HJ
        have HP := HP2
        have HK := HK2
        clear HP2 HK2
        generalize hW5 : World.setCell x2 ⟨P, 3, none⟩ (.int .i64 (Cx.zag (Cx.spU ((Cx.spU (Cx.spU (Cx.spT (some r)).2).2).2)).1)) = W5 at *
        have HW5 := Lib.hid hW5
        clear hW5
        have p0 : W5.cell? ⟨P, 0, none⟩ = some (.string (Cm.rdZ (some r)).1.p) := hb_at HP.out 0 rfl
        have p1 : W5.cell? ⟨P, 1, none⟩ = some (.int .i64 (Cm.rdZ (some r)).1.v.a) := hb_at HP.out 1 rfl
        have p2 : W5.cell? ⟨P, 2, none⟩ = some (.int .i64 (Cm.rdZ (some r)).1.v.b) := hb_at HP.out 2 rfl
        have p3 : W5.cell? ⟨P, 3, none⟩ = some (.int .i64 (Cm.rdZ (some r)).1.v.c) := hb_at HP.out 3 rfl
        have c6 := (ans_cells HK.out.cm).2.2.2.2.2.2.1
        go_wp2_with (at_builtin; refine wpList_append_own _ rfl (.tmp 65) (.tmp 67) 45 rfl (C + 1) 25 i0 (.agg #[.string ⟨#[]⟩, .int .i64 0, .int .i64 0, .int .i64 0]) 4 40 Try.underlying45 hi hz0 hz1 hz2 rfl (by decide) v done.length _ rfl (by exact (HK.out.below (below_alloc _ _)).ow) ⟨W5.heap.size, 0, none⟩ 1 1 [.string (Cm.rdZ (some r)).1.p, .int .i64 (Cm.rdZ (some r)).1.v.a, .int .i64 (Cm.rdZ (some r)).1.v.b, .int .i64 (Cm.rdZ (some r)).1.v.c] rfl rfl (by exact new_cells W5 _ 25 _ rfl) (by simp [Value.oneCell']) (by unfold maxLen; omega) (by omega) (by exact Nat.le_of_lt (by have := hb_lt HK.out.cm; simp; omega)) ?_; intro v2 w6 hown2 hg2 _; obtain ⟨q2, l2, p2', rfl⟩ := own_sl hown2; have HS := Lib.hid (ivR_app HK.out HD.out (x := (Cm.rdZ (some r)).1) hown2 hg2); have c6' := (ans_cells HS.out.cm).2.2.2.2.2.2.1; have f6 := hb_free HS.out.cm 6)
        go_roundw
        case rel => exact ivR_round (fun D => (⟨Cx.zag (Cx.spU (some l)).1, Cx.zag (Cx.spU ((Cm.ra l).s1)).1, Cx.zag (Cx.spU ((Cm.ra l).s2)).1, Cx.zag (Cx.spU ((Cm.ra l).s3)).1, str (Cx.spT ((Cm.ra l).s4)).1, str (Cx.spT ((Cm.ra l).s5)).1, D, ⟨#[]⟩, false, 0, 0, 0, 0⟩ : Cm.An)) (fun _ => rfl) (fun _ _ _ _ => rfl) HS.out HD.out HRDP.out hkm hm1 hbd HLEN.out
        case measure => simp [intOf]; omega

end Go.Proofs.Ytfbfdkjimoomlaa
