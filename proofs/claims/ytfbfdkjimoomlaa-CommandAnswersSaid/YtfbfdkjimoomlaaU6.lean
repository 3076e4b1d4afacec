/- Contract: Answer of any bytes. -/
import Derived.Test.YtfbfdkjimoomlaaU5
namespace Go.Proofs.Ytfbfdkjimoomlaa
open Go.RowKit
theorem IvA.drew {w W : World} {X R C : Nat} {st : Cm.St} {a : Cm.An} {v : Value} (h : IvA w W X R C st a v) : IvA w W.drew X R C st a v :=
  ⟨h.rs, h.px, h.rd.drew, h.cm, below_drewN h.bl 1, h.ow⟩
theorem ra_len (l : List UInt8) (hl : l.length ≤ 1000000) : (∀ r, (Cm.ra l).s4 = some r → r.length ≤ 1000000) ∧ (∀ r, (Cm.ra l).s5 = some r → r.length ≤ 1000000) ∧ ∀ r, (Cm.ra l).s7 = some r → r.length ≤ 1000000 := by
  have h4 : ∀ r, (Cm.ra l).s4 = some r → r.length ≤ 1000000 := spU_len (spU_len (spU_len (spU_len (fun r hr => by cases hr; exact hl))))
  have h5 : ∀ r, (Cm.ra l).s5 = some r → r.length ≤ 1000000 := spT_len h4
  exact ⟨h4, h5, spU_len (spT_len h5)⟩
theorem info25 : (Try.prog.info? 25).map (fun i => (i.zero, i.size, i.bytes)) = some (some (.agg #[.string ⟨#[]⟩, .int .i64 0, .int .i64 0, .int .i64 0]), 4, 40) := by kernel_rfl
/-- How much is left to be read; one more while it is good. -/
def stw : Cm.St → Nat
  | none => 0
  | some r => r.length + 1
theorem stw_spU (st : Cm.St) : stw (Cx.spU st).2 ≤ stw st := by
  rcases h : (Cx.spU st).2 with _ | r
  · exact Nat.zero_le _
  · have := (Cm.spU_back h).1
    rw [this]
    simp only [stw, List.length_append]
    omega
theorem stw_spT (st : Cm.St) : stw (Cx.spT st).2 ≤ stw st := by
  rcases h : (Cx.spT st).2 with _ | r
  · exact Nat.zero_le _
  · have := Cm.spT_back h
    rw [this]
    simp only [stw, List.length_append]
    omega
theorem stw_rdZ (r : List UInt8) : stw (Cm.rdZ (some r)).2 + 1 ≤ stw (some r) := by
  rcases h : (Cm.rdZ (some r)).2 with _ | r2
  · simp [stw]
  · have := Option.some.inj (Cm.rdZ_back h)
    have hne : 1 ≤ (Cm.pinZ (Cm.rdZ (some r)).1).length := by
      unfold Cm.pinZ txt
      simp only [List.length_append, Cx.uv_len]
      omega
    have e := congrArg List.length this
    rw [List.length_append] at e
    simp only [stw]
    omega
theorem ra_stw (l : List UInt8) : stw (Cm.ra l).s7 ≤ l.length + 1 := by
  have h : stw (Cm.ra l).s7 ≤ stw (some l) := Nat.le_trans (stw_spU _) (Nat.le_trans (stw_spT _) (Nat.le_trans (stw_spT _) (Nat.le_trans (stw_spU _) (Nat.le_trans (stw_spU _) (Nat.le_trans (stw_spU _) (stw_spU _))))))
  exact h
theorem own_sl {w : World} {base : Nat} {e : TypeId} {size : Nat} {v : Value} {n : Nat} {xs : List Value} (h : w.ownsRow base e size v n xs) : ∃ q l c, v = .slice q l c := by
  rcases h.2 with ⟨h, _⟩ | ⟨_, _, _, h, _⟩
  · exact ⟨_, _, _, h⟩
  · exact ⟨_, _, _, h⟩
theorem IvA.below {w W W' : World} {X R C : Nat} {st : Cm.St} {a : Cm.An} {v : Value} (h : IvA w W X R C st a v) (hb : Below W.heap.size W W') : IvA w W' X R C st a v :=
  ⟨hb_below h.rs hb (hb_lt h.rs), hb_below h.px hb (hb_lt h.px), h.rd.kept (fun x hx => hb_below hx hb (hb_lt hx)), hb_below h.cm hb (hb_lt h.cm), h.bl.trans (hb.mono h.bl.size), own_kept h.ow (fun g x hg hx => hb_below hx hb (hb_lt hx))⟩
/-- Behind an append to the pins: all is as it was, but the pins' row. -/
structure IvB (w W : World) (X R C : Nat) (st : Cm.St) (a : Cm.An) (v v2 : Value) (x : Cm.Pn) : Prop where
  rs : W.heap[w.heap.size]? = some (.cells zeroAns 49 (0, 0))
  px : W.heap[X]? = some (.cells #[.pointer (some ⟨R, 0, none⟩)] 80 (0, 0))
  rd : Rd W R st
  cm : W.heap[C]? = some (.cells (ansCells a v) 49 (0, 0))
  bl : Below w.heap.size w W
  ow : W.ownsRow (C + 1) 25 4 v2 (a.ps.length + 1) ((a.ps.flatMap fun x => [.string x.p, .int .i64 x.v.a, .int .i64 x.v.b, .int .i64 x.v.c]) ++ [.string x.p, .int .i64 x.v.a, .int .i64 x.v.b, .int .i64 x.v.c])
theorem ivA_app {w W W2 : World} {X R C : Nat} {st : Cm.St} {a : Cm.An} {v v2 : Value} {x : Cm.Pn} {o : Obj} (h : IvA w W X R C st a v) (d : Dis w X R C)
    (ho : W2.ownsRow (C + 1) 25 4 v2 (a.ps.length + 1) ((a.ps.flatMap fun x => [.string x.p, .int .i64 x.v.a, .int .i64 x.v.b, .int .i64 x.v.c]) ++ [.string x.p, .int .i64 x.v.a, .int .i64 x.v.b, .int .i64 x.v.c]))
    (hg : (W.alloc o).grownBy W2 v.ownBlock) : IvB w W2 X R C st a v v2 x := by
  have hA := h.below (below_alloc W o)
  have h1 := d.r
  have h2 := d.x
  have h3 := d.c
  have hn : ∀ k, k ≤ C → some k ≠ v.ownBlock := fun k hk e => by
    have := (hA.ow.lt k e.symm).1
    omega
  exact ⟨hb_grown hA.rs hg (hn _ (by omega)), hb_grown hA.px hg (hn _ (by omega)), hA.rd.kept (fun x hx => hb_grown hx hg (hn _ (by omega))), hb_grown hA.cm hg (hn _ (Nat.le_refl _)), hA.bl.grown hg hA.bl.size (fun j hj => by have := (hA.ow.lt j hj).1; omega), ho⟩
theorem exit_eq {N0 m : Nat} {s7 st : Cm.St} {done : List Cm.Pn} (h : Cm.rdPs N0 s7 = (done ++ (Cm.rdPs m st).1, (Cm.rdPs m st).2)) (he : Cm.rdPs m st = ([], st)) : done = (Cm.rdPs N0 s7).1 ∧ st = (Cm.rdPs N0 s7).2 := by
  rw [he] at h
  rw [h]
  exact ⟨by simp, rfl⟩
theorem y_cases (y : Nat) : ∃ y1 b2 : Bool, (y == 1) = y1 ∧ ((y : Int) == 1) = y1 ∧ decide (1 < (y : Int)) = b2 ∧ ((b2 = true → ¬ y ≤ 1) ∧ (b2 = false → y ≤ 1)) ∧ True := by
  refine ⟨_, _, rfl, ?_, rfl, ⟨?_, ?_⟩, trivial⟩
  · rw [Bool.eq_iff_iff, beq_iff_eq, beq_iff_eq]; omega
  · intro h; simp at h; omega
  · intro h; simp at h; omega
theorem below_sets13 {B : Nat} {w W : World} (h : Below B w W) {v0 v1 v2 v3 v4 v5 v6 v7 v8 v9 v10 v11 v12 : Value} : Below B w ((((((((((((((W.setCell ⟨B, 0, none⟩ v0).setCell ⟨B, 1, none⟩ v1).setCell ⟨B, 2, none⟩ v2).setCell ⟨B, 3, none⟩ v3).setCell ⟨B, 4, none⟩ v4).setCell ⟨B, 5, none⟩ v5).setCell ⟨B, 6, none⟩ v6).setCell ⟨B, 7, none⟩ v7).setCell ⟨B, 8, none⟩ v8).setCell ⟨B, 9, none⟩ v9).setCell ⟨B, 10, none⟩ v10).setCell ⟨B, 11, none⟩ v11).setCell ⟨B, 12, none⟩ v12)) := (((((((((((((h.setCell (by simp) v0).setCell (by simp) v1).setCell (by simp) v2).setCell (by simp) v3).setCell (by simp) v4).setCell (by simp) v5).setCell (by simp) v6).setCell (by simp) v7).setCell (by simp) v8).setCell (by simp) v9).setCell (by simp) v10).setCell (by simp) v11).setCell (by simp) v12)
theorem own_far {w : World} {b B : Nat} {e : TypeId} {size : Nat} {v : Value} {n : Nat} {xs : List Value} (h : w.ownsRow b e size v n xs) (hb : B < b) : ∀ g, v.ownBlock = some g → g ≠ B := fun g hg => by have := (h.lt g hg).1; omega
theorem own_sets13 {B b : Nat} {W : World} {e : TypeId} {size : Nat} {v : Value} {n : Nat} {xs : List Value} (h : W.ownsRow b e size v n xs) (hne : ∀ g, v.ownBlock = some g → g ≠ B) {v0 v1 v2 v3 v4 v5 v6 v7 v8 v9 v10 v11 v12 : Value} : ((((((((((((((W.setCell ⟨B, 0, none⟩ v0).setCell ⟨B, 1, none⟩ v1).setCell ⟨B, 2, none⟩ v2).setCell ⟨B, 3, none⟩ v3).setCell ⟨B, 4, none⟩ v4).setCell ⟨B, 5, none⟩ v5).setCell ⟨B, 6, none⟩ v6).setCell ⟨B, 7, none⟩ v7).setCell ⟨B, 8, none⟩ v8).setCell ⟨B, 9, none⟩ v9).setCell ⟨B, 10, none⟩ v10).setCell ⟨B, 11, none⟩ v11).setCell ⟨B, 12, none⟩ v12)).ownsRow b e size v n xs :=
  own_kept h (fun g x hg hx => (hb_set_other (hb_set_other (hb_set_other (hb_set_other (hb_set_other (hb_set_other (hb_set_other (hb_set_other (hb_set_other (hb_set_other (hb_set_other (hb_set_other (hb_set_other hx v0 (by simp; exact hne g hg)) v1 (by simp; exact hne g hg)) v2 (by simp; exact hne g hg)) v3 (by simp; exact hne g hg)) v4 (by simp; exact hne g hg)) v5 (by simp; exact hne g hg)) v6 (by simp; exact hne g hg)) v7 (by simp; exact hne g hg)) v8 (by simp; exact hne g hg)) v9 (by simp; exact hne g hg)) v10 (by simp; exact hne g hg)) v11 (by simp; exact hne g hg)) v12 (by simp; exact hne g hg)))
namespace Cm
theorem decA_bad {l : List UInt8} (h : ¬ (stDone (ra l).s14 = true ∧ (Cx.spU (ra l).s9).1 ≤ 1)) : decA l = (noAn, 8) := by unfold decA; rw [if_neg h]
theorem decA_good {l : List UInt8} (h : stDone (ra l).s14 = true) (h2 : (Cx.spU (ra l).s9).1 ≤ 1) : decA l = (rawA l, 0) := by unfold decA; rw [if_pos ⟨h, h2⟩]
end Cm
theorem ivA_round {w W : World} {X R C L N0 m : Nat} {s7 : Cm.St} {r : List UInt8} {done : List Cm.Pn} {v v2 : Value} (A : List Cm.Pn → Cm.An) (hA : ∀ d, (A d).ps = d) (hAc : ∀ d1 d2 v1 v2, (ansCells (A d1) v1).setIfInBounds 6 v2 = ansCells (A d2) v2)
    (h : IvB w W X R C (Cm.rdZ (some r)).2 (A done) v v2 (Cm.rdZ (some r)).1) (d : Dis w X R C) (hrd : Cm.rdPs N0 s7 = (done ++ (Cm.rdPs m (some r)).1, (Cm.rdPs m (some r)).2)) (hm : m < 18446744073709551616) (h1 : 1 ≤ m)
    (hbd : done.length + stw (some r) ≤ L + 1) (hlen : ∀ r', some r = some r' → r'.length ≤ 1000000) :
    ∃ (m' : Nat) (done' : List Cm.Pn) (st' : Cm.St) (v' : Value), Value.int .u64 ((m : Int) - 1) = .int .u64 (m' : Nat) ∧ m' < 18446744073709551616 ∧ Cm.rdPs N0 s7 = (done' ++ (Cm.rdPs m' st').1, (Cm.rdPs m' st').2) ∧ IvA w (W.setCell ⟨C, 6, none⟩ v2) X R C st' (A done') v' ∧ done'.length + stw st' ≤ L + 1 ∧ (∀ r, st' = some r → r.length ≤ 1000000) := by
  obtain ⟨m', rfl⟩ : ∃ m', m = m' + 1 := ⟨m - 1, by omega⟩
  have d1 := d.r
  have d2 := d.x
  have d3 := d.c
  have hw := stw_rdZ r
  refine ⟨m', done ++ [(Cm.rdZ (some r)).1], (Cm.rdZ (some r)).2, v2, by congr 1; omega, by omega, ?_, ?_, ?_, ?_⟩
  · rw [hrd]
    show (done ++ ((Cm.rdZ (some r)).1 :: (Cm.rdPs m' (Cm.rdZ (some r)).2).1), _) = _
    rw [List.append_assoc]
    rfl
  · refine ⟨hb_set_other h.rs v2 (by simp; omega), hb_set_other h.px v2 (by simp; omega), h.rd.kept (fun x hx => hb_set_other hx v2 (by simp; omega)), ?_, h.bl.setCell (by simp; omega) v2, ?_⟩
    · have := hb_set_same h.cm 6 v2
      rwa [hAc _ (done ++ [(Cm.rdZ (some r)).1])] at this
    · rw [hA, List.length_append, List.flatMap_append]
      have ho := h.ow
      rw [hA] at ho
      refine own_kept (n := done.length + 1) (by simpa using ho) (fun g x hg hx => hb_set_other hx v2 ?_)
      have := (ho.lt g hg).1
      simp
      omega
  · rw [List.length_append]
    simp only [List.length_cons, List.length_nil]
    omega
  · intro r' hr'
    rw [hr'] at hw
    have := hlen r rfl
    simp only [stw] at hw
    omega
set_option maxRecDepth 100000 in
set_option maxHeartbeats 8000000 in
theorem answer_any (l : List UInt8) (hl : l.length ≤ 100000) (w : World) : Calls Try.prog 18 #[.string (str l)] w fun e w' => ∃ v, e = .returned (.tuple #[ansv (Cm.decA l).1 v, .int .i64 (Cm.decA l).2]) ∧ w'.ownsRow w.heap.size 25 4 v (Cm.decA l).1.ps.length ((Cm.decA l).1.ps.flatMap fun x => [.string x.p, .int .i64 x.v.a, .int .i64 x.v.b, .int .i64 x.v.c]) ∧ Below w.heap.size w w' := by
  have hmax : l.length ≤ maxLen := by unfold maxLen; omega
  have h0 := hb_new w (.cells zeroAns 49)
  have h1 := hb_new (w.alloc (.cells zeroAns 49)) (.cells #[.string (str l), .bool true] 105)
  have h2 := hb_new ((w.alloc (.cells zeroAns 49)).alloc (.cells #[.string (str l), .bool true] 105)) (.cells #[.pointer (some ⟨w.heap.size + 1, 0, none⟩)] 80)
  simp only [World.size_alloc] at h1 h2
  have HW1 : RowKit.Hid (Rd (((w.alloc (.cells zeroAns 49)).alloc (.cells #[.string (str l), .bool true] 105)).alloc (.cells #[.pointer (some ⟨w.heap.size + 1, 0, none⟩)] 80)) (w.heap.size + 1) (some l)) := Lib.hid ⟨hb_alloc h1 _, hmax⟩
  have HW0 : RowKit.Hid ((((w.alloc (.cells zeroAns 49)).alloc (.cells #[.string (str l), .bool true] 105)).alloc (.cells #[.pointer (some ⟨w.heap.size + 1, 0, none⟩)] 80)).heap[w.heap.size]? = some (.cells zeroAns 49 (0, 0))) := Lib.hid (hb_alloc (hb_alloc h0 _) _)
  have HX1 : RowKit.Hid ((((w.alloc (.cells zeroAns 49)).alloc (.cells #[.string (str l), .bool true] 105)).alloc (.cells #[.pointer (some ⟨w.heap.size + 1, 0, none⟩)] 80)).heap[w.heap.size + 1 + 1]? = some (.cells #[.pointer (some ⟨w.heap.size + 1, 0, none⟩)] 80 (0, 0))) := Lib.hid h2
  have HBW1 : RowKit.Hid (Below w.heap.size w (((w.alloc (.cells zeroAns 49)).alloc (.cells #[.string (str l), .bool true] 105)).alloc (.cells #[.pointer (some ⟨w.heap.size + 1, 0, none⟩)] 80))) := Lib.hid ((((below_alloc w _).alloc (by simp) _)).alloc (by simp; omega) _)
  have hz1 : w.heap.size + 1 + 1 < (((w.alloc (.cells zeroAns 49)).alloc (.cells #[.string (str l), .bool true] 105)).alloc (.cells #[.pointer (some ⟨w.heap.size + 1, 0, none⟩)] 80)).heap.size := by simp
  clear h0 h1 h2 hmax
  go_enter Try.func18, Try.ntmps18
  go_upto_region 2 with (go_at_call 35; ((with_reducible refine (newReader_any (str l) _).mono ?_); rintro e w' ⟨rfl, rfl⟩))
  generalize hWW : (((w.alloc (.cells zeroAns 49)).alloc (.cells #[.string (str l), .bool true] 105)).alloc (.cells #[.pointer (some ⟨w.heap.size + 1, 0, none⟩)] 80)) = W1 at *
  have HWW := Lib.hid hWW
  clear hWW
  generalize hXX : w.heap.size + 1 + 1 = X at *
  generalize hRR : w.heap.size + 1 = R at *
  have hXR : X ≠ R := by omega
  have hRX : R < X := by omega
  have hRw : w.heap.size < R := by omega
  clear hRR hXX
  have HRW := HW1
  have HR0 := Lib.hid HW1.out.drew
  have HR0a : RowKit.Hid (Rd (W1.alloc (.cells zeroAns 49)).drew R (some l)) := Lib.hid (HW1.out.alloc _).drew
  have hX0 : W1.drew.cell? ⟨X, 0, none⟩ = some (.pointer (some ⟨R, 0, none⟩)) := hb_at HX1.out 0 rfl
  go_cut [5] (fun s5 wx => ∃ C : Nat, s5 = .pointer (some ⟨C, 0, none⟩) ∧ X < C ∧ IvA w wx X R C (Cm.ra l).s3 ⟨Cx.zag (Cx.spU (some l)).1, Cx.zag (Cx.spU (Cm.ra l).s1).1, Cx.zag (Cx.spU (Cm.ra l).s2).1, 0, ⟨#[]⟩, ⟨#[]⟩, [], ⟨#[]⟩, false, 0, 0, 0, 0⟩ (.slice none 0 0))
  case first =>
    refine wp_region_held_drew (S := (fun w' => w'.cell? ⟨X, 0, none⟩ = some (.pointer (some ⟨R, 0, none⟩)))) (by kernel_rfl) (by exact hX0) (fun hHeld => ?_)
    refine wpAnyH_take (i := 0) (oi := ⟨some 12, _, _, _, _, _⟩) (v := ?_) rfl (by kernel_rfl) (by kernel_rfl) (by kernel_rfl) (fun _ _ _ h => h) (Or.inl ⟨by rfl, ?_⟩) (by assumption) ?_
    rotate_left
    focus (intro w hSw; (try dsimp only at hSw); go_simp; first | done | with_reducible rfl)
    try simp only [Act.put, List.setIfInBounds_toArray, List.set_cons_zero, List.set_cons_succ]
    refine wpAnyH_take (i := 1) (oi := ⟨some 13, _, _, _, _, _⟩) (v := ?_) rfl (by kernel_rfl) (by kernel_rfl) (by kernel_rfl) (fun _ _ _ h => h) (Or.inl ⟨by rfl, ?_⟩) (by assumption) ?_
    rotate_left
    focus (intro w hSw; (try dsimp only at hSw); go_simp; first | done | with_reducible rfl)
    try simp only [Act.put, List.setIfInBounds_toArray, List.set_cons_zero, List.set_cons_succ]
    refine wpAnyH_take (i := 2) (oi := ⟨some 14, _, _, _, _, _⟩) (v := ?_) rfl (by kernel_rfl) (by kernel_rfl) (by kernel_rfl) (fun _ _ _ h => h) (Or.inl ⟨by rfl, ?_⟩) (by assumption) ?_
    rotate_left
    focus (intro w hSw; (try dsimp only at hSw); go_simp; first | done | with_reducible rfl)
    try simp only [Act.put, List.setIfInBounds_toArray, List.set_cons_zero, List.set_cons_succ]
    refine wpAnyH_take (i := 3) (oi := ⟨some 15, _, _, _, _, _⟩) (v := ?_) rfl (by kernel_rfl) (by kernel_rfl) (by kernel_rfl) (fun _ _ _ h => h) (Or.inl ⟨by rfl, ?_⟩) (by assumption) ?_
    rotate_left
    focus (intro w hSw; (try dsimp only at hSw); go_simp; first | done | with_reducible rfl)
    try simp only [Act.put, List.setIfInBounds_toArray, List.set_cons_zero, List.set_cons_succ]
    refine wpAnyH_take (i := 5) (oi := ⟨some 17, _, _, _, _, _⟩) (v := ?_) rfl (by kernel_rfl) (by kernel_rfl) (by kernel_rfl) (fun _ _ _ h => h) (Or.inl ⟨by rfl, ?_⟩) (by assumption) ?_
    rotate_left
    focus (intro w hSw; (try dsimp only at hSw); go_simp; first | done | with_reducible rfl)
    try simp only [Act.put, List.setIfInBounds_toArray, List.set_cons_zero, List.set_cons_succ]
    refine wpAnyH_take (i := 6) (oi := ⟨some 18, _, _, _, _, _⟩) (v := ?_) rfl (by kernel_rfl) (by kernel_rfl) (by kernel_rfl) (fun _ _ _ h => h) (Or.inl ⟨by rfl, ?_⟩) (by assumption) ?_
    rotate_left
    focus (intro w hSw; (try dsimp only at hSw); go_simp; first | done | with_reducible rfl)
    try simp only [Act.put, List.setIfInBounds_toArray, List.set_cons_zero, List.set_cons_succ]
    refine wpAnyH_take (i := 7) (oi := ⟨some 19, _, _, _, _, _⟩) (v := ?_) rfl (by kernel_rfl) (by kernel_rfl) (by kernel_rfl) (fun _ _ _ h => h) (Or.inl ⟨by rfl, ?_⟩) (by assumption) ?_
    rotate_left
    focus (intro w hSw; (try dsimp only at hSw); go_simp; first | done | with_reducible rfl)
    try simp only [Act.put, List.setIfInBounds_toArray, List.set_cons_zero, List.set_cons_succ]
    refine wpAnyH_take (i := 8) (oi := ⟨some 20, _, _, _, _, _⟩) (v := ?_) rfl (by kernel_rfl) (by kernel_rfl) (by kernel_rfl) (fun _ _ _ h => h) (Or.inl ⟨by rfl, ?_⟩) (by assumption) ?_
    rotate_left
    focus (intro w hSw; (try dsimp only at hSw); go_simp; first | done | with_reducible rfl)
    try simp only [Act.put, List.setIfInBounds_toArray, List.set_cons_zero, List.set_cons_succ]
    refine wpAnyH_take (i := 10) (oi := ⟨some 22, _, _, _, _, _⟩) (v := ?_) rfl (by kernel_rfl) (by kernel_rfl) (by kernel_rfl) (fun _ _ _ h => h) (Or.inl ⟨by rfl, ?_⟩) (by assumption) ?_
    rotate_left
    focus (intro w hSw; (try dsimp only at hSw); go_simp; first | done | with_reducible rfl)
    try simp only [Act.put, List.setIfInBounds_toArray, List.set_cons_zero, List.set_cons_succ]
    refine wpAnyH_take (i := 11) (oi := ⟨some 23, _, _, _, _, _⟩) (v := ?_) rfl (by kernel_rfl) (by kernel_rfl) (by kernel_rfl) (fun _ _ _ h => h) (Or.inl ⟨by rfl, ?_⟩) (by assumption) ?_
    rotate_left
    focus (intro w hSw; (try dsimp only at hSw); go_simp; first | done | with_reducible rfl)
    try simp only [Act.put, List.setIfInBounds_toArray, List.set_cons_zero, List.set_cons_succ]
    refine wpAnyH_take (i := 12) (oi := ⟨some 24, _, _, _, _, _⟩) (v := ?_) rfl (by kernel_rfl) (by kernel_rfl) (by kernel_rfl) (fun _ _ _ h => h) (Or.inl ⟨by rfl, ?_⟩) (by assumption) ?_
    rotate_left
    focus (intro w hSw; (try dsimp only at hSw); go_simp; first | done | with_reducible rfl)
    try simp only [Act.put, List.setIfInBounds_toArray, List.set_cons_zero, List.set_cons_succ]
    refine wpAnyH_take (i := 13) (oi := ⟨some 25, _, _, _, _, _⟩) (v := ?_) rfl (by kernel_rfl) (by kernel_rfl) (by kernel_rfl) (fun _ _ _ h => h) (Or.inl ⟨by rfl, ?_⟩) (by assumption) ?_
    rotate_left
    focus (intro w hSw; (try dsimp only at hSw); go_simp; first | done | with_reducible rfl)
    try simp only [Act.put, List.setIfInBounds_toArray, List.set_cons_zero, List.set_cons_succ]
    refine wpAnyH_ready (rs := [4, 16]) (by kernel_rfl) (by simp) ?_
    refine AllReadyH.cons (o := ⟨some 16, _, _, _, _, _⟩) rfl (fun K hK => ?_) (AllReadyH.cons (o := ⟨some 5, _, _, _, _, _⟩) rfl (fun K hK => ?_) AllReadyH.nil)
    · go_simp
      ((with_reducible refine (rI_any R (some l) _ (by exact HR0.out)).mono ?_); rintro e w1 ⟨rfl, h1, hg1⟩; have HR1 := Lib.hid h1; have HGD1 := Lib.hid hg1; have HG1 := Lib.hid (grown_undrew hg1); clear h1 hg1)
      go_wp2_with fail
      refine hK.out _ _ (by exact cell_grown hHeld HGD1.out hXR) (fun hNew => ?_)
      clear hK K
      clear hHeld; have hHeld := hNew; clear hNew
      try simp only [Act.put, List.setIfInBounds_toArray, List.set_cons_zero, List.set_cons_succ]
      refine wpAnyH_ready (rs := [9, 16]) (by kernel_rfl) (by simp) ?_
      refine AllReadyH.cons (o := ⟨some 21, _, _, _, _, _⟩) rfl (fun K hK => ?_) (AllReadyH.cons (o := ⟨some 5, _, _, _, _, _⟩) rfl (fun K hK => ?_) AllReadyH.nil)
      · go_simp
        ((with_reducible refine (rI_any R ((Cx.spU (some l)).2) _ (by exact HR1.out)).mono ?_); rintro e w2 ⟨rfl, h2, hg2⟩; have HR2 := Lib.hid h2; have HGD2 := Lib.hid hg2; have HG2 := Lib.hid hg2; clear h2 hg2)
        go_wp2_with fail
        refine hK.out _ _ (by exact cell_grown hHeld HGD2.out hXR) (fun hNew => ?_)
        clear hK K
        clear hHeld; have hHeld := hNew; clear hNew
        try simp only [Act.put, List.setIfInBounds_toArray, List.set_cons_zero, List.set_cons_succ]
        refine wpAnyH_ready (rs := [14, 16]) (by kernel_rfl) (by simp) ?_
        refine AllReadyH.cons (o := ⟨some 26, _, _, _, _, _⟩) rfl (fun K hK => ?_) (AllReadyH.cons (o := ⟨some 5, _, _, _, _, _⟩) rfl (fun K hK => ?_) AllReadyH.nil)
        · go_simp
          ((with_reducible refine (rI_any R ((Cx.spU (Cx.spU (some l)).2).2) _ (by exact HR2.out)).mono ?_); rintro e w3 ⟨rfl, h3, hg3⟩; have HR3 := Lib.hid h3; have HGD3 := Lib.hid hg3; have HG3 := Lib.hid hg3; clear h3 hg3)
          go_wp2_with fail
          refine hK.out _ _ (by exact cell_grown hHeld HGD3.out hXR) (fun hNew => ?_)
          clear hK K
          clear hHeld; have hHeld := hNew; clear hNew
          try simp only [Act.put, List.setIfInBounds_toArray, List.set_cons_zero, List.set_cons_succ]
          refine wpAnyH_take (i := 15) (oi := ⟨some 27, _, _, _, _, _⟩) (v := ?_) rfl (by kernel_rfl) (by kernel_rfl) (by kernel_rfl) (fun _ _ _ h => h) (Or.inl ⟨by rfl, ?_⟩) (by assumption) ?_
          rotate_left
          focus (intro w hSw; (try dsimp only at hSw); go_simp; first | done | with_reducible rfl)
          try simp only [Act.put, List.setIfInBounds_toArray, List.set_cons_zero, List.set_cons_succ]
          refine wpAnyH_ready (rs := [16]) (by kernel_rfl) (by simp) ?_
          refine AllReadyH.cons (o := ⟨some 5, _, _, _, _, _⟩) rfl (fun K hK => ?_) AllReadyH.nil
          have hOld := hHeld
          go_simp
          refine hK.out _ _ (by exact alloc_cell _ hHeld) (fun hNew => ?_)
          clear hK K
          clear hHeld; have hHeld := hNew; clear hNew
          try simp only [Act.put, List.setIfInBounds_toArray, List.set_cons_zero, List.set_cons_succ]
          refine wpAnyH_ready (rs := [17]) (by kernel_rfl) (by simp) ?_
          refine AllReadyH.cons (o := ⟨none, _, _, _, _, _⟩) rfl (fun K hK => ?_) AllReadyH.nil
          go_simp
          refine hK.out _ _ (by exact alloc_cell _ hOld) (fun hNew => ?_)
          clear hK K
          clear hHeld; have hHeld := hNew; clear hNew
          try simp only [Act.put, List.setIfInBounds_toArray, List.set_cons_zero, List.set_cons_succ]
          refine wpAnyH_done (by kernel_rfl) ?_ _
          go_wp2_with fail
          go_meet
          have hltC : X < w3.heap.size := by have := hz1; have := HG1.out.size; have := HG2.out.size; have := HG3.out.size; omega
          refine ⟨_, rfl, hltC, hb_alloc (hb_grown (hb_grown (hb_grown HW0.out HG1.out (by simp; omega)) HG2.out (by simp; omega)) HG3.out (by simp; omega)) _, hb_alloc (hb_grown (hb_grown (hb_grown HX1.out HG1.out (by simp; omega)) HG2.out (by simp; omega)) HG3.out (by simp; omega)) _, HR3.out.alloc _, hb_new w3 _, ((((HBW1.out.grown HG1.out HBW1.out.size (fun j hj => by cases hj; omega)).grown HG2.out (HBW1.out.grown HG1.out HBW1.out.size (fun j hj => by cases hj; omega)).size (fun j hj => by cases hj; omega)).grown HG3.out ((HBW1.out.grown HG1.out HBW1.out.size (fun j hj => by cases hj; omega)).grown HG2.out (HBW1.out.grown HG1.out HBW1.out.size (fun j hj => by cases hj; omega)).size (fun j hj => by cases hj; omega)).size (fun j hj => by cases hj; omega))).alloc ((((HBW1.out.grown HG1.out HBW1.out.size (fun j hj => by cases hj; omega)).grown HG2.out (HBW1.out.grown HG1.out HBW1.out.size (fun j hj => by cases hj; omega)).size (fun j hj => by cases hj; omega)).grown HG3.out ((HBW1.out.grown HG1.out HBW1.out.size (fun j hj => by cases hj; omega)).grown HG2.out (HBW1.out.grown HG1.out HBW1.out.size (fun j hj => by cases hj; omega)).size (fun j hj => by cases hj; omega)).size (fun j hj => by cases hj; omega))).size _, World.ownsRow_nil _ _ _ _⟩
        · have hOld := hHeld
          go_simp
          refine hK.out _ _ (by exact alloc_cell _ hHeld) (fun hNew => ?_)
          clear hK K
          clear hHeld; have hHeld := hNew; clear hNew
          try simp only [Act.put, List.setIfInBounds_toArray, List.set_cons_zero, List.set_cons_succ]
          refine wpAnyH_ready (rs := [14]) (by kernel_rfl) (by simp) ?_
          refine AllReadyH.cons (o := ⟨some 26, _, _, _, _, _⟩) rfl (fun K hK => ?_) AllReadyH.nil
          go_simp
          ((with_reducible refine (rI_any R ((Cx.spU (Cx.spU (some l)).2).2) _ (by exact (HR2.out.alloc _))).mono ?_); rintro e w3 ⟨rfl, h3, hg3⟩; have HR3 := Lib.hid h3; have HGD3 := Lib.hid hg3; have HG3 := Lib.hid hg3; clear h3 hg3)
          go_wp2_with fail
          refine hK.out _ _ (by exact cell_grown hHeld HGD3.out hXR) (fun hNew => ?_)
          clear hK K
          clear hHeld; have hHeld := hNew; clear hNew
          try simp only [Act.put, List.setIfInBounds_toArray, List.set_cons_zero, List.set_cons_succ]
          refine wpAnyH_take (i := 15) (oi := ⟨some 27, _, _, _, _, _⟩) (v := ?_) rfl (by kernel_rfl) (by kernel_rfl) (by kernel_rfl) (fun _ _ _ h => h) (Or.inl ⟨by rfl, ?_⟩) (by assumption) ?_
          rotate_left
          focus (intro w hSw; (try dsimp only at hSw); go_simp; first | done | with_reducible rfl)
          try simp only [Act.put, List.setIfInBounds_toArray, List.set_cons_zero, List.set_cons_succ]
          refine wpAnyH_ready (rs := [17]) (by kernel_rfl) (by simp) ?_
          refine AllReadyH.cons (o := ⟨none, _, _, _, _, _⟩) rfl (fun K hK => ?_) AllReadyH.nil
          have hltC : X < w2.heap.size := by (have := hz1; have := HG1.out.size; have := HG2.out.size; omega)
          have HBK := Lib.hid (hb_grown (hb_new w2 (.cells zeroAns 49)) HG3.out (by simp; omega))
          obtain ⟨c0, c1, c2, c3, c4, c5, c6, c7, c8, c9, c10, c11, c12⟩ := zeroA_cells HBK.out
          obtain ⟨f0, f1, f2, f3, f4, f5, f6, f7, f8, f9, f10, f11, f12⟩ := ans_free HBK.out
          go_simp
          refine hK.out _ _ (by exact cell_sets13 hHeld (by omega)) (fun hNew => ?_)
          clear hK K
          clear hHeld; have hHeld := hNew; clear hNew
          try simp only [Act.put, List.setIfInBounds_toArray, List.set_cons_zero, List.set_cons_succ]
          refine wpAnyH_done (by kernel_rfl) ?_ _
          go_wp2_with fail
          go_meet
          have hI : IvA w w3 X R w2.heap.size (Cm.ra l).s3 Cm.noAn (.slice none 0 0) := ⟨(hb_grown (hb_alloc (hb_grown (hb_grown HW0.out HG1.out (by simp; omega)) HG2.out (by simp; omega)) _) HG3.out (by simp; omega)), (hb_grown (hb_alloc (hb_grown (hb_grown HX1.out HG1.out (by simp; omega)) HG2.out (by simp; omega)) _) HG3.out (by simp; omega)), HR3.out, HBK.out, ((((HBW1.out.grown HG1.out HBW1.out.size (fun j hj => by cases hj; omega)).grown HG2.out (HBW1.out.grown HG1.out HBW1.out.size (fun j hj => by cases hj; omega)).size (fun j hj => by cases hj; omega)).alloc ((HBW1.out.grown HG1.out HBW1.out.size (fun j hj => by cases hj; omega)).grown HG2.out (HBW1.out.grown HG1.out HBW1.out.size (fun j hj => by cases hj; omega)).size (fun j hj => by cases hj; omega)).size _).grown HG3.out (((HBW1.out.grown HG1.out HBW1.out.size (fun j hj => by cases hj; omega)).grown HG2.out (HBW1.out.grown HG1.out HBW1.out.size (fun j hj => by cases hj; omega)).size (fun j hj => by cases hj; omega)).alloc ((HBW1.out.grown HG1.out HBW1.out.size (fun j hj => by cases hj; omega)).grown HG2.out (HBW1.out.grown HG1.out HBW1.out.size (fun j hj => by cases hj; omega)).size (fun j hj => by cases hj; omega)).size _).size (fun j hj => by cases hj; omega)), World.ownsRow_nil _ _ _ _⟩
          exact ⟨_, rfl, hltC, hI.set13 ⟨hRw, hRX, hltC⟩ ⟨Cx.zag (Cx.spU (some l)).1, Cx.zag (Cx.spU (Cm.ra l).s1).1, Cx.zag (Cx.spU (Cm.ra l).s2).1, 0, ⟨#[]⟩, ⟨#[]⟩, [], ⟨#[]⟩, false, 0, 0, 0, 0⟩ rfl⟩
      · have hOld := hHeld
        go_simp
        refine hK.out _ _ (by exact alloc_cell _ hHeld) (fun hNew => ?_)
        clear hK K
        clear hHeld; have hHeld := hNew; clear hNew
        try simp only [Act.put, List.setIfInBounds_toArray, List.set_cons_zero, List.set_cons_succ]
        refine wpAnyH_ready (rs := [9]) (by kernel_rfl) (by simp) ?_
        refine AllReadyH.cons (o := ⟨some 21, _, _, _, _, _⟩) rfl (fun K hK => ?_) AllReadyH.nil
        go_simp
        ((with_reducible refine (rI_any R ((Cx.spU (some l)).2) _ (by exact (HR1.out.alloc _))).mono ?_); rintro e w2 ⟨rfl, h2, hg2⟩; have HR2 := Lib.hid h2; have HGD2 := Lib.hid hg2; have HG2 := Lib.hid hg2; clear h2 hg2)
        go_wp2_with fail
        refine hK.out _ _ (by exact cell_grown hHeld HGD2.out hXR) (fun hNew => ?_)
        clear hK K
        clear hHeld; have hHeld := hNew; clear hNew
        try simp only [Act.put, List.setIfInBounds_toArray, List.set_cons_zero, List.set_cons_succ]
        refine wpAnyH_ready (rs := [14]) (by kernel_rfl) (by simp) ?_
        refine AllReadyH.cons (o := ⟨some 26, _, _, _, _, _⟩) rfl (fun K hK => ?_) AllReadyH.nil
        go_simp
        ((with_reducible refine (rI_any R ((Cx.spU (Cx.spU (some l)).2).2) _ (by exact HR2.out)).mono ?_); rintro e w3 ⟨rfl, h3, hg3⟩; have HR3 := Lib.hid h3; have HGD3 := Lib.hid hg3; have HG3 := Lib.hid hg3; clear h3 hg3)
        go_wp2_with fail
        refine hK.out _ _ (by exact cell_grown hHeld HGD3.out hXR) (fun hNew => ?_)
        clear hK K
        clear hHeld; have hHeld := hNew; clear hNew
        try simp only [Act.put, List.setIfInBounds_toArray, List.set_cons_zero, List.set_cons_succ]
        refine wpAnyH_take (i := 15) (oi := ⟨some 27, _, _, _, _, _⟩) (v := ?_) rfl (by kernel_rfl) (by kernel_rfl) (by kernel_rfl) (fun _ _ _ h => h) (Or.inl ⟨by rfl, ?_⟩) (by assumption) ?_
        rotate_left
        focus (intro w hSw; (try dsimp only at hSw); go_simp; first | done | with_reducible rfl)
        try simp only [Act.put, List.setIfInBounds_toArray, List.set_cons_zero, List.set_cons_succ]
        refine wpAnyH_ready (rs := [17]) (by kernel_rfl) (by simp) ?_
        refine AllReadyH.cons (o := ⟨none, _, _, _, _, _⟩) rfl (fun K hK => ?_) AllReadyH.nil
        have hltC : X < w1.heap.size := by (have := hz1; have := HG1.out.size; omega)
        have HBK := Lib.hid (hb_grown (hb_grown (hb_new w1 (.cells zeroAns 49)) HG2.out (by simp; omega)) HG3.out (by simp; omega))
        obtain ⟨c0, c1, c2, c3, c4, c5, c6, c7, c8, c9, c10, c11, c12⟩ := zeroA_cells HBK.out
        obtain ⟨f0, f1, f2, f3, f4, f5, f6, f7, f8, f9, f10, f11, f12⟩ := ans_free HBK.out
        go_simp
        refine hK.out _ _ (by exact cell_sets13 hHeld (by omega)) (fun hNew => ?_)
        clear hK K
        clear hHeld; have hHeld := hNew; clear hNew
        try simp only [Act.put, List.setIfInBounds_toArray, List.set_cons_zero, List.set_cons_succ]
        refine wpAnyH_done (by kernel_rfl) ?_ _
        go_wp2_with fail
        go_meet
        have hI : IvA w w3 X R w1.heap.size (Cm.ra l).s3 Cm.noAn (.slice none 0 0) := ⟨(hb_grown (hb_grown (hb_alloc (hb_grown HW0.out HG1.out (by simp; omega)) _) HG2.out (by simp; omega)) HG3.out (by simp; omega)), (hb_grown (hb_grown (hb_alloc (hb_grown HX1.out HG1.out (by simp; omega)) _) HG2.out (by simp; omega)) HG3.out (by simp; omega)), HR3.out, HBK.out, ((((HBW1.out.grown HG1.out HBW1.out.size (fun j hj => by cases hj; omega)).alloc (HBW1.out.grown HG1.out HBW1.out.size (fun j hj => by cases hj; omega)).size _).grown HG2.out ((HBW1.out.grown HG1.out HBW1.out.size (fun j hj => by cases hj; omega)).alloc (HBW1.out.grown HG1.out HBW1.out.size (fun j hj => by cases hj; omega)).size _).size (fun j hj => by cases hj; omega)).grown HG3.out (((HBW1.out.grown HG1.out HBW1.out.size (fun j hj => by cases hj; omega)).alloc (HBW1.out.grown HG1.out HBW1.out.size (fun j hj => by cases hj; omega)).size _).grown HG2.out ((HBW1.out.grown HG1.out HBW1.out.size (fun j hj => by cases hj; omega)).alloc (HBW1.out.grown HG1.out HBW1.out.size (fun j hj => by cases hj; omega)).size _).size (fun j hj => by cases hj; omega)).size (fun j hj => by cases hj; omega)), World.ownsRow_nil _ _ _ _⟩
        exact ⟨_, rfl, hltC, hI.set13 ⟨hRw, hRX, hltC⟩ ⟨Cx.zag (Cx.spU (some l)).1, Cx.zag (Cx.spU (Cm.ra l).s1).1, Cx.zag (Cx.spU (Cm.ra l).s2).1, 0, ⟨#[]⟩, ⟨#[]⟩, [], ⟨#[]⟩, false, 0, 0, 0, 0⟩ rfl⟩
    · have hOld := hHeld
      go_simp
      refine hK.out _ _ (by exact alloc_drew _ hHeld) (fun hNew => ?_)
      clear hK K
      clear hHeld; have hHeld := hNew; clear hNew
      try simp only [Act.put, List.setIfInBounds_toArray, List.set_cons_zero, List.set_cons_succ]
      refine wpAnyH_ready (rs := [4]) (by kernel_rfl) (by simp) ?_
      refine AllReadyH.cons (o := ⟨some 16, _, _, _, _, _⟩) rfl (fun K hK => ?_) AllReadyH.nil
      go_simp
      ((with_reducible refine (rI_any R (some l) _ (by exact HR0a.out)).mono ?_); rintro e w1 ⟨rfl, h1, hg1⟩; have HR1 := Lib.hid h1; have HGD1 := Lib.hid hg1; have HG1 := Lib.hid (grown_undrew hg1); clear h1 hg1)
      go_wp2_with fail
      refine hK.out _ _ (by exact cell_grown hHeld HGD1.out hXR) (fun hNew => ?_)
      clear hK K
      clear hHeld; have hHeld := hNew; clear hNew
      try simp only [Act.put, List.setIfInBounds_toArray, List.set_cons_zero, List.set_cons_succ]
      refine wpAnyH_ready (rs := [9]) (by kernel_rfl) (by simp) ?_
      refine AllReadyH.cons (o := ⟨some 21, _, _, _, _, _⟩) rfl (fun K hK => ?_) AllReadyH.nil
      go_simp
      ((with_reducible refine (rI_any R ((Cx.spU (some l)).2) _ (by exact HR1.out)).mono ?_); rintro e w2 ⟨rfl, h2, hg2⟩; have HR2 := Lib.hid h2; have HGD2 := Lib.hid hg2; have HG2 := Lib.hid hg2; clear h2 hg2)
      go_wp2_with fail
      refine hK.out _ _ (by exact cell_grown hHeld HGD2.out hXR) (fun hNew => ?_)
      clear hK K
      clear hHeld; have hHeld := hNew; clear hNew
      try simp only [Act.put, List.setIfInBounds_toArray, List.set_cons_zero, List.set_cons_succ]
      refine wpAnyH_ready (rs := [14]) (by kernel_rfl) (by simp) ?_
      refine AllReadyH.cons (o := ⟨some 26, _, _, _, _, _⟩) rfl (fun K hK => ?_) AllReadyH.nil
      go_simp
      ((with_reducible refine (rI_any R ((Cx.spU (Cx.spU (some l)).2).2) _ (by exact HR2.out)).mono ?_); rintro e w3 ⟨rfl, h3, hg3⟩; have HR3 := Lib.hid h3; have HGD3 := Lib.hid hg3; have HG3 := Lib.hid hg3; clear h3 hg3)
      go_wp2_with fail
      refine hK.out _ _ (by exact cell_grown hHeld HGD3.out hXR) (fun hNew => ?_)
      clear hK K
      clear hHeld; have hHeld := hNew; clear hNew
      try simp only [Act.put, List.setIfInBounds_toArray, List.set_cons_zero, List.set_cons_succ]
      refine wpAnyH_take (i := 15) (oi := ⟨some 27, _, _, _, _, _⟩) (v := ?_) rfl (by kernel_rfl) (by kernel_rfl) (by kernel_rfl) (fun _ _ _ h => h) (Or.inl ⟨by rfl, ?_⟩) (by assumption) ?_
      rotate_left
      focus (intro w hSw; (try dsimp only at hSw); go_simp; first | done | with_reducible rfl)
      try simp only [Act.put, List.setIfInBounds_toArray, List.set_cons_zero, List.set_cons_succ]
      refine wpAnyH_ready (rs := [17]) (by kernel_rfl) (by simp) ?_
      refine AllReadyH.cons (o := ⟨none, _, _, _, _, _⟩) rfl (fun K hK => ?_) AllReadyH.nil
      have hltC : X < W1.heap.size := hz1
      have HBK := Lib.hid (hb_grown (hb_grown (hb_grown (hb_new W1 (.cells zeroAns 49)) HG1.out (by simp; omega)) HG2.out (by simp; omega)) HG3.out (by simp; omega))
      obtain ⟨c0, c1, c2, c3, c4, c5, c6, c7, c8, c9, c10, c11, c12⟩ := zeroA_cells HBK.out
      obtain ⟨f0, f1, f2, f3, f4, f5, f6, f7, f8, f9, f10, f11, f12⟩ := ans_free HBK.out
      go_simp
      refine hK.out _ _ (by exact cell_sets13 hHeld (by omega)) (fun hNew => ?_)
      clear hK K
      clear hHeld; have hHeld := hNew; clear hNew
      try simp only [Act.put, List.setIfInBounds_toArray, List.set_cons_zero, List.set_cons_succ]
      refine wpAnyH_done (by kernel_rfl) ?_ _
      go_wp2_with fail
      go_meet
      have hI : IvA w w3 X R W1.heap.size (Cm.ra l).s3 Cm.noAn (.slice none 0 0) := ⟨(hb_grown (hb_grown (hb_grown (hb_alloc HW0.out _) HG1.out (by simp; omega)) HG2.out (by simp; omega)) HG3.out (by simp; omega)), (hb_grown (hb_grown (hb_grown (hb_alloc HX1.out _) HG1.out (by simp; omega)) HG2.out (by simp; omega)) HG3.out (by simp; omega)), HR3.out, HBK.out, ((((HBW1.out.alloc HBW1.out.size _).grown HG1.out (HBW1.out.alloc HBW1.out.size _).size (fun j hj => by cases hj; omega)).grown HG2.out ((HBW1.out.alloc HBW1.out.size _).grown HG1.out (HBW1.out.alloc HBW1.out.size _).size (fun j hj => by cases hj; omega)).size (fun j hj => by cases hj; omega)).grown HG3.out (((HBW1.out.alloc HBW1.out.size _).grown HG1.out (HBW1.out.alloc HBW1.out.size _).size (fun j hj => by cases hj; omega)).grown HG2.out ((HBW1.out.alloc HBW1.out.size _).grown HG1.out (HBW1.out.alloc HBW1.out.size _).size (fun j hj => by cases hj; omega)).size (fun j hj => by cases hj; omega)).size (fun j hj => by cases hj; omega)), World.ownsRow_nil _ _ _ _⟩
      exact ⟨_, rfl, hltC, hI.set13 ⟨hRw, hRX, hltC⟩ ⟨Cx.zag (Cx.spU (some l)).1, Cx.zag (Cx.spU (Cm.ra l).s1).1, Cx.zag (Cx.spU (Cm.ra l).s2).1, 0, ⟨#[]⟩, ⟨#[]⟩, [], ⟨#[]⟩, false, 0, 0, 0, 0⟩ rfl⟩
  case rest =>
    obtain ⟨C, rfl, hXC0, hI0⟩ := hcut
    have HI := Lib.hid hI0
    have HD : RowKit.Hid (Dis w X R C) := Lib.hid ⟨hRw, hRX, hXC0⟩
    have hXC : X ≠ C := by omega
    have HL := Lib.hid (ra_len l (by omega))
    have HL4 := Lib.hid HL.out.1
    have HL5 := Lib.hid HL.out.2.1
    clear hI0 HW1 HW0 HX1 HBW1 hz1 HR0 HRW HR0a hX0 HWW
    go_upto_region 3 with fail
    have HJ0 := Lib.hid HI.out.drew
    refine wp_region_held_drew (S := (fun w' => w'.cell? ⟨X, 0, none⟩ = some (.pointer (some ⟨R, 0, none⟩)))) (by kernel_rfl) (by exact HI.out.px0) (fun hHeld => ?_)
    refine wpAnyH_take (i := 0) (oi := ⟨some 28, _, _, _, _, _⟩) (v := ?_) rfl (by kernel_rfl) (by kernel_rfl) (by kernel_rfl) (fun _ _ _ h => h) (Or.inl ⟨by rfl, ?_⟩) (by assumption) ?_
    rotate_left
    focus (intro w hSw; (try dsimp only at hSw); go_simp; first | done | with_reducible rfl)
    try simp only [Act.put, List.setIfInBounds_toArray, List.set_cons_zero, List.set_cons_succ]
    refine wpAnyH_take (i := 1) (oi := ⟨some 29, _, _, _, _, _⟩) (v := ?_) rfl (by kernel_rfl) (by kernel_rfl) (by kernel_rfl) (fun _ _ _ h => h) (Or.inl ⟨by rfl, ?_⟩) (by assumption) ?_
    rotate_left
    focus (intro w hSw; (try dsimp only at hSw); go_simp; first | done | with_reducible rfl)
    try simp only [Act.put, List.setIfInBounds_toArray, List.set_cons_zero, List.set_cons_succ]
    refine wpAnyH_take (i := 2) (oi := ⟨some 30, _, _, _, _, _⟩) (v := ?_) rfl (by kernel_rfl) (by kernel_rfl) (by kernel_rfl) (fun _ _ _ h => h) (Or.inl ⟨by rfl, ?_⟩) (by assumption) ?_
    rotate_left
    focus (intro w hSw; (try dsimp only at hSw); go_simp; first | done | with_reducible rfl)
    try simp only [Act.put, List.setIfInBounds_toArray, List.set_cons_zero, List.set_cons_succ]
    refine wpAnyH_take (i := 3) (oi := ⟨some 31, _, _, _, _, _⟩) (v := ?_) rfl (by kernel_rfl) (by kernel_rfl) (by kernel_rfl) (fun _ _ _ h => h) (Or.inl ⟨by rfl, ?_⟩) (by assumption) ?_
    rotate_left
    focus (intro w hSw; (try dsimp only at hSw); go_simp; first | done | with_reducible rfl)
    try simp only [Act.put, List.setIfInBounds_toArray, List.set_cons_zero, List.set_cons_succ]
    refine wpAnyH_take (i := 5) (oi := ⟨some 33, _, _, _, _, _⟩) (v := ?_) rfl (by kernel_rfl) (by kernel_rfl) (by kernel_rfl) (fun _ _ _ h => h) (Or.inl ⟨by rfl, ?_⟩) (by assumption) ?_
    rotate_left
    focus (intro w hSw; (try dsimp only at hSw); go_simp; first | done | with_reducible rfl)
    try simp only [Act.put, List.setIfInBounds_toArray, List.set_cons_zero, List.set_cons_succ]
    refine wpAnyH_take (i := 6) (oi := ⟨some 34, _, _, _, _, _⟩) (v := ?_) rfl (by kernel_rfl) (by kernel_rfl) (by kernel_rfl) (fun _ _ _ h => h) (Or.inl ⟨by rfl, ?_⟩) (by assumption) ?_
    rotate_left
    focus (intro w hSw; (try dsimp only at hSw); go_simp; first | done | with_reducible rfl)
    try simp only [Act.put, List.setIfInBounds_toArray, List.set_cons_zero, List.set_cons_succ]
    refine wpAnyH_take (i := 7) (oi := ⟨some 35, _, _, _, _, _⟩) (v := ?_) rfl (by kernel_rfl) (by kernel_rfl) (by kernel_rfl) (fun _ _ _ h => h) (Or.inl ⟨by rfl, ?_⟩) (by assumption) ?_
    rotate_left
    focus (intro w hSw; (try dsimp only at hSw); go_simp; first | done | with_reducible rfl)
    try simp only [Act.put, List.setIfInBounds_toArray, List.set_cons_zero, List.set_cons_succ]
    refine wpAnyH_take (i := 8) (oi := ⟨some 36, _, _, _, _, _⟩) (v := ?_) rfl (by kernel_rfl) (by kernel_rfl) (by kernel_rfl) (fun _ _ _ h => h) (Or.inl ⟨by rfl, ?_⟩) (by assumption) ?_
    rotate_left
    focus (intro w hSw; (try dsimp only at hSw); go_simp; first | done | with_reducible rfl)
    try simp only [Act.put, List.setIfInBounds_toArray, List.set_cons_zero, List.set_cons_succ]
    refine wpAnyH_take (i := 10) (oi := ⟨some 38, _, _, _, _, _⟩) (v := ?_) rfl (by kernel_rfl) (by kernel_rfl) (by kernel_rfl) (fun _ _ _ h => h) (Or.inl ⟨by rfl, ?_⟩) (by assumption) ?_
    rotate_left
    focus (intro w hSw; (try dsimp only at hSw); go_simp; first | done | with_reducible rfl)
    try simp only [Act.put, List.setIfInBounds_toArray, List.set_cons_zero, List.set_cons_succ]
    refine wpAnyH_take (i := 11) (oi := ⟨some 39, _, _, _, _, _⟩) (v := ?_) rfl (by kernel_rfl) (by kernel_rfl) (by kernel_rfl) (fun _ _ _ h => h) (Or.inl ⟨by rfl, ?_⟩) (by assumption) ?_
    rotate_left
    focus (intro w hSw; (try dsimp only at hSw); go_simp; first | done | with_reducible rfl)
    try simp only [Act.put, List.setIfInBounds_toArray, List.set_cons_zero, List.set_cons_succ]
    refine wpAnyH_take (i := 12) (oi := ⟨some 40, _, _, _, _, _⟩) (v := ?_) rfl (by kernel_rfl) (by kernel_rfl) (by kernel_rfl) (fun _ _ _ h => h) (Or.inl ⟨by rfl, ?_⟩) (by assumption) ?_
    rotate_left
    focus (intro w hSw; (try dsimp only at hSw); go_simp; first | done | with_reducible rfl)
    try simp only [Act.put, List.setIfInBounds_toArray, List.set_cons_zero, List.set_cons_succ]
    refine wpAnyH_take (i := 13) (oi := ⟨some 41, _, _, _, _, _⟩) (v := ?_) rfl (by kernel_rfl) (by kernel_rfl) (by kernel_rfl) (fun _ _ _ h => h) (Or.inl ⟨by rfl, ?_⟩) (by assumption) ?_
    rotate_left
    focus (intro w hSw; (try dsimp only at hSw); go_simp; first | done | with_reducible rfl)
    try simp only [Act.put, List.setIfInBounds_toArray, List.set_cons_zero, List.set_cons_succ]
    refine wpAnyH_ready (rs := [4]) (by kernel_rfl) (by simp) ?_
    refine AllReadyH.cons (o := ⟨some 32, _, _, _, _, _⟩) rfl (fun K hK => ?_) AllReadyH.nil
    go_simp
    ((with_reducible refine (rI_any R ((Cm.ra l).s3) _ (by exact HJ0.out.rd)).mono ?_); rintro e v1 ⟨rfl, h1, hg1⟩; have HJ1 : RowKit.Hid (IvA w v1 X R C (Cm.ra l).s4 _ _) := Lib.hid (HJ0.out.call HD.out hg1 h1); have HG1 := Lib.hid hg1; clear h1 hg1)
    go_wp2_with fail
    refine hK.out _ _ (by exact cell_grown hHeld HG1.out hXR) (fun hNew => ?_)
    clear hK K
    clear hHeld; have hHeld := hNew; clear hNew
    try simp only [Act.put, List.setIfInBounds_toArray, List.set_cons_zero, List.set_cons_succ]
    refine wpAnyH_ready (rs := [9]) (by kernel_rfl) (by simp) ?_
    refine AllReadyH.cons (o := ⟨some 37, _, _, _, _, _⟩) rfl (fun K hK => ?_) AllReadyH.nil
    go_simp
    ((with_reducible refine (rT_any R ((Cm.ra l).s4) HL4.out _ (by exact HJ1.out.rd)).mono ?_); rintro e v2 ⟨rfl, h2, hg2⟩; have HJ2 : RowKit.Hid (IvA w v2 X R C (Cm.ra l).s5 _ _) := Lib.hid (HJ1.out.call HD.out hg2 h2); have HG2 := Lib.hid hg2; clear h2 hg2)
    go_wp2_with fail
    refine hK.out _ _ (by exact cell_grown hHeld HG2.out hXR) (fun hNew => ?_)
    clear hK K
    clear hHeld; have hHeld := hNew; clear hNew
    try simp only [Act.put, List.setIfInBounds_toArray, List.set_cons_zero, List.set_cons_succ]
    refine wpAnyH_ready (rs := [14]) (by kernel_rfl) (by simp) ?_
    refine AllReadyH.cons (o := ⟨some 42, _, _, _, _, _⟩) rfl (fun K hK => ?_) AllReadyH.nil
    go_simp
    ((with_reducible refine (rT_any R ((Cm.ra l).s5) HL5.out _ (by exact HJ2.out.rd)).mono ?_); rintro e v3 ⟨rfl, h3, hg3⟩; have HJ3 : RowKit.Hid (IvA w v3 X R C (Cm.ra l).s6 _ _) := Lib.hid (HJ2.out.call HD.out hg3 h3); have HG3 := Lib.hid hg3; clear h3 hg3)
    go_wp2_with fail
    refine hK.out _ _ (by exact cell_grown hHeld HG3.out hXR) (fun hNew => ?_)
    clear hK K
    clear hHeld; have hHeld := hNew; clear hNew
    try simp only [Act.put, List.setIfInBounds_toArray, List.set_cons_zero, List.set_cons_succ]
    refine wpAnyH_take (i := 15) (oi := ⟨some 43, _, _, _, _, _⟩) (v := ?_) rfl (by kernel_rfl) (by kernel_rfl) (by kernel_rfl) (fun _ _ _ h => h) (Or.inl ⟨by rfl, ?_⟩) (by assumption) ?_
    rotate_left
    focus (intro w hSw; (try dsimp only at hSw); go_simp; first | done | with_reducible rfl)
    try simp only [Act.put, List.setIfInBounds_toArray, List.set_cons_zero, List.set_cons_succ]
    refine wpAnyH_take (i := 16) (oi := ⟨some 44, _, _, _, _, _⟩) (v := ?_) rfl (by kernel_rfl) (by kernel_rfl) (by kernel_rfl) (fun _ _ _ h => h) (Or.inl ⟨by rfl, ?_⟩) (by assumption) ?_
    rotate_left
    focus (intro w hSw; (try dsimp only at hSw); go_simp; first | done | with_reducible rfl)
    try simp only [Act.put, List.setIfInBounds_toArray, List.set_cons_zero, List.set_cons_succ]
    refine wpAnyH_ready (rs := [17]) (by kernel_rfl) (by simp) ?_
    refine AllReadyH.cons (o := ⟨none, _, _, _, _, _⟩) rfl (fun K hK => ?_) AllReadyH.nil
    have hCM := ans_cells HJ3.out.cm
    have hCF := ans_free HJ3.out.cm
    obtain ⟨c0, c1, c2, c3, c4, c5, c6, c7, c8, c9, c10, c11, c12⟩ := hCM
    obtain ⟨f0, f1, f2, f3, f4, f5, f6, f7, f8, f9, f10, f11, f12⟩ := hCF
    go_simp
    refine hK.out _ _ (by exact cell_set_other (cell_set_other (cell_set_other (hHeld) hXC) hXC) hXC) (fun hNew => ?_)
    clear hK K
    clear hHeld; have hHeld := hNew; clear hNew
    try simp only [Act.put, List.setIfInBounds_toArray, List.set_cons_zero, List.set_cons_succ]
    refine wpAnyH_done (by kernel_rfl) ?_ _
    clear c0 f0 c1 f1 c2 f2 c3 f3 c4 f4 c5 f5 c6 f6 c7 f7 c8 f8 c9 f9 c10 f10 c11 f11 c12 f12
    have HI2 := Lib.hid ((((HJ3.out).set HD.out 3 _ ⟨Cx.zag (Cx.spU (some l)).1, Cx.zag (Cx.spU (Cm.ra l).s1).1, Cx.zag (Cx.spU (Cm.ra l).s2).1, Cx.zag (Cx.spU (Cm.ra l).s3).1, ⟨#[]⟩, ⟨#[]⟩, [], ⟨#[]⟩, false, 0, 0, 0, 0⟩ rfl rfl).set HD.out 4 _ ⟨Cx.zag (Cx.spU (some l)).1, Cx.zag (Cx.spU (Cm.ra l).s1).1, Cx.zag (Cx.spU (Cm.ra l).s2).1, Cx.zag (Cx.spU (Cm.ra l).s3).1, str (Cx.spT (Cm.ra l).s4).1, ⟨#[]⟩, [], ⟨#[]⟩, false, 0, 0, 0, 0⟩ rfl rfl).set HD.out 5 _ (⟨Cx.zag (Cx.spU (some l)).1, Cx.zag (Cx.spU (Cm.ra l).s1).1, Cx.zag (Cx.spU (Cm.ra l).s2).1, Cx.zag (Cx.spU (Cm.ra l).s3).1, str (Cx.spT (Cm.ra l).s4).1, str (Cx.spT (Cm.ra l).s5).1, [], ⟨#[]⟩, false, 0, 0, 0, 0⟩ : Cm.An) rfl rfl)
    clear hHeld HJ0 HJ1 HG1 HJ2 HG2 HJ3 HG3
    have HI := HI2
    clear HI2
    have px := HI.out.px0
    go_wp2_with (go_at_call 36; ((with_reducible refine (rU_any R (Cm.ra l).s6 _ (by exact HI.out.rd)).mono ?_); rintro e w7 ⟨rfl, h7, hg7⟩; have HI7 : RowKit.Hid (IvA w w7 X R C (Cm.ra l).s7 _ _) := Lib.hid (HI.out.call HD.out hg7 h7); clear h7 hg7))
    clear px HI
    have hn64 := spU_lt (Cm.ra l).s6
    have HL7 := Lib.hid HL.out.2.2
    have hstw0 : stw (Cm.ra l).s7 ≤ l.length + 1 := ra_stw l
    obtain ⟨i0, hi, hz0, hz1, hz2⟩ := info_parts info25
    have HN0 : RowKit.Hid (∃ N, (Cx.spU (Cm.ra l).s6).1 = N) := Lib.hid ⟨_, rfl⟩
    generalize hNN : (Cx.spU (Cm.ra l).s6).1 = N0 at *
    have HNN := Lib.hid hNN
    clear hNN HN0
    go_loopw [6] (fun n wr => ∃ (m : Nat) (done : List Cm.Pn) (st : Cm.St) (v : Value), n = .int .u64 (m : Nat) ∧ m < 18446744073709551616 ∧ Cm.rdPs N0 (Cm.ra l).s7 = (done ++ (Cm.rdPs m st).1, (Cm.rdPs m st).2) ∧ IvA w wr X R C st (⟨Cx.zag (Cx.spU (some l)).1, Cx.zag (Cx.spU (Cm.ra l).s1).1, Cx.zag (Cx.spU (Cm.ra l).s2).1, Cx.zag (Cx.spU (Cm.ra l).s3).1, str (Cx.spT (Cm.ra l).s4).1, str (Cx.spT (Cm.ra l).s5).1, done, ⟨#[]⟩, false, 0, 0, 0, 0⟩ : Cm.An) v ∧ done.length + stw st ≤ l.length + 1 ∧ (∀ r, st = some r → r.length ≤ 1000000)) (fun n _ => (intOf n).toNat)
    case atStart => exact ⟨N0, [], (Cm.ra l).s7, .slice none 0 0, rfl, hn64, rfl, HI7.out, by simpa using hstw0, HL7.out⟩
    case round =>
      obtain ⟨m, done, st, v, rfl, hm, hrd, hI, hbd, hlen⟩ := hrel
      have HI := Lib.hid hI
      have HRDP := Lib.hid hrd
      have HLEN := Lib.hid hlen
      have px := hI.px0
      have hExit : (m = 0 ∨ st = none) → (Cm.rdPs m st) = ([], st) := by
        rintro (rfl | rfl)
        · rfl
        · cases m <;> rfl
      have HEX := Lib.hid hExit
      clear hI hrd hlen hExit
      by_cases hm0 : m = 0
      · subst hm0
        have HE := Lib.hid (HEX.out (.inl rfl))
        clear HEX
        have d0 : decide (0 < ((0 : Nat) : Int)) = false := by simp
        go_upto_region 9 with (go_at_call 38; ((with_reducible refine (rT_any R st HLEN.out _ (by exact HI.out.rd)).mono ?_); rintro e w8 ⟨rfl, h8, hg8⟩; have HI8 := Lib.hid (HI.out.call HD.out hg8 h8); clear h8 hg8; have c7 := (ans_cells HI8.out.cm).2.2.2.2.2.2.2.1; have f7 := hb_free HI8.out.cm 7))
        clear px c7 f7
        have HPS := Lib.hid (exit_eq HRDP.out HE.out)
        clear HRDP HE
        have HI9 := Lib.hid (HI8.out.set HD.out 7 (.string (str (Cx.spT st).1)) (⟨Cx.zag (Cx.spU (some l)).1, Cx.zag (Cx.spU (Cm.ra l).s1).1, Cx.zag (Cx.spU (Cm.ra l).s2).1, Cx.zag (Cx.spU (Cm.ra l).s3).1, str (Cx.spT (Cm.ra l).s4).1, str (Cx.spT (Cm.ra l).s5).1, done, str (Cx.spT st).1, false, 0, 0, 0, 0⟩ : Cm.An) rfl rfl)
        have HE8 : RowKit.Hid (st = (Cm.ra l).s8) := Lib.hid (by have e := HPS.out.2; rw [← HNN.out] at e; exact e)
        have hU9 := rU_any R (Cx.spT st).2
        rw [show Cx.spU (Cx.spT st).2 = Cx.spU (Cm.ra l).s9 from congrArg (fun s => Cx.spU (Cx.spT s).2) HE8.out] at hU9
        have HU9 := Lib.hid hU9
        clear hU9
        clear HI8 HI
        have px := HI9.out.px0
        go_upto_region 10 with (go_at_call 36; ((with_reducible refine (HU9.out _ (by exact HI9.out.rd)).mono ?_); rintro e w9 ⟨rfl, h9, hg9⟩; have HIA : RowKit.Hid (IvA w w9 X R C (Cm.ra l).s10 _ _) := Lib.hid (HI9.out.call HD.out hg9 h9); clear h9 hg9))
        clear px
        have hy64 := spU_lt (Cm.ra l).s9
        obtain ⟨y1, b2, ey1, eyn, eb2, ey2, hy1⟩ := y_cases (Cx.spU (Cm.ra l).s9).1
        have HY1 := Lib.hid hy1
        have HEY := Lib.hid ey1
        have HEB := Lib.hid ey2
        generalize hYY : (Cx.spU (Cm.ra l).s9).1 = Y at *
        have HYY := Lib.hid hYY
        clear hYY hy1 ey1 ey2
        have c8 := (ans_cells HIA.out.cm).2.2.2.2.2.2.2.2.1
        have f8 := hb_free HIA.out.cm 8
        go_upto_region 11 with fail
        clear c8 f8
        have HI := Lib.hid (HIA.out.set HD.out 8 (.bool y1) (⟨Cx.zag (Cx.spU (some l)).1, Cx.zag (Cx.spU (Cm.ra l).s1).1, Cx.zag (Cx.spU (Cm.ra l).s2).1, Cx.zag (Cx.spU (Cm.ra l).s3).1, str (Cx.spT (Cm.ra l).s4).1, str (Cx.spT (Cm.ra l).s5).1, done, str (Cx.spT st).1, y1, 0, 0, 0, 0⟩ : Cm.An) rfl rfl)
        clear HIA HI9 HU9
        have HJ0 := Lib.hid HI.out.drew
        refine wp_region_held_drew (S := (fun w' => w'.cell? ⟨X, 0, none⟩ = some (.pointer (some ⟨R, 0, none⟩)))) (by kernel_rfl) (by exact HI.out.px0) (fun hHeld => ?_)
        refine wpAnyH_take (i := 0) (oi := ⟨some 83, _, _, _, _, _⟩) (v := ?_) rfl (by kernel_rfl) (by kernel_rfl) (by kernel_rfl) (fun _ _ _ h => h) (Or.inl ⟨by rfl, ?_⟩) (by assumption) ?_
        rotate_left
        focus (intro w hSw; (try dsimp only at hSw); go_simp; first | done | with_reducible rfl)
        try simp only [Act.put, List.setIfInBounds_toArray, List.set_cons_zero, List.set_cons_succ]
        refine wpAnyH_take (i := 1) (oi := ⟨some 84, _, _, _, _, _⟩) (v := ?_) rfl (by kernel_rfl) (by kernel_rfl) (by kernel_rfl) (fun _ _ _ h => h) (Or.inl ⟨by rfl, ?_⟩) (by assumption) ?_
        rotate_left
        focus (intro w hSw; (try dsimp only at hSw); go_simp; first | done | with_reducible rfl)
        try simp only [Act.put, List.setIfInBounds_toArray, List.set_cons_zero, List.set_cons_succ]
        refine wpAnyH_take (i := 2) (oi := ⟨some 85, _, _, _, _, _⟩) (v := ?_) rfl (by kernel_rfl) (by kernel_rfl) (by kernel_rfl) (fun _ _ _ h => h) (Or.inl ⟨by rfl, ?_⟩) (by assumption) ?_
        rotate_left
        focus (intro w hSw; (try dsimp only at hSw); go_simp; first | done | with_reducible rfl)
        try simp only [Act.put, List.setIfInBounds_toArray, List.set_cons_zero, List.set_cons_succ]
        refine wpAnyH_take (i := 3) (oi := ⟨some 86, _, _, _, _, _⟩) (v := ?_) rfl (by kernel_rfl) (by kernel_rfl) (by kernel_rfl) (fun _ _ _ h => h) (Or.inl ⟨by rfl, ?_⟩) (by assumption) ?_
        rotate_left
        focus (intro w hSw; (try dsimp only at hSw); go_simp; first | done | with_reducible rfl)
        try simp only [Act.put, List.setIfInBounds_toArray, List.set_cons_zero, List.set_cons_succ]
        refine wpAnyH_take (i := 5) (oi := ⟨some 88, _, _, _, _, _⟩) (v := ?_) rfl (by kernel_rfl) (by kernel_rfl) (by kernel_rfl) (fun _ _ _ h => h) (Or.inl ⟨by rfl, ?_⟩) (by assumption) ?_
        rotate_left
        focus (intro w hSw; (try dsimp only at hSw); go_simp; first | done | with_reducible rfl)
        try simp only [Act.put, List.setIfInBounds_toArray, List.set_cons_zero, List.set_cons_succ]
        refine wpAnyH_take (i := 6) (oi := ⟨some 89, _, _, _, _, _⟩) (v := ?_) rfl (by kernel_rfl) (by kernel_rfl) (by kernel_rfl) (fun _ _ _ h => h) (Or.inl ⟨by rfl, ?_⟩) (by assumption) ?_
        rotate_left
        focus (intro w hSw; (try dsimp only at hSw); go_simp; first | done | with_reducible rfl)
        try simp only [Act.put, List.setIfInBounds_toArray, List.set_cons_zero, List.set_cons_succ]
        refine wpAnyH_take (i := 7) (oi := ⟨some 90, _, _, _, _, _⟩) (v := ?_) rfl (by kernel_rfl) (by kernel_rfl) (by kernel_rfl) (fun _ _ _ h => h) (Or.inl ⟨by rfl, ?_⟩) (by assumption) ?_
        rotate_left
        focus (intro w hSw; (try dsimp only at hSw); go_simp; first | done | with_reducible rfl)
        try simp only [Act.put, List.setIfInBounds_toArray, List.set_cons_zero, List.set_cons_succ]
        refine wpAnyH_take (i := 8) (oi := ⟨some 91, _, _, _, _, _⟩) (v := ?_) rfl (by kernel_rfl) (by kernel_rfl) (by kernel_rfl) (fun _ _ _ h => h) (Or.inl ⟨by rfl, ?_⟩) (by assumption) ?_
        rotate_left
        focus (intro w hSw; (try dsimp only at hSw); go_simp; first | done | with_reducible rfl)
        try simp only [Act.put, List.setIfInBounds_toArray, List.set_cons_zero, List.set_cons_succ]
        refine wpAnyH_take (i := 10) (oi := ⟨some 93, _, _, _, _, _⟩) (v := ?_) rfl (by kernel_rfl) (by kernel_rfl) (by kernel_rfl) (fun _ _ _ h => h) (Or.inl ⟨by rfl, ?_⟩) (by assumption) ?_
        rotate_left
        focus (intro w hSw; (try dsimp only at hSw); go_simp; first | done | with_reducible rfl)
        try simp only [Act.put, List.setIfInBounds_toArray, List.set_cons_zero, List.set_cons_succ]
        refine wpAnyH_take (i := 11) (oi := ⟨some 94, _, _, _, _, _⟩) (v := ?_) rfl (by kernel_rfl) (by kernel_rfl) (by kernel_rfl) (fun _ _ _ h => h) (Or.inl ⟨by rfl, ?_⟩) (by assumption) ?_
        rotate_left
        focus (intro w hSw; (try dsimp only at hSw); go_simp; first | done | with_reducible rfl)
        try simp only [Act.put, List.setIfInBounds_toArray, List.set_cons_zero, List.set_cons_succ]
        refine wpAnyH_take (i := 12) (oi := ⟨some 95, _, _, _, _, _⟩) (v := ?_) rfl (by kernel_rfl) (by kernel_rfl) (by kernel_rfl) (fun _ _ _ h => h) (Or.inl ⟨by rfl, ?_⟩) (by assumption) ?_
        rotate_left
        focus (intro w hSw; (try dsimp only at hSw); go_simp; first | done | with_reducible rfl)
        try simp only [Act.put, List.setIfInBounds_toArray, List.set_cons_zero, List.set_cons_succ]
        refine wpAnyH_take (i := 13) (oi := ⟨some 96, _, _, _, _, _⟩) (v := ?_) rfl (by kernel_rfl) (by kernel_rfl) (by kernel_rfl) (fun _ _ _ h => h) (Or.inl ⟨by rfl, ?_⟩) (by assumption) ?_
        rotate_left
        focus (intro w hSw; (try dsimp only at hSw); go_simp; first | done | with_reducible rfl)
        try simp only [Act.put, List.setIfInBounds_toArray, List.set_cons_zero, List.set_cons_succ]
        refine wpAnyH_take (i := 15) (oi := ⟨some 98, _, _, _, _, _⟩) (v := ?_) rfl (by kernel_rfl) (by kernel_rfl) (by kernel_rfl) (fun _ _ _ h => h) (Or.inl ⟨by rfl, ?_⟩) (by assumption) ?_
        rotate_left
        focus (intro w hSw; (try dsimp only at hSw); go_simp; first | done | with_reducible rfl)
        try simp only [Act.put, List.setIfInBounds_toArray, List.set_cons_zero, List.set_cons_succ]
        refine wpAnyH_take (i := 16) (oi := ⟨some 99, _, _, _, _, _⟩) (v := ?_) rfl (by kernel_rfl) (by kernel_rfl) (by kernel_rfl) (fun _ _ _ h => h) (Or.inl ⟨by rfl, ?_⟩) (by assumption) ?_
        rotate_left
        focus (intro w hSw; (try dsimp only at hSw); go_simp; first | done | with_reducible rfl)
        try simp only [Act.put, List.setIfInBounds_toArray, List.set_cons_zero, List.set_cons_succ]
        refine wpAnyH_take (i := 17) (oi := ⟨some 100, _, _, _, _, _⟩) (v := ?_) rfl (by kernel_rfl) (by kernel_rfl) (by kernel_rfl) (fun _ _ _ h => h) (Or.inl ⟨by rfl, ?_⟩) (by assumption) ?_
        rotate_left
        focus (intro w hSw; (try dsimp only at hSw); go_simp; first | done | with_reducible rfl)
        try simp only [Act.put, List.setIfInBounds_toArray, List.set_cons_zero, List.set_cons_succ]
        refine wpAnyH_take (i := 18) (oi := ⟨some 101, _, _, _, _, _⟩) (v := ?_) rfl (by kernel_rfl) (by kernel_rfl) (by kernel_rfl) (fun _ _ _ h => h) (Or.inl ⟨by rfl, ?_⟩) (by assumption) ?_
        rotate_left
        focus (intro w hSw; (try dsimp only at hSw); go_simp; first | done | with_reducible rfl)
        try simp only [Act.put, List.setIfInBounds_toArray, List.set_cons_zero, List.set_cons_succ]
        refine wpAnyH_ready (rs := [4]) (by kernel_rfl) (by simp) ?_
        refine AllReadyH.cons (o := ⟨some 87, _, _, _, _, _⟩) rfl (fun K hK => ?_) AllReadyH.nil
        go_simp
        ((with_reducible refine (rI_any R ((Cm.ra l).s10) _ (by exact HJ0.out.rd)).mono ?_); rintro e v1 ⟨rfl, h1, hg1⟩; have HJ1 : RowKit.Hid (IvA w v1 X R C (Cm.ra l).s11 _ _) := Lib.hid (HJ0.out.call HD.out hg1 h1); have HG1 := Lib.hid hg1; clear h1 hg1)
        go_wp2_with fail
        refine hK.out _ _ (by exact cell_grown hHeld HG1.out hXR) (fun hNew => ?_)
        clear hK K
        clear hHeld; have hHeld := hNew; clear hNew
        try simp only [Act.put, List.setIfInBounds_toArray, List.set_cons_zero, List.set_cons_succ]
        refine wpAnyH_ready (rs := [9]) (by kernel_rfl) (by simp) ?_
        refine AllReadyH.cons (o := ⟨some 92, _, _, _, _, _⟩) rfl (fun K hK => ?_) AllReadyH.nil
        go_simp
        ((with_reducible refine (rI_any R ((Cm.ra l).s11) _ (by exact HJ1.out.rd)).mono ?_); rintro e v2 ⟨rfl, h2, hg2⟩; have HJ2 : RowKit.Hid (IvA w v2 X R C (Cm.ra l).s12 _ _) := Lib.hid (HJ1.out.call HD.out hg2 h2); have HG2 := Lib.hid hg2; clear h2 hg2)
        go_wp2_with fail
        refine hK.out _ _ (by exact cell_grown hHeld HG2.out hXR) (fun hNew => ?_)
        clear hK K
        clear hHeld; have hHeld := hNew; clear hNew
        try simp only [Act.put, List.setIfInBounds_toArray, List.set_cons_zero, List.set_cons_succ]
        refine wpAnyH_ready (rs := [14]) (by kernel_rfl) (by simp) ?_
        refine AllReadyH.cons (o := ⟨some 97, _, _, _, _, _⟩) rfl (fun K hK => ?_) AllReadyH.nil
        go_simp
        ((with_reducible refine (rI_any R ((Cm.ra l).s12) _ (by exact HJ2.out.rd)).mono ?_); rintro e v3 ⟨rfl, h3, hg3⟩; have HJ3 : RowKit.Hid (IvA w v3 X R C (Cm.ra l).s13 _ _) := Lib.hid (HJ2.out.call HD.out hg3 h3); have HG3 := Lib.hid hg3; clear h3 hg3)
        go_wp2_with fail
        refine hK.out _ _ (by exact cell_grown hHeld HG3.out hXR) (fun hNew => ?_)
        clear hK K
        clear hHeld; have hHeld := hNew; clear hNew
        try simp only [Act.put, List.setIfInBounds_toArray, List.set_cons_zero, List.set_cons_succ]
        refine wpAnyH_ready (rs := [19]) (by kernel_rfl) (by simp) ?_
        refine AllReadyH.cons (o := ⟨some 102, _, _, _, _, _⟩) rfl (fun K hK => ?_) AllReadyH.nil
        go_simp
        ((with_reducible refine (rI_any R ((Cm.ra l).s13) _ (by exact HJ3.out.rd)).mono ?_); rintro e v4 ⟨rfl, h4, hg4⟩; have HJ4 : RowKit.Hid (IvA w v4 X R C (Cm.ra l).s14 _ _) := Lib.hid (HJ3.out.call HD.out hg4 h4); have HG4 := Lib.hid hg4; clear h4 hg4)
        go_wp2_with fail
        refine hK.out _ _ (by exact cell_grown hHeld HG4.out hXR) (fun hNew => ?_)
        clear hK K
        clear hHeld; have hHeld := hNew; clear hNew
        try simp only [Act.put, List.setIfInBounds_toArray, List.set_cons_zero, List.set_cons_succ]
        refine wpAnyH_take (i := 20) (oi := ⟨some 103, _, _, _, _, _⟩) (v := ?_) rfl (by kernel_rfl) (by kernel_rfl) (by kernel_rfl) (fun _ _ _ h => h) (Or.inl ⟨by rfl, ?_⟩) (by assumption) ?_
        rotate_left
        focus (intro w hSw; (try dsimp only at hSw); go_simp; first | done | with_reducible rfl)
        try simp only [Act.put, List.setIfInBounds_toArray, List.set_cons_zero, List.set_cons_succ]
        refine wpAnyH_take (i := 21) (oi := ⟨some 104, _, _, _, _, _⟩) (v := ?_) rfl (by kernel_rfl) (by kernel_rfl) (by kernel_rfl) (fun _ _ _ h => h) (Or.inl ⟨by rfl, ?_⟩) (by assumption) ?_
        rotate_left
        focus (intro w hSw; (try dsimp only at hSw); go_simp; first | done | with_reducible rfl)
        try simp only [Act.put, List.setIfInBounds_toArray, List.set_cons_zero, List.set_cons_succ]
        refine wpAnyH_ready (rs := [22]) (by kernel_rfl) (by simp) ?_
        refine AllReadyH.cons (o := ⟨none, _, _, _, _, _⟩) rfl (fun K hK => ?_) AllReadyH.nil
        have hCM := ans_cells HJ4.out.cm
        have hCF := ans_free HJ4.out.cm
        obtain ⟨c0, c1, c2, c3, c4, c5, c6, c7, c8, c9, c10, c11, c12⟩ := hCM
        obtain ⟨f0, f1, f2, f3, f4, f5, f6, f7, f8, f9, f10, f11, f12⟩ := hCF
        go_simp
        refine hK.out _ _ (by exact cell_set_other (cell_set_other (cell_set_other (cell_set_other (hHeld) hXC) hXC) hXC) hXC) (fun hNew => ?_)
        clear hK K
        clear hHeld; have hHeld := hNew; clear hNew
        try simp only [Act.put, List.setIfInBounds_toArray, List.set_cons_zero, List.set_cons_succ]
        refine wpAnyH_done (by kernel_rfl) ?_ _
        clear c0 f0 c1 f1 c2 f2 c3 f3 c4 f4 c5 f5 c6 f6 c7 f7 c8 f8 c9 f9 c10 f10 c11 f11 c12 f12
        have HI2 := Lib.hid ((((((HJ4.out).set HD.out 9 _ (⟨Cx.zag (Cx.spU (some l)).1, Cx.zag (Cx.spU (Cm.ra l).s1).1, Cx.zag (Cx.spU (Cm.ra l).s2).1, Cx.zag (Cx.spU (Cm.ra l).s3).1, str (Cx.spT (Cm.ra l).s4).1, str (Cx.spT (Cm.ra l).s5).1, done, str (Cx.spT st).1, y1, Cx.zag (Cx.spU (Cm.ra l).s10).1, 0, 0, 0⟩ : Cm.An) rfl rfl).set HD.out 10 _ (⟨Cx.zag (Cx.spU (some l)).1, Cx.zag (Cx.spU (Cm.ra l).s1).1, Cx.zag (Cx.spU (Cm.ra l).s2).1, Cx.zag (Cx.spU (Cm.ra l).s3).1, str (Cx.spT (Cm.ra l).s4).1, str (Cx.spT (Cm.ra l).s5).1, done, str (Cx.spT st).1, y1, Cx.zag (Cx.spU (Cm.ra l).s10).1, Cx.zag (Cx.spU (Cm.ra l).s11).1, 0, 0⟩ : Cm.An) rfl rfl).set HD.out 11 _ (⟨Cx.zag (Cx.spU (some l)).1, Cx.zag (Cx.spU (Cm.ra l).s1).1, Cx.zag (Cx.spU (Cm.ra l).s2).1, Cx.zag (Cx.spU (Cm.ra l).s3).1, str (Cx.spT (Cm.ra l).s4).1, str (Cx.spT (Cm.ra l).s5).1, done, str (Cx.spT st).1, y1, Cx.zag (Cx.spU (Cm.ra l).s10).1, Cx.zag (Cx.spU (Cm.ra l).s11).1, Cx.zag (Cx.spU (Cm.ra l).s12).1, 0⟩ : Cm.An) rfl rfl).set HD.out 12 _ (⟨Cx.zag (Cx.spU (some l)).1, Cx.zag (Cx.spU (Cm.ra l).s1).1, Cx.zag (Cx.spU (Cm.ra l).s2).1, Cx.zag (Cx.spU (Cm.ra l).s3).1, str (Cx.spT (Cm.ra l).s4).1, str (Cx.spT (Cm.ra l).s5).1, done, str (Cx.spT st).1, y1, Cx.zag (Cx.spU (Cm.ra l).s10).1, Cx.zag (Cx.spU (Cm.ra l).s11).1, Cx.zag (Cx.spU (Cm.ra l).s12).1, Cx.zag (Cx.spU (Cm.ra l).s13).1⟩ : Cm.An) rfl rfl))
        clear hHeld HJ0 HJ1 HG1 HJ2 HG2 HJ3 HG3 HJ4 HG4
        have HI := HI2
        clear HI2
        have px := HI.out.px0
        have hEQ : (⟨Cx.zag (Cx.spU (some l)).1, Cx.zag (Cx.spU (Cm.ra l).s1).1, Cx.zag (Cx.spU (Cm.ra l).s2).1, Cx.zag (Cx.spU (Cm.ra l).s3).1, str (Cx.spT (Cm.ra l).s4).1, str (Cx.spT (Cm.ra l).s5).1, done, str (Cx.spT st).1, y1, Cx.zag (Cx.spU (Cm.ra l).s10).1, Cx.zag (Cx.spU (Cm.ra l).s11).1, Cx.zag (Cx.spU (Cm.ra l).s12).1, Cx.zag (Cx.spU (Cm.ra l).s13).1⟩ : Cm.An) = Cm.rawA l := by
          have hy : ((Cx.spU (Cm.ra l).s9).1 == 1) = y1 := by rw [HYY.out]; exact HEY.out
          rw [← hy, HPS.out.1, ← HNN.out, HE8.out]
          rfl
        have HEQ := Lib.hid hEQ
        clear hEQ
        obtain ⟨z0, z1, z2, z3, z4, z5, z6, z7, z8, z9, z10, z11, z12⟩ := zeroA_cells HI.out.rs
        obtain ⟨f0, f1, f2, f3, f4, f5, f6, f7, f8, f9, f10, f11, f12⟩ := ans_free HI.out.rs
        obtain ⟨k0, k1, k2, k3, k4, k5, k6, k7, k8, k9, k10, k11, k12⟩ := ans_cells HI.out.cm
        rcases hd : stDone (Cm.ra l).s14 with _ | _
        · have HDN := Lib.hid hd
          clear hd
          have HDEC : RowKit.Hid (Cm.decA l = (Cm.noAn, 8)) := Lib.hid (Cm.decA_bad (fun q => by rw [HDN.out] at q; cases q.1))
          go_wp2_with (go_at_call 39; ((with_reducible refine (done_any R (Cm.ra l).s14 _ (by exact HI.out.rd)).mono ?_); rintro e w' ⟨rfl, rfl⟩; rw [HDN.out]))
          exact bodyPost_ret (v := .tuple #[ansv Cm.noAn (.slice none 0 0), .int .i64 8]) (by simp [results, Try.results18, go_sem, z0, z1, z2, z3, z4, z5, z6, z7, z8, z9, z10, z11, z12]) rfl ⟨.slice none 0 0, by rw [HDEC.out], by rw [HDEC.out]; exact World.ownsRow_nil _ _ _ _, below_sets13 HI.out.bl⟩
        · have HDN := Lib.hid hd
          clear hd
          cases b2 with
          | true =>
            have HDEC : RowKit.Hid (Cm.decA l = (Cm.noAn, 8)) := Lib.hid (Cm.decA_bad (fun q => by have := q.2; rw [HYY.out] at this; exact absurd this (HEB.out.1 rfl)))
            go_wp2_with (go_at_call 39; ((with_reducible refine (done_any R (Cm.ra l).s14 _ (by exact HI.out.rd)).mono ?_); rintro e w' ⟨rfl, rfl⟩; rw [HDN.out]))
            exact bodyPost_ret (v := .tuple #[ansv Cm.noAn (.slice none 0 0), .int .i64 8]) (by simp [results, Try.results18, go_sem, z0, z1, z2, z3, z4, z5, z6, z7, z8, z9, z10, z11, z12]) rfl ⟨.slice none 0 0, by rw [HDEC.out], by rw [HDEC.out]; exact World.ownsRow_nil _ _ _ _, below_sets13 HI.out.bl⟩
          | false =>
            have HDEC : RowKit.Hid (Cm.decA l = (Cm.rawA l, 0)) := Lib.hid (Cm.decA_good HDN.out (by rw [HYY.out]; exact HEB.out.2 rfl))
            obtain ⟨vq, vl, vc, rfl⟩ := own_sl HI.out.ow
            go_wp2_with (go_at_call 39; ((with_reducible refine (done_any R (Cm.ra l).s14 _ (by exact HI.out.rd)).mono ?_); rintro e w' ⟨rfl, rfl⟩; rw [HDN.out]))
            exact bodyPost_ret (v := .tuple #[ansv (⟨Cx.zag (Cx.spU (some l)).1, Cx.zag (Cx.spU (Cm.ra l).s1).1, Cx.zag (Cx.spU (Cm.ra l).s2).1, Cx.zag (Cx.spU (Cm.ra l).s3).1, str (Cx.spT (Cm.ra l).s4).1, str (Cx.spT (Cm.ra l).s5).1, done, str (Cx.spT st).1, y1, Cx.zag (Cx.spU (Cm.ra l).s10).1, Cx.zag (Cx.spU (Cm.ra l).s11).1, Cx.zag (Cx.spU (Cm.ra l).s12).1, Cx.zag (Cx.spU (Cm.ra l).s13).1⟩ : Cm.An) (.slice vq vl vc), .int .i64 0]) (by simp [results, Try.results18, go_sem, z0, z1, z2, z3, z4, z5, z6, z7, z8, z9, z10, z11, z12]) rfl ⟨.slice vq vl vc, by rw [HDEC.out, ← HEQ.out], by rw [HDEC.out, ← HEQ.out]; exact own_sets13 (own_base HI.out.ow (by have := HD.out.r; have := HD.out.x; have := HD.out.c; omega)) (by have := HI.out.ow; exact own_far HI.out.ow (by have := HD.out.r; have := HD.out.x; have := HD.out.c; omega)), below_sets13 HI.out.bl⟩
      · have d0 : decide (0 < (m : Int)) = true := by simp; omega
        cases st with
        | none =>
          have HE := Lib.hid (HEX.out (.inr rfl))
          clear HEX
          have hm1 : 0 < m := by omega
          go_upto_region 8 with (go_at_call 46; ((with_reducible refine (bad_any R none _ (by exact HI.out.rd)).mono ?_); rintro e w' ⟨rfl, rfl⟩))
          go_upto_region 9 with (go_at_call 38; ((with_reducible refine (rT_any R none HLEN.out _ (by exact HI.out.rd)).mono ?_); rintro e w8 ⟨rfl, h8, hg8⟩; have HI8 := Lib.hid (HI.out.call HD.out hg8 h8); clear h8 hg8; have c7 := (ans_cells HI8.out.cm).2.2.2.2.2.2.2.1; have f7 := hb_free HI8.out.cm 7))
          clear px c7 f7
          have HPS := Lib.hid (exit_eq HRDP.out HE.out)
          clear HRDP HE
          have HI9 := Lib.hid (HI8.out.set HD.out 7 (.string (str (Cx.spT none).1)) (⟨Cx.zag (Cx.spU (some l)).1, Cx.zag (Cx.spU (Cm.ra l).s1).1, Cx.zag (Cx.spU (Cm.ra l).s2).1, Cx.zag (Cx.spU (Cm.ra l).s3).1, str (Cx.spT (Cm.ra l).s4).1, str (Cx.spT (Cm.ra l).s5).1, done, str (Cx.spT none).1, false, 0, 0, 0, 0⟩ : Cm.An) rfl rfl)
          have HE8 : RowKit.Hid (none = (Cm.ra l).s8) := Lib.hid (by have e := HPS.out.2; rw [← HNN.out] at e; exact e)
          have hU9 := rU_any R (Cx.spT none).2
          rw [show Cx.spU (Cx.spT none).2 = Cx.spU (Cm.ra l).s9 from congrArg (fun s => Cx.spU (Cx.spT s).2) HE8.out] at hU9
          have HU9 := Lib.hid hU9
          clear hU9
          clear HI8 HI
          have px := HI9.out.px0
          go_upto_region 10 with (go_at_call 36; ((with_reducible refine (HU9.out _ (by exact HI9.out.rd)).mono ?_); rintro e w9 ⟨rfl, h9, hg9⟩; have HIA : RowKit.Hid (IvA w w9 X R C (Cm.ra l).s10 _ _) := Lib.hid (HI9.out.call HD.out hg9 h9); clear h9 hg9))
          clear px
          have hy64 := spU_lt (Cm.ra l).s9
          obtain ⟨y1, b2, ey1, eyn, eb2, ey2, hy1⟩ := y_cases (Cx.spU (Cm.ra l).s9).1
          have HY1 := Lib.hid hy1
          have HEY := Lib.hid ey1
          have HEB := Lib.hid ey2
          generalize hYY : (Cx.spU (Cm.ra l).s9).1 = Y at *
          have HYY := Lib.hid hYY
          clear hYY hy1 ey1 ey2
          have c8 := (ans_cells HIA.out.cm).2.2.2.2.2.2.2.2.1
          have f8 := hb_free HIA.out.cm 8
          go_upto_region 11 with fail
          clear c8 f8
          have HI := Lib.hid (HIA.out.set HD.out 8 (.bool y1) (⟨Cx.zag (Cx.spU (some l)).1, Cx.zag (Cx.spU (Cm.ra l).s1).1, Cx.zag (Cx.spU (Cm.ra l).s2).1, Cx.zag (Cx.spU (Cm.ra l).s3).1, str (Cx.spT (Cm.ra l).s4).1, str (Cx.spT (Cm.ra l).s5).1, done, str (Cx.spT none).1, y1, 0, 0, 0, 0⟩ : Cm.An) rfl rfl)
          clear HIA HI9 HU9
          have HJ0 := Lib.hid HI.out.drew
          refine wp_region_held_drew (S := (fun w' => w'.cell? ⟨X, 0, none⟩ = some (.pointer (some ⟨R, 0, none⟩)))) (by kernel_rfl) (by exact HI.out.px0) (fun hHeld => ?_)
          refine wpAnyH_take (i := 0) (oi := ⟨some 83, _, _, _, _, _⟩) (v := ?_) rfl (by kernel_rfl) (by kernel_rfl) (by kernel_rfl) (fun _ _ _ h => h) (Or.inl ⟨by rfl, ?_⟩) (by assumption) ?_
          rotate_left
          focus (intro w hSw; (try dsimp only at hSw); go_simp; first | done | with_reducible rfl)
          try simp only [Act.put, List.setIfInBounds_toArray, List.set_cons_zero, List.set_cons_succ]
          refine wpAnyH_take (i := 1) (oi := ⟨some 84, _, _, _, _, _⟩) (v := ?_) rfl (by kernel_rfl) (by kernel_rfl) (by kernel_rfl) (fun _ _ _ h => h) (Or.inl ⟨by rfl, ?_⟩) (by assumption) ?_
          rotate_left
          focus (intro w hSw; (try dsimp only at hSw); go_simp; first | done | with_reducible rfl)
          try simp only [Act.put, List.setIfInBounds_toArray, List.set_cons_zero, List.set_cons_succ]
          refine wpAnyH_take (i := 2) (oi := ⟨some 85, _, _, _, _, _⟩) (v := ?_) rfl (by kernel_rfl) (by kernel_rfl) (by kernel_rfl) (fun _ _ _ h => h) (Or.inl ⟨by rfl, ?_⟩) (by assumption) ?_
          rotate_left
          focus (intro w hSw; (try dsimp only at hSw); go_simp; first | done | with_reducible rfl)
          try simp only [Act.put, List.setIfInBounds_toArray, List.set_cons_zero, List.set_cons_succ]
          refine wpAnyH_take (i := 3) (oi := ⟨some 86, _, _, _, _, _⟩) (v := ?_) rfl (by kernel_rfl) (by kernel_rfl) (by kernel_rfl) (fun _ _ _ h => h) (Or.inl ⟨by rfl, ?_⟩) (by assumption) ?_
          rotate_left
          focus (intro w hSw; (try dsimp only at hSw); go_simp; first | done | with_reducible rfl)
          try simp only [Act.put, List.setIfInBounds_toArray, List.set_cons_zero, List.set_cons_succ]
          refine wpAnyH_take (i := 5) (oi := ⟨some 88, _, _, _, _, _⟩) (v := ?_) rfl (by kernel_rfl) (by kernel_rfl) (by kernel_rfl) (fun _ _ _ h => h) (Or.inl ⟨by rfl, ?_⟩) (by assumption) ?_
          rotate_left
          focus (intro w hSw; (try dsimp only at hSw); go_simp; first | done | with_reducible rfl)
          try simp only [Act.put, List.setIfInBounds_toArray, List.set_cons_zero, List.set_cons_succ]
          refine wpAnyH_take (i := 6) (oi := ⟨some 89, _, _, _, _, _⟩) (v := ?_) rfl (by kernel_rfl) (by kernel_rfl) (by kernel_rfl) (fun _ _ _ h => h) (Or.inl ⟨by rfl, ?_⟩) (by assumption) ?_
          rotate_left
          focus (intro w hSw; (try dsimp only at hSw); go_simp; first | done | with_reducible rfl)
          try simp only [Act.put, List.setIfInBounds_toArray, List.set_cons_zero, List.set_cons_succ]
          refine wpAnyH_take (i := 7) (oi := ⟨some 90, _, _, _, _, _⟩) (v := ?_) rfl (by kernel_rfl) (by kernel_rfl) (by kernel_rfl) (fun _ _ _ h => h) (Or.inl ⟨by rfl, ?_⟩) (by assumption) ?_
          rotate_left
          focus (intro w hSw; (try dsimp only at hSw); go_simp; first | done | with_reducible rfl)
          try simp only [Act.put, List.setIfInBounds_toArray, List.set_cons_zero, List.set_cons_succ]
          refine wpAnyH_take (i := 8) (oi := ⟨some 91, _, _, _, _, _⟩) (v := ?_) rfl (by kernel_rfl) (by kernel_rfl) (by kernel_rfl) (fun _ _ _ h => h) (Or.inl ⟨by rfl, ?_⟩) (by assumption) ?_
          rotate_left
          focus (intro w hSw; (try dsimp only at hSw); go_simp; first | done | with_reducible rfl)
          try simp only [Act.put, List.setIfInBounds_toArray, List.set_cons_zero, List.set_cons_succ]
          refine wpAnyH_take (i := 10) (oi := ⟨some 93, _, _, _, _, _⟩) (v := ?_) rfl (by kernel_rfl) (by kernel_rfl) (by kernel_rfl) (fun _ _ _ h => h) (Or.inl ⟨by rfl, ?_⟩) (by assumption) ?_
          rotate_left
          focus (intro w hSw; (try dsimp only at hSw); go_simp; first | done | with_reducible rfl)
          try simp only [Act.put, List.setIfInBounds_toArray, List.set_cons_zero, List.set_cons_succ]
          refine wpAnyH_take (i := 11) (oi := ⟨some 94, _, _, _, _, _⟩) (v := ?_) rfl (by kernel_rfl) (by kernel_rfl) (by kernel_rfl) (fun _ _ _ h => h) (Or.inl ⟨by rfl, ?_⟩) (by assumption) ?_
          rotate_left
          focus (intro w hSw; (try dsimp only at hSw); go_simp; first | done | with_reducible rfl)
          try simp only [Act.put, List.setIfInBounds_toArray, List.set_cons_zero, List.set_cons_succ]
          refine wpAnyH_take (i := 12) (oi := ⟨some 95, _, _, _, _, _⟩) (v := ?_) rfl (by kernel_rfl) (by kernel_rfl) (by kernel_rfl) (fun _ _ _ h => h) (Or.inl ⟨by rfl, ?_⟩) (by assumption) ?_
          rotate_left
          focus (intro w hSw; (try dsimp only at hSw); go_simp; first | done | with_reducible rfl)
          try simp only [Act.put, List.setIfInBounds_toArray, List.set_cons_zero, List.set_cons_succ]
          refine wpAnyH_take (i := 13) (oi := ⟨some 96, _, _, _, _, _⟩) (v := ?_) rfl (by kernel_rfl) (by kernel_rfl) (by kernel_rfl) (fun _ _ _ h => h) (Or.inl ⟨by rfl, ?_⟩) (by assumption) ?_
          rotate_left
          focus (intro w hSw; (try dsimp only at hSw); go_simp; first | done | with_reducible rfl)
          try simp only [Act.put, List.setIfInBounds_toArray, List.set_cons_zero, List.set_cons_succ]
          refine wpAnyH_take (i := 15) (oi := ⟨some 98, _, _, _, _, _⟩) (v := ?_) rfl (by kernel_rfl) (by kernel_rfl) (by kernel_rfl) (fun _ _ _ h => h) (Or.inl ⟨by rfl, ?_⟩) (by assumption) ?_
          rotate_left
          focus (intro w hSw; (try dsimp only at hSw); go_simp; first | done | with_reducible rfl)
          try simp only [Act.put, List.setIfInBounds_toArray, List.set_cons_zero, List.set_cons_succ]
          refine wpAnyH_take (i := 16) (oi := ⟨some 99, _, _, _, _, _⟩) (v := ?_) rfl (by kernel_rfl) (by kernel_rfl) (by kernel_rfl) (fun _ _ _ h => h) (Or.inl ⟨by rfl, ?_⟩) (by assumption) ?_
          rotate_left
          focus (intro w hSw; (try dsimp only at hSw); go_simp; first | done | with_reducible rfl)
          try simp only [Act.put, List.setIfInBounds_toArray, List.set_cons_zero, List.set_cons_succ]
          refine wpAnyH_take (i := 17) (oi := ⟨some 100, _, _, _, _, _⟩) (v := ?_) rfl (by kernel_rfl) (by kernel_rfl) (by kernel_rfl) (fun _ _ _ h => h) (Or.inl ⟨by rfl, ?_⟩) (by assumption) ?_
          rotate_left
          focus (intro w hSw; (try dsimp only at hSw); go_simp; first | done | with_reducible rfl)
          try simp only [Act.put, List.setIfInBounds_toArray, List.set_cons_zero, List.set_cons_succ]
          refine wpAnyH_take (i := 18) (oi := ⟨some 101, _, _, _, _, _⟩) (v := ?_) rfl (by kernel_rfl) (by kernel_rfl) (by kernel_rfl) (fun _ _ _ h => h) (Or.inl ⟨by rfl, ?_⟩) (by assumption) ?_
          rotate_left
          focus (intro w hSw; (try dsimp only at hSw); go_simp; first | done | with_reducible rfl)
          try simp only [Act.put, List.setIfInBounds_toArray, List.set_cons_zero, List.set_cons_succ]
          refine wpAnyH_ready (rs := [4]) (by kernel_rfl) (by simp) ?_
          refine AllReadyH.cons (o := ⟨some 87, _, _, _, _, _⟩) rfl (fun K hK => ?_) AllReadyH.nil
          go_simp
          ((with_reducible refine (rI_any R ((Cm.ra l).s10) _ (by exact HJ0.out.rd)).mono ?_); rintro e v1 ⟨rfl, h1, hg1⟩; have HJ1 : RowKit.Hid (IvA w v1 X R C (Cm.ra l).s11 _ _) := Lib.hid (HJ0.out.call HD.out hg1 h1); have HG1 := Lib.hid hg1; clear h1 hg1)
          go_wp2_with fail
          refine hK.out _ _ (by exact cell_grown hHeld HG1.out hXR) (fun hNew => ?_)
          clear hK K
          clear hHeld; have hHeld := hNew; clear hNew
          try simp only [Act.put, List.setIfInBounds_toArray, List.set_cons_zero, List.set_cons_succ]
          refine wpAnyH_ready (rs := [9]) (by kernel_rfl) (by simp) ?_
          refine AllReadyH.cons (o := ⟨some 92, _, _, _, _, _⟩) rfl (fun K hK => ?_) AllReadyH.nil
          go_simp
          ((with_reducible refine (rI_any R ((Cm.ra l).s11) _ (by exact HJ1.out.rd)).mono ?_); rintro e v2 ⟨rfl, h2, hg2⟩; have HJ2 : RowKit.Hid (IvA w v2 X R C (Cm.ra l).s12 _ _) := Lib.hid (HJ1.out.call HD.out hg2 h2); have HG2 := Lib.hid hg2; clear h2 hg2)
          go_wp2_with fail
          refine hK.out _ _ (by exact cell_grown hHeld HG2.out hXR) (fun hNew => ?_)
          clear hK K
          clear hHeld; have hHeld := hNew; clear hNew
          try simp only [Act.put, List.setIfInBounds_toArray, List.set_cons_zero, List.set_cons_succ]
          refine wpAnyH_ready (rs := [14]) (by kernel_rfl) (by simp) ?_
          refine AllReadyH.cons (o := ⟨some 97, _, _, _, _, _⟩) rfl (fun K hK => ?_) AllReadyH.nil
          go_simp
          ((with_reducible refine (rI_any R ((Cm.ra l).s12) _ (by exact HJ2.out.rd)).mono ?_); rintro e v3 ⟨rfl, h3, hg3⟩; have HJ3 : RowKit.Hid (IvA w v3 X R C (Cm.ra l).s13 _ _) := Lib.hid (HJ2.out.call HD.out hg3 h3); have HG3 := Lib.hid hg3; clear h3 hg3)
          go_wp2_with fail
          refine hK.out _ _ (by exact cell_grown hHeld HG3.out hXR) (fun hNew => ?_)
          clear hK K
          clear hHeld; have hHeld := hNew; clear hNew
          try simp only [Act.put, List.setIfInBounds_toArray, List.set_cons_zero, List.set_cons_succ]
          refine wpAnyH_ready (rs := [19]) (by kernel_rfl) (by simp) ?_
          refine AllReadyH.cons (o := ⟨some 102, _, _, _, _, _⟩) rfl (fun K hK => ?_) AllReadyH.nil
          go_simp
          ((with_reducible refine (rI_any R ((Cm.ra l).s13) _ (by exact HJ3.out.rd)).mono ?_); rintro e v4 ⟨rfl, h4, hg4⟩; have HJ4 : RowKit.Hid (IvA w v4 X R C (Cm.ra l).s14 _ _) := Lib.hid (HJ3.out.call HD.out hg4 h4); have HG4 := Lib.hid hg4; clear h4 hg4)
          go_wp2_with fail
          refine hK.out _ _ (by exact cell_grown hHeld HG4.out hXR) (fun hNew => ?_)
          clear hK K
          clear hHeld; have hHeld := hNew; clear hNew
          try simp only [Act.put, List.setIfInBounds_toArray, List.set_cons_zero, List.set_cons_succ]
          refine wpAnyH_take (i := 20) (oi := ⟨some 103, _, _, _, _, _⟩) (v := ?_) rfl (by kernel_rfl) (by kernel_rfl) (by kernel_rfl) (fun _ _ _ h => h) (Or.inl ⟨by rfl, ?_⟩) (by assumption) ?_
          rotate_left
          focus (intro w hSw; (try dsimp only at hSw); go_simp; first | done | with_reducible rfl)
          try simp only [Act.put, List.setIfInBounds_toArray, List.set_cons_zero, List.set_cons_succ]
          refine wpAnyH_take (i := 21) (oi := ⟨some 104, _, _, _, _, _⟩) (v := ?_) rfl (by kernel_rfl) (by kernel_rfl) (by kernel_rfl) (fun _ _ _ h => h) (Or.inl ⟨by rfl, ?_⟩) (by assumption) ?_
          rotate_left
          focus (intro w hSw; (try dsimp only at hSw); go_simp; first | done | with_reducible rfl)
          try simp only [Act.put, List.setIfInBounds_toArray, List.set_cons_zero, List.set_cons_succ]
          refine wpAnyH_ready (rs := [22]) (by kernel_rfl) (by simp) ?_
          refine AllReadyH.cons (o := ⟨none, _, _, _, _, _⟩) rfl (fun K hK => ?_) AllReadyH.nil
          have hCM := ans_cells HJ4.out.cm
          have hCF := ans_free HJ4.out.cm
          obtain ⟨c0, c1, c2, c3, c4, c5, c6, c7, c8, c9, c10, c11, c12⟩ := hCM
          obtain ⟨f0, f1, f2, f3, f4, f5, f6, f7, f8, f9, f10, f11, f12⟩ := hCF
          go_simp
          refine hK.out _ _ (by exact cell_set_other (cell_set_other (cell_set_other (cell_set_other (hHeld) hXC) hXC) hXC) hXC) (fun hNew => ?_)
          clear hK K
          clear hHeld; have hHeld := hNew; clear hNew
          try simp only [Act.put, List.setIfInBounds_toArray, List.set_cons_zero, List.set_cons_succ]
          refine wpAnyH_done (by kernel_rfl) ?_ _
          clear c0 f0 c1 f1 c2 f2 c3 f3 c4 f4 c5 f5 c6 f6 c7 f7 c8 f8 c9 f9 c10 f10 c11 f11 c12 f12
          have HI2 := Lib.hid ((((((HJ4.out).set HD.out 9 _ (⟨Cx.zag (Cx.spU (some l)).1, Cx.zag (Cx.spU (Cm.ra l).s1).1, Cx.zag (Cx.spU (Cm.ra l).s2).1, Cx.zag (Cx.spU (Cm.ra l).s3).1, str (Cx.spT (Cm.ra l).s4).1, str (Cx.spT (Cm.ra l).s5).1, done, str (Cx.spT none).1, y1, Cx.zag (Cx.spU (Cm.ra l).s10).1, 0, 0, 0⟩ : Cm.An) rfl rfl).set HD.out 10 _ (⟨Cx.zag (Cx.spU (some l)).1, Cx.zag (Cx.spU (Cm.ra l).s1).1, Cx.zag (Cx.spU (Cm.ra l).s2).1, Cx.zag (Cx.spU (Cm.ra l).s3).1, str (Cx.spT (Cm.ra l).s4).1, str (Cx.spT (Cm.ra l).s5).1, done, str (Cx.spT none).1, y1, Cx.zag (Cx.spU (Cm.ra l).s10).1, Cx.zag (Cx.spU (Cm.ra l).s11).1, 0, 0⟩ : Cm.An) rfl rfl).set HD.out 11 _ (⟨Cx.zag (Cx.spU (some l)).1, Cx.zag (Cx.spU (Cm.ra l).s1).1, Cx.zag (Cx.spU (Cm.ra l).s2).1, Cx.zag (Cx.spU (Cm.ra l).s3).1, str (Cx.spT (Cm.ra l).s4).1, str (Cx.spT (Cm.ra l).s5).1, done, str (Cx.spT none).1, y1, Cx.zag (Cx.spU (Cm.ra l).s10).1, Cx.zag (Cx.spU (Cm.ra l).s11).1, Cx.zag (Cx.spU (Cm.ra l).s12).1, 0⟩ : Cm.An) rfl rfl).set HD.out 12 _ (⟨Cx.zag (Cx.spU (some l)).1, Cx.zag (Cx.spU (Cm.ra l).s1).1, Cx.zag (Cx.spU (Cm.ra l).s2).1, Cx.zag (Cx.spU (Cm.ra l).s3).1, str (Cx.spT (Cm.ra l).s4).1, str (Cx.spT (Cm.ra l).s5).1, done, str (Cx.spT none).1, y1, Cx.zag (Cx.spU (Cm.ra l).s10).1, Cx.zag (Cx.spU (Cm.ra l).s11).1, Cx.zag (Cx.spU (Cm.ra l).s12).1, Cx.zag (Cx.spU (Cm.ra l).s13).1⟩ : Cm.An) rfl rfl))
          clear hHeld HJ0 HJ1 HG1 HJ2 HG2 HJ3 HG3 HJ4 HG4
          have HI := HI2
          clear HI2
          have px := HI.out.px0
          have hEQ : (⟨Cx.zag (Cx.spU (some l)).1, Cx.zag (Cx.spU (Cm.ra l).s1).1, Cx.zag (Cx.spU (Cm.ra l).s2).1, Cx.zag (Cx.spU (Cm.ra l).s3).1, str (Cx.spT (Cm.ra l).s4).1, str (Cx.spT (Cm.ra l).s5).1, done, str (Cx.spT none).1, y1, Cx.zag (Cx.spU (Cm.ra l).s10).1, Cx.zag (Cx.spU (Cm.ra l).s11).1, Cx.zag (Cx.spU (Cm.ra l).s12).1, Cx.zag (Cx.spU (Cm.ra l).s13).1⟩ : Cm.An) = Cm.rawA l := by
            have hy : ((Cx.spU (Cm.ra l).s9).1 == 1) = y1 := by rw [HYY.out]; exact HEY.out
            rw [← hy, HPS.out.1, ← HNN.out, HE8.out]
            rfl
          have HEQ := Lib.hid hEQ
          clear hEQ
          obtain ⟨z0, z1, z2, z3, z4, z5, z6, z7, z8, z9, z10, z11, z12⟩ := zeroA_cells HI.out.rs
          obtain ⟨f0, f1, f2, f3, f4, f5, f6, f7, f8, f9, f10, f11, f12⟩ := ans_free HI.out.rs
          obtain ⟨k0, k1, k2, k3, k4, k5, k6, k7, k8, k9, k10, k11, k12⟩ := ans_cells HI.out.cm
          rcases hd : stDone (Cm.ra l).s14 with _ | _
          · have HDN := Lib.hid hd
            clear hd
            have HDEC : RowKit.Hid (Cm.decA l = (Cm.noAn, 8)) := Lib.hid (Cm.decA_bad (fun q => by rw [HDN.out] at q; cases q.1))
            go_wp2_with (go_at_call 39; ((with_reducible refine (done_any R (Cm.ra l).s14 _ (by exact HI.out.rd)).mono ?_); rintro e w' ⟨rfl, rfl⟩; rw [HDN.out]))
            exact bodyPost_ret (v := .tuple #[ansv Cm.noAn (.slice none 0 0), .int .i64 8]) (by simp [results, Try.results18, go_sem, z0, z1, z2, z3, z4, z5, z6, z7, z8, z9, z10, z11, z12]) rfl ⟨.slice none 0 0, by rw [HDEC.out], by rw [HDEC.out]; exact World.ownsRow_nil _ _ _ _, below_sets13 HI.out.bl⟩
          · have HDN := Lib.hid hd
            clear hd
            cases b2 with
            | true =>
              have HDEC : RowKit.Hid (Cm.decA l = (Cm.noAn, 8)) := Lib.hid (Cm.decA_bad (fun q => by have := q.2; rw [HYY.out] at this; exact absurd this (HEB.out.1 rfl)))
              go_wp2_with (go_at_call 39; ((with_reducible refine (done_any R (Cm.ra l).s14 _ (by exact HI.out.rd)).mono ?_); rintro e w' ⟨rfl, rfl⟩; rw [HDN.out]))
              exact bodyPost_ret (v := .tuple #[ansv Cm.noAn (.slice none 0 0), .int .i64 8]) (by simp [results, Try.results18, go_sem, z0, z1, z2, z3, z4, z5, z6, z7, z8, z9, z10, z11, z12]) rfl ⟨.slice none 0 0, by rw [HDEC.out], by rw [HDEC.out]; exact World.ownsRow_nil _ _ _ _, below_sets13 HI.out.bl⟩
            | false =>
              have HDEC : RowKit.Hid (Cm.decA l = (Cm.rawA l, 0)) := Lib.hid (Cm.decA_good HDN.out (by rw [HYY.out]; exact HEB.out.2 rfl))
              obtain ⟨vq, vl, vc, rfl⟩ := own_sl HI.out.ow
              go_wp2_with (go_at_call 39; ((with_reducible refine (done_any R (Cm.ra l).s14 _ (by exact HI.out.rd)).mono ?_); rintro e w' ⟨rfl, rfl⟩; rw [HDN.out]))
              exact bodyPost_ret (v := .tuple #[ansv (⟨Cx.zag (Cx.spU (some l)).1, Cx.zag (Cx.spU (Cm.ra l).s1).1, Cx.zag (Cx.spU (Cm.ra l).s2).1, Cx.zag (Cx.spU (Cm.ra l).s3).1, str (Cx.spT (Cm.ra l).s4).1, str (Cx.spT (Cm.ra l).s5).1, done, str (Cx.spT none).1, y1, Cx.zag (Cx.spU (Cm.ra l).s10).1, Cx.zag (Cx.spU (Cm.ra l).s11).1, Cx.zag (Cx.spU (Cm.ra l).s12).1, Cx.zag (Cx.spU (Cm.ra l).s13).1⟩ : Cm.An) (.slice vq vl vc), .int .i64 0]) (by simp [results, Try.results18, go_sem, z0, z1, z2, z3, z4, z5, z6, z7, z8, z9, z10, z11, z12]) rfl ⟨.slice vq vl vc, by rw [HDEC.out, ← HEQ.out], by rw [HDEC.out, ← HEQ.out]; exact own_sets13 (own_base HI.out.ow (by have := HD.out.r; have := HD.out.x; have := HD.out.c; omega)) (by have := HI.out.ow; exact own_far HI.out.ow (by have := HD.out.r; have := HD.out.x; have := HD.out.c; omega)), below_sets13 HI.out.bl⟩
        | some r =>
          clear HEX
          have hm1 : 1 ≤ m := by omega
          have HM1 := Lib.hid hm1
          go_upto_region 7 with (go_at_call 46; ((with_reducible refine (bad_any R (some r) _ (by exact HI.out.rd)).mono ?_); rintro e w' ⟨rfl, rfl⟩))
          clear px
          refine wp_region_held_drew (S := (fun _ => True)) (by kernel_rfl) (trivial) (fun hHeld => ?_)
          refine wpAnyH_take (i := 0) (oi := ⟨some 62, _, _, _, _, _⟩) (v := ?_) rfl (by kernel_rfl) (by kernel_rfl) (by kernel_rfl) (fun _ _ _ h => h) (Or.inl ⟨by rfl, ?_⟩) (by assumption) ?_
          rotate_left
          focus (intro w hSw; (try dsimp only at hSw); go_simp; first | done | with_reducible rfl)
          try simp only [Act.put, List.setIfInBounds_toArray, List.set_cons_zero, List.set_cons_succ]
          refine wpAnyH_take (i := 2) (oi := ⟨some 64, _, _, _, _, _⟩) (v := ?_) rfl (by kernel_rfl) (by kernel_rfl) (by kernel_rfl) (fun _ _ _ h => h) (Or.inl ⟨by rfl, ?_⟩) (by assumption) ?_
          rotate_left
          focus (intro w hSw; (try dsimp only at hSw); go_simp; first | done | with_reducible rfl)
          try simp only [Act.put, List.setIfInBounds_toArray, List.set_cons_zero, List.set_cons_succ]
          refine wpAnyH_ready (rs := [1, 3]) (by kernel_rfl) (by simp) ?_
          refine AllReadyH.cons (o := ⟨some 63, _, _, _, _, _⟩) rfl (fun K hK => ?_) (AllReadyH.cons (o := ⟨some 65, _, _, _, _, _⟩) rfl (fun K hK => ?_) AllReadyH.nil)
          · have c6 := (ans_cells HI.out.cm).2.2.2.2.2.2.1
            have c6' : wr.drew.cell? ⟨C, 6, none⟩ = some v := c6
            go_simp
            refine hK.out _ _ (trivial) (fun hNew => ?_)
            clear hK K
            clear hHeld; have hHeld := hNew; clear hNew
            try simp only [Act.put, List.setIfInBounds_toArray, List.set_cons_zero, List.set_cons_succ]
            refine wpAnyH_ready (rs := [3]) (by kernel_rfl) (by simp) ?_
            refine AllReadyH.cons (o := ⟨some 65, _, _, _, _, _⟩) rfl (fun K hK => ?_) AllReadyH.nil
            go_simp
            ((with_reducible refine (ansPin_any X R (some r) HLEN.out _ (by exact HI.out.drew.px) (by exact HI.out.rd.drew) hXR).mono ?_); rintro e w1 ⟨rfl, h1, hg1⟩; have HJ : RowKit.Hid (IvA w w1 X R C (Cm.rdZ (some r)).2 _ _) := Lib.hid (HI.out.drew.call HD.out hg1 h1); clear h1 hg1)
            go_wp2_with fail
            refine hK.out _ _ (trivial) (fun hNew => ?_)
            clear hK K
            clear hHeld; have hHeld := hNew; clear hNew
            try simp only [Act.put, List.setIfInBounds_toArray, List.set_cons_zero, List.set_cons_succ]
            refine wpAnyH_ready (rs := [4]) (by kernel_rfl) (by simp) ?_
            refine AllReadyH.cons (o := ⟨some 66, _, _, _, _, _⟩) rfl (fun K hK => ?_) AllReadyH.nil
            go_simp
            refine hK.out _ _ (trivial) (fun hNew => ?_)
            clear hK K
            clear hHeld; have hHeld := hNew; clear hNew
            try simp only [Act.put, List.setIfInBounds_toArray, List.set_cons_zero, List.set_cons_succ]
            refine wpAnyH_ready (rs := [5]) (by kernel_rfl) (by simp) ?_
            refine AllReadyH.cons (o := ⟨some 67, _, _, _, _, _⟩) rfl (fun K hK => ?_) AllReadyH.nil
            rw [if_pos (by kernel_rfl)]
            refine wp_append_own _ (.tmp 63) (.tmp 66) 45 rfl (C + 1) 25 i0 (.agg #[.string ⟨#[]⟩, .int .i64 0, .int .i64 0, .int .i64 0]) 4 40 Try.underlying45 hi hz0 hz1 hz2 rfl (by decide) v done.length _ rfl (by exact (HJ.out.below (below_alloc _ _)).ow) ⟨w1.heap.size, 0, none⟩ 1 1 [.string (Cm.rdZ (some r)).1.p, .int .i64 (Cm.rdZ (some r)).1.v.a, .int .i64 (Cm.rdZ (some r)).1.v.b, .int .i64 (Cm.rdZ (some r)).1.v.c] rfl rfl (by exact new_cells w1 _ 25 _ rfl) (by simp [Value.oneCell']) (by unfold maxLen; omega) (by omega) (by exact Nat.le_of_lt (by have := hb_lt HJ.out.cm; simp; omega)) ?_
            intro v2 w2 hown2 hg2 _
            refine hK.out _ _ (trivial) (fun hNew => ?_)
            clear hK K
            clear hHeld; have hHeld := hNew; clear hNew
            try simp only [Act.put, List.setIfInBounds_toArray, List.set_cons_zero, List.set_cons_succ]
            refine wpAnyH_take (i := 6) (oi := ⟨some 68, _, _, _, _, _⟩) (v := ?_) rfl (by kernel_rfl) (by kernel_rfl) (by kernel_rfl) (fun _ _ _ h => h) (Or.inl ⟨by rfl, ?_⟩) (by assumption) ?_
            rotate_left
            focus (intro w hSw; (try dsimp only at hSw); go_simp; first | done | with_reducible rfl)
            try simp only [Act.put, List.setIfInBounds_toArray, List.set_cons_zero, List.set_cons_succ]
            refine wpAnyH_ready (rs := [7]) (by kernel_rfl) (by simp) ?_
            refine AllReadyH.cons (o := ⟨none, _, _, _, _, _⟩) rfl (fun K hK => ?_) AllReadyH.nil
            obtain ⟨q2, l2, p2, rfl⟩ := own_sl hown2
            have HK := Lib.hid (ivA_app HJ.out HD.out (x := (Cm.rdZ (some r)).1) hown2 hg2)
            have c6 := (ans_cells HK.out.cm).2.2.2.2.2.2.1
            have f6 := hb_free HK.out.cm 6
            go_simp
            refine hK.out _ _ (trivial) (fun hNew => ?_)
            clear hK K
            clear hHeld; have hHeld := hNew; clear hNew
            try simp only [Act.put, List.setIfInBounds_toArray, List.set_cons_zero, List.set_cons_succ]
            refine wpAnyH_done (by kernel_rfl) ?_ _
            go_wp2
            go_roundw
            case rel => exact ivA_round (fun D => (⟨Cx.zag (Cx.spU (some l)).1, Cx.zag (Cx.spU (Cm.ra l).s1).1, Cx.zag (Cx.spU (Cm.ra l).s2).1, Cx.zag (Cx.spU (Cm.ra l).s3).1, str (Cx.spT (Cm.ra l).s4).1, str (Cx.spT (Cm.ra l).s5).1, D, ⟨#[]⟩, false, 0, 0, 0, 0⟩ : Cm.An)) (fun _ => rfl) (fun _ _ _ _ => rfl) HK.out HD.out HRDP.out hm HM1.out hbd HLEN.out
            case measure => simp [intOf]; omega
          · go_simp
            ((with_reducible refine (ansPin_any X R (some r) HLEN.out _ (by exact HI.out.drew.px) (by exact HI.out.rd.drew) hXR).mono ?_); rintro e w1 ⟨rfl, h1, hg1⟩; have HJ : RowKit.Hid (IvA w w1 X R C (Cm.rdZ (some r)).2 _ _) := Lib.hid (HI.out.drew.call HD.out hg1 h1); clear h1 hg1)
            go_wp2_with fail
            refine hK.out _ _ (trivial) (fun hNew => ?_)
            clear hK K
            clear hHeld; have hHeld := hNew; clear hNew
            try simp only [Act.put, List.setIfInBounds_toArray, List.set_cons_zero, List.set_cons_succ]
            refine wpAnyH_ready (rs := [1, 4]) (by kernel_rfl) (by simp) ?_
            refine AllReadyH.cons (o := ⟨some 63, _, _, _, _, _⟩) rfl (fun K hK => ?_) (AllReadyH.cons (o := ⟨some 66, _, _, _, _, _⟩) rfl (fun K hK => ?_) AllReadyH.nil)
            · have c6 := (ans_cells HJ.out.cm).2.2.2.2.2.2.1
              go_simp
              refine hK.out _ _ (trivial) (fun hNew => ?_)
              clear hK K
              clear hHeld; have hHeld := hNew; clear hNew
              try simp only [Act.put, List.setIfInBounds_toArray, List.set_cons_zero, List.set_cons_succ]
              refine wpAnyH_ready (rs := [4]) (by kernel_rfl) (by simp) ?_
              refine AllReadyH.cons (o := ⟨some 66, _, _, _, _, _⟩) rfl (fun K hK => ?_) AllReadyH.nil
              go_simp
              refine hK.out _ _ (trivial) (fun hNew => ?_)
              clear hK K
              clear hHeld; have hHeld := hNew; clear hNew
              try simp only [Act.put, List.setIfInBounds_toArray, List.set_cons_zero, List.set_cons_succ]
              refine wpAnyH_ready (rs := [5]) (by kernel_rfl) (by simp) ?_
              refine AllReadyH.cons (o := ⟨some 67, _, _, _, _, _⟩) rfl (fun K hK => ?_) AllReadyH.nil
              rw [if_pos (by kernel_rfl)]
              refine wp_append_own _ (.tmp 63) (.tmp 66) 45 rfl (C + 1) 25 i0 (.agg #[.string ⟨#[]⟩, .int .i64 0, .int .i64 0, .int .i64 0]) 4 40 Try.underlying45 hi hz0 hz1 hz2 rfl (by decide) v done.length _ rfl (by exact (HJ.out.below (below_alloc _ _)).ow) ⟨w1.heap.size, 0, none⟩ 1 1 [.string (Cm.rdZ (some r)).1.p, .int .i64 (Cm.rdZ (some r)).1.v.a, .int .i64 (Cm.rdZ (some r)).1.v.b, .int .i64 (Cm.rdZ (some r)).1.v.c] rfl rfl (by exact new_cells w1 _ 25 _ rfl) (by simp [Value.oneCell']) (by unfold maxLen; omega) (by omega) (by exact Nat.le_of_lt (by have := hb_lt HJ.out.cm; simp; omega)) ?_
              intro v2 w2 hown2 hg2 _
              refine hK.out _ _ (trivial) (fun hNew => ?_)
              clear hK K
              clear hHeld; have hHeld := hNew; clear hNew
              try simp only [Act.put, List.setIfInBounds_toArray, List.set_cons_zero, List.set_cons_succ]
              refine wpAnyH_take (i := 6) (oi := ⟨some 68, _, _, _, _, _⟩) (v := ?_) rfl (by kernel_rfl) (by kernel_rfl) (by kernel_rfl) (fun _ _ _ h => h) (Or.inl ⟨by rfl, ?_⟩) (by assumption) ?_
              rotate_left
              focus (intro w hSw; (try dsimp only at hSw); go_simp; first | done | with_reducible rfl)
              try simp only [Act.put, List.setIfInBounds_toArray, List.set_cons_zero, List.set_cons_succ]
              refine wpAnyH_ready (rs := [7]) (by kernel_rfl) (by simp) ?_
              refine AllReadyH.cons (o := ⟨none, _, _, _, _, _⟩) rfl (fun K hK => ?_) AllReadyH.nil
              obtain ⟨q2, l2, p2, rfl⟩ := own_sl hown2
              have HK := Lib.hid (ivA_app HJ.out HD.out (x := (Cm.rdZ (some r)).1) hown2 hg2)
              have c6 := (ans_cells HK.out.cm).2.2.2.2.2.2.1
              have f6 := hb_free HK.out.cm 6
              go_simp
              refine hK.out _ _ (trivial) (fun hNew => ?_)
              clear hK K
              clear hHeld; have hHeld := hNew; clear hNew
              try simp only [Act.put, List.setIfInBounds_toArray, List.set_cons_zero, List.set_cons_succ]
              refine wpAnyH_done (by kernel_rfl) ?_ _
              go_wp2
              go_roundw
              case rel => exact ivA_round (fun D => (⟨Cx.zag (Cx.spU (some l)).1, Cx.zag (Cx.spU (Cm.ra l).s1).1, Cx.zag (Cx.spU (Cm.ra l).s2).1, Cx.zag (Cx.spU (Cm.ra l).s3).1, str (Cx.spT (Cm.ra l).s4).1, str (Cx.spT (Cm.ra l).s5).1, D, ⟨#[]⟩, false, 0, 0, 0, 0⟩ : Cm.An)) (fun _ => rfl) (fun _ _ _ _ => rfl) HK.out HD.out HRDP.out hm HM1.out hbd HLEN.out
              case measure => simp [intOf]; omega
            · go_simp
              refine hK.out _ _ (trivial) (fun hNew => ?_)
              clear hK K
              clear hHeld; have hHeld := hNew; clear hNew
              try simp only [Act.put, List.setIfInBounds_toArray, List.set_cons_zero, List.set_cons_succ]
              refine wpAnyH_ready (rs := [1]) (by kernel_rfl) (by simp) ?_
              refine AllReadyH.cons (o := ⟨some 63, _, _, _, _, _⟩) rfl (fun K hK => ?_) AllReadyH.nil
              have c6 := (ans_cells (HJ.out.below (below_alloc w1 (.cells #[.string (Cm.rdZ (some r)).1.p, .int .i64 (Cm.rdZ (some r)).1.v.a, .int .i64 (Cm.rdZ (some r)).1.v.b, .int .i64 (Cm.rdZ (some r)).1.v.c] 25))).cm).2.2.2.2.2.2.1
              go_simp
              refine hK.out _ _ (trivial) (fun hNew => ?_)
              clear hK K
              clear hHeld; have hHeld := hNew; clear hNew
              try simp only [Act.put, List.setIfInBounds_toArray, List.set_cons_zero, List.set_cons_succ]
              refine wpAnyH_ready (rs := [5]) (by kernel_rfl) (by simp) ?_
              refine AllReadyH.cons (o := ⟨some 67, _, _, _, _, _⟩) rfl (fun K hK => ?_) AllReadyH.nil
              rw [if_pos (by kernel_rfl)]
              refine wp_append_own _ (.tmp 63) (.tmp 66) 45 rfl (C + 1) 25 i0 (.agg #[.string ⟨#[]⟩, .int .i64 0, .int .i64 0, .int .i64 0]) 4 40 Try.underlying45 hi hz0 hz1 hz2 rfl (by decide) v done.length _ rfl (by exact (HJ.out.below (below_alloc _ _)).ow) ⟨w1.heap.size, 0, none⟩ 1 1 [.string (Cm.rdZ (some r)).1.p, .int .i64 (Cm.rdZ (some r)).1.v.a, .int .i64 (Cm.rdZ (some r)).1.v.b, .int .i64 (Cm.rdZ (some r)).1.v.c] rfl rfl (by exact new_cells w1 _ 25 _ rfl) (by simp [Value.oneCell']) (by unfold maxLen; omega) (by omega) (by exact Nat.le_of_lt (by have := hb_lt HJ.out.cm; simp; omega)) ?_
              intro v2 w2 hown2 hg2 _
              refine hK.out _ _ (trivial) (fun hNew => ?_)
              clear hK K
              clear hHeld; have hHeld := hNew; clear hNew
              try simp only [Act.put, List.setIfInBounds_toArray, List.set_cons_zero, List.set_cons_succ]
              refine wpAnyH_take (i := 6) (oi := ⟨some 68, _, _, _, _, _⟩) (v := ?_) rfl (by kernel_rfl) (by kernel_rfl) (by kernel_rfl) (fun _ _ _ h => h) (Or.inl ⟨by rfl, ?_⟩) (by assumption) ?_
              rotate_left
              focus (intro w hSw; (try dsimp only at hSw); go_simp; first | done | with_reducible rfl)
              try simp only [Act.put, List.setIfInBounds_toArray, List.set_cons_zero, List.set_cons_succ]
              refine wpAnyH_ready (rs := [7]) (by kernel_rfl) (by simp) ?_
              refine AllReadyH.cons (o := ⟨none, _, _, _, _, _⟩) rfl (fun K hK => ?_) AllReadyH.nil
              obtain ⟨q2, l2, p2, rfl⟩ := own_sl hown2
              have HK := Lib.hid (ivA_app HJ.out HD.out (x := (Cm.rdZ (some r)).1) hown2 hg2)
              have c6 := (ans_cells HK.out.cm).2.2.2.2.2.2.1
              have f6 := hb_free HK.out.cm 6
              go_simp
              refine hK.out _ _ (trivial) (fun hNew => ?_)
              clear hK K
              clear hHeld; have hHeld := hNew; clear hNew
              try simp only [Act.put, List.setIfInBounds_toArray, List.set_cons_zero, List.set_cons_succ]
              refine wpAnyH_done (by kernel_rfl) ?_ _
              go_wp2
              go_roundw
              case rel => exact ivA_round (fun D => (⟨Cx.zag (Cx.spU (some l)).1, Cx.zag (Cx.spU (Cm.ra l).s1).1, Cx.zag (Cx.spU (Cm.ra l).s2).1, Cx.zag (Cx.spU (Cm.ra l).s3).1, str (Cx.spT (Cm.ra l).s4).1, str (Cx.spT (Cm.ra l).s5).1, D, ⟨#[]⟩, false, 0, 0, 0, 0⟩ : Cm.An)) (fun _ => rfl) (fun _ _ _ _ => rfl) HK.out HD.out HRDP.out hm HM1.out hbd HLEN.out
              case measure => simp [intOf]; omega
end Go.Proofs.Ytfbfdkjimoomlaa
