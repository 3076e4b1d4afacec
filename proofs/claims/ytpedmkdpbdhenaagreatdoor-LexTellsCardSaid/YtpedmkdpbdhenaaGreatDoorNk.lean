/- The document's Tell. -/
import Derived.Test.YtpedmkdpbdhenaaGreatDoorNj
namespace Go.Proofs.YtpedmkdpbdhenaaGreatDoor
open Go.RowKit
set_option linter.unusedSimpArgs false
set_option linter.unusedVariables false
theorem joinT_snoc : ∀ (ts : List Tk) (t : Tk), joinT (ts ++ [t]) = joinT ts ++ (if ts = [] then [] else [32]) ++ tellT t := by
  intro ts
  induction ts with
  | nil => intro t; simp [joinT]
  | cons u r ih =>
    intro t
    rw [List.cons_append, joinT_cons, ih, joinT_cons]
    cases r with
    | nil => simp [joinT]
    | cons v r => simp
set_option maxHeartbeats 8000000 in
set_option maxRecDepth 100000 in
theorem tell_doc (v : Value) (l : List (Tk × Int)) (w : World) (hv : TksAt w v l) (hm : Mod l) : Calls Tryz.prog 7 #[v] w (TellR l w) := by
  obtain ⟨q, c, rfl, hr⟩ := hv
  have hl := hm.1
  have hj := hm.len
  have HMD := Lib.hid hm
  have HM := Lib.hid hm.2
  have HR := Lib.hid hr
  clear hr hm
  go_enter Tryz.func7, Tryz.ntmps7
  go_wp2
  go_loopw [4, 5] (fun u i wr => ∃ k : Nat, i = .int .i64 k ∧ k ≤ l.length ∧ u = .string (ofL (joinT ((l.take k).map Prod.fst))) ∧ AllR (l.take k) ∧ Below w.heap.size w wr) (fun _ i _ => l.length - (intOf i).toNat)
  case atStart => exact ⟨0, rfl, Nat.zero_le _, rfl, (fun x hx => by rw [List.take_zero] at hx; exact absurd hx (by simp)), Below.refl _ _⟩
  case round =>
    obtain ⟨k, rfl, hk, rfl, hA, hB⟩ := hrel
    have HA := Lib.hid hA
    have HB := Lib.hid hB
    have hws := hB.size
    have hJl : (joinT ((l.take k).map Prod.fst)).length ≤ 40000460000 := Mod.len (l := l.take k) ⟨by rw [List.length_take]; omega, fun x hx => HM.out x (List.mem_of_mem_take hx)⟩
    obtain ⟨J, hJ⟩ : ∃ J, joinT ((l.take k).map Prod.fst) = J := ⟨_, rfl⟩
    rw [hJ] at hJl ⊢
    have HJ := Lib.hid hJ
    have hJs : (ofL J).size ≤ 40000460000 := by rw [ofL_size]; exact hJl
    clear hA hB hJ
    by_cases hlt : k < l.length
    · have hki : (k : Int) < (l.length : Int) := by omega
      have hx := List.getElem?_eq_getElem hlt
      generalize l[k] = x at *
      have hxm : x ∈ l := List.mem_of_getElem? hx
      obtain ⟨hs1, hs2⟩ := HM.out x hxm
      have hTl := tellT_len x.1 hs2.1 hs2.2
      have HRT := Lib.hid (fun W => right_doc x.1 x.2 hs1 W)
      have HTL := Lib.hid (fun hf W => told_doc x.1 x.2 (by omega) hf W)
      obtain ⟨b, o, rfl, ha⟩ := HR.out k x hx
      have HAT := Lib.hid (ha.below HB.out)
      obtain ⟨x0, x1, x2, x3⟩ := ha.below HB.out
      have hN1 : joinT ((l.take (k + 1)).map Prod.fst) = J ++ (if k = 0 then [] else [32]) ++ tellT x.1 := by
        rw [take_next hx, List.map_append, List.map_cons, List.map_nil, joinT_snoc, HJ.out]
        congr 2
        by_cases hk0 : k = 0
        · subst hk0; simp
        · rw [if_neg hk0, if_neg]
          intro e
          have := congrArg List.length e
          rw [List.length_map, List.length_take, List.length_nil] at this
          omega
      have HN1 := Lib.hid hN1
      have HX := Lib.hid hx
      have HXM := Lib.hid hxm
      clear ha hx hN1 hxm
      obtain ⟨⟨tk, ts, tn⟩, ta⟩ := x
      have HRT2 : RowKit.Hid (∀ W, Calls Tryz.prog 9 #[.agg #[.int .i64 tk, .string ts, .int .i64 tn, .int .i64 ta]] W fun e w' => e = .returned (.bool (rightB ⟨tk, ts, tn⟩)) ∧ Below W.heap.size W w') := HRT
      clear HRT
      simp only [] at x0 x1 x2 x3 hs1
      rcases (Bool.eq_false_or_eq_true (rightB ⟨tk, ts, tn⟩)).symm with hb | hb
      · rw [hb] at HRT2
        have HNO : RowKit.Hid (¬ AllR l) := Lib.hid (fun h => by
          have h1 := h _ HXM.out
          rw [rightB_yes h1] at hb
          cases hb)
        clear hb HTL
        go_wp2_with (go_at_call 9; with_reducible refine (HRT2.out _).mono ?_; rintro e w1 ⟨rfl, hb1⟩; have HB1 := Lib.hid hb1; clear hb1)
        go_ret2
        exact ⟨.inr ⟨HNO.out, rfl⟩, HB.out.trans (HB1.out.mono hws)⟩
      · rw [hb] at HRT2
        have hyes := rightB_of hb
        have HTL2 : RowKit.Hid (∀ W, Calls Tryz.prog 17 #[.agg #[.int .i64 tk, .string ts, .int .i64 tn, .int .i64 ta]] W fun e w' => e = .returned (.string (ofL (tellT ⟨tk, ts, tn⟩))) ∧ Below W.heap.size W w') := Lib.hid (HTL.out ((right_iff _).1 hyes).2.2.2.1)
        have HYES := Lib.hid hyes
        clear hb HTL hyes
        have HNEXT : RowKit.Hid (AllR (l.take (k + 1))) := Lib.hid (fun y hy => by
          rw [take_next HX.out] at hy
          rcases List.mem_append.1 hy with h | h
          · exact HA.out y h
          · rw [List.mem_singleton.1 h]; exact HYES.out)
        obtain ⟨T, hT⟩ : ∃ T, tellT ⟨tk, ts, tn⟩ = T := ⟨_, rfl⟩
        have hTl' : T.length ≤ 2 * ts.size + 22 := by rw [← hT]; exact hTl
        have hTs : (ofL T).size ≤ 2 * ts.size + 22 := by rw [ofL_size]; exact hTl'
        have HN2 : RowKit.Hid (joinT ((l.take (k + 1)).map Prod.fst) = J ++ (if k = 0 then [] else [32]) ++ T) := Lib.hid (by rw [HN1.out, hT])
        rw [hT] at HTL2
        clear HN1 hT hTl
        by_cases hk0 : k = 0
        · subst hk0
          have HAT0 : RowKit.Hid (TkAt wr b o ⟨tk, ts, tn⟩ ta) := Lib.hid (by have := HAT.out; rw [Nat.zero_mul, Nat.add_zero] at this; exact this)
          clear HAT x0 x1 x2 x3
          have HAT := HAT0
          clear HAT0
          obtain ⟨x0, x1, x2, x3⟩ := HAT.out
          go_wp2_with fail
          go_at_call 9
          with_reducible refine (HRT2.out _).mono ?_
          rintro e w1 ⟨rfl, hb1⟩
          have HB1 := Lib.hid hb1
          obtain ⟨y0, y1, y2, y3⟩ := HAT.out.below hb1
          clear hb1
          go_wp2_with fail
          go_at_call 17
          with_reducible refine (HTL2.out _).mono ?_
          rintro e w2 ⟨rfl, hb2⟩
          have HB2 := Lib.hid hb2
          clear hb2
          go_wp2
          exact ⟨⟨1, rfl, by omega, by rw [HN2.out]; exact congrArg Value.string (by rw [ofL_app]; simp), HNEXT.out, HB.out.trans ((HB1.out.trans (HB2.out.mono HB1.out.size)).mono hws)⟩, by simp [intOf]; omega⟩
        · have hkp : 0 < k := by omega
          go_wp2_with fail
          go_at_call 9
          with_reducible refine (HRT2.out _).mono ?_
          rintro e w1 ⟨rfl, hb1⟩
          have HB1 := Lib.hid hb1
          obtain ⟨y0, y1, y2, y3⟩ := HAT.out.below hb1
          clear hb1
          go_wp2_with fail
          go_at_call 17
          with_reducible refine (HTL2.out _).mono ?_
          rintro e w2 ⟨rfl, hb2⟩
          have HB2 := Lib.hid hb2
          clear hb2
          go_wp2
          exact ⟨⟨k + 1, rfl, by omega, by rw [HN2.out, if_neg (by omega)]; exact congrArg Value.string (by rw [ofL_app J [32], ofL_app]), HNEXT.out, HB.out.trans ((HB1.out.trans (HB2.out.mono HB1.out.size)).mono hws)⟩, by simp [intOf]; omega⟩
    · have hki : ¬ (k : Int) < (l.length : Int) := by omega
      obtain rfl : k = l.length := by omega
      have hfull : l.take l.length = l := List.take_length
      rw [hfull] at HA HJ
      clear hfull
      go_wp2
      go_ret2
      exact ⟨.inl ⟨HA.out, by rw [HJ.out]; rfl⟩, HB.out⟩
end Go.Proofs.YtpedmkdpbdhenaaGreatDoor
