/- Contract: Encode of any command. -/
import Derived.Test.YtfbfdkjimoomlaaQ6
namespace Go.Proofs.Ytfbfdkjimoomlaa
open Go.RowKit
theorem wPin_int (B : Nat) (ps : List (List UInt8)) (x : Cm.Pn) (w : World) (hW : Wr w B ps) (hp : (text ps).length ≤ 100000) (hs : x.p.size ≤ 4000) (hv : (0 ≤ x.v.a ∧ x.v.a ≤ 999999) ∧ (0 ≤ x.v.b ∧ x.v.b ≤ 999999) ∧ 0 ≤ x.v.c ∧ x.v.c ≤ 999999) :
    Calls Try.prog 24 #[.pointer (some ⟨B, 0, none⟩), pinv x] w fun e w' => e = .returned (.tuple #[]) ∧ Wr w' B (many Cx.uv [x.v.a.toNat, x.v.b.toNat, x.v.c.toNat] :: many txt [x.p] :: ps) ∧ w.grownBy w' (some B) := by
  obtain ⟨p, ⟨a, b, c⟩⟩ := x
  obtain ⟨⟨a0, a1⟩, ⟨b0, b1⟩, c0, c1⟩ := hv
  simp only at a0 a1 b0 b1 c0 c1 hs
  obtain ⟨a, rfl⟩ := Int.eq_ofNat_of_zero_le a0
  obtain ⟨b, rfl⟩ := Int.eq_ofNat_of_zero_le b0
  obtain ⟨c, rfl⟩ := Int.eq_ofNat_of_zero_le c0
  simp only [Int.toNat_natCast]
  exact wPin_any B ps p a b c w hW hp hs (by omega) (by omega) (by omega)
/-- The pieces of a command's bytes, the last one first. -/
def pcsOf (c : Cm.Cmd) (P O S : Bool) : List (List UInt8) :=
  (if S then [many txt [c.s]] else []) ++ ((if O then [many Cx.uv [c.b.v.a.toNat, c.b.v.b.toNat, c.b.v.c.toNat], many txt [c.b.p]] else []) ++ ((if P then [many Cx.uv [c.a.v.a.toNat, c.a.v.b.toNat, c.a.v.c.toNat], many txt [c.a.p]] else []) ++ [many Cx.uv [c.k.toNat]]))
theorem three_nums (v : Sv.V) : many Cx.uv [v.a.toNat, v.b.toNat, v.c.toNat] = Cm.num v.a ++ (Cm.num v.b ++ Cm.num v.c) := by
  unfold Cm.num
  show Cx.uv _ ++ (Cx.uv _ ++ (Cx.uv _ ++ [])) = _
  rw [List.append_nil]
theorem text_pcs (c : Cm.Cmd) (P O S : Bool) (hP : Cm.hasPin c.k = P) (hO : Cm.hasOther c.k = O) (hS : Cm.hasSource c.k = S) : text (pcsOf c P O S) = Cm.encB c := by
  unfold Cm.encB Cm.pinB pcsOf
  rw [hP, hO, hS, three_nums, three_nums]
  cases P <;> cases O <;> cases S <;> simp [text, many_one, Cm.num]
theorem pcs_ne (c : Cm.Cmd) (P O S : Bool) : ∀ d ∈ pcsOf c P O S, d ≠ [] := by
  unfold pcsOf
  cases P <;> cases O <;> cases S <;> simp [manyU_ne, manyT_ne]
set_option maxRecDepth 100000 in
theorem enc_no (c : Cm.Cmd) (h : Cm.rightB c = false) (w : World) : Calls Try.prog 8 #[cmdv c] w fun e w' => e = .returned (.tuple #[.string ⟨#[]⟩, .int .i64 2]) ∧ Below w.heap.size w w' := by
  have H := Lib.hid h
  clear h
  go_enter Try.func8, Try.ntmps8
  go_wp2_with (go_at_call 11; ((with_reducible refine (cmdRight_any c _).mono ?_); rintro e w1 ⟨rfl, hb1⟩; rw [H.out]))
  go_ret2
  exact ⟨rfl, (below_alloc w _).trans (hb1.mono (by rw [World.size_alloc]; exact Nat.le_succ _))⟩

set_option maxRecDepth 100000 in
set_option maxHeartbeats 4000000 in
theorem enc_yes (c : Cm.Cmd) (h : Cm.rightB c = true) (w : World) : Calls Try.prog 8 #[cmdv c] w fun e w' => e = .returned (.tuple #[.string (str (Cm.encB c)), .int .i64 0]) ∧ Below w.heap.size w w' := by
  have HRT := Lib.hid h
  have hr := Cm.right_of h
  clear h
  obtain ⟨⟨hk1, hk2⟩, hp1, hp0, ho1, ho0, hs, hs0⟩ := hr
  have hku : IntKind.u64.wrap c.k = c.k := by rw [IntKind.wrap_u64]; omega
  have HKU := Lib.hid hku
  have hkn : (c.k.toNat : Int) = c.k := by omega
  have HKN := Lib.hid hkn
  have hkl : c.k.toNat < 18446744073709551616 := by omega
  have hl0 := lenU1 c.k.toNat hkl
  have hT0 : (text [many Cx.uv [c.k.toNat]]).length ≤ 10 := by rw [text_cons]; simp [text]; exact hl0
  have hxk : ∀ x ∈ [c.k.toNat], x < 18446744073709551616 := by simp; omega
  have HXK := Lib.hid hxk
  have HPV : RowKit.Hid (Cm.hasPin c.k = true → c.a.p.size ≤ 20 ∧ ((0 ≤ c.a.v.a ∧ c.a.v.a ≤ 999999) ∧ (0 ≤ c.a.v.b ∧ c.a.v.b ≤ 999999) ∧ 0 ≤ c.a.v.c ∧ c.a.v.c ≤ 999999)) := Lib.hid (fun h => ⟨Cm.pkg_len (by have := hp1 h; unfold Cm.okOne at this; rw [Bool.and_eq_true] at this; exact this.1), Cm.okOne_v (hp1 h)⟩)
  have HOV : RowKit.Hid (Cm.hasOther c.k = true → c.b.p.size ≤ 20 ∧ ((0 ≤ c.b.v.a ∧ c.b.v.a ≤ 999999) ∧ (0 ≤ c.b.v.b ∧ c.b.v.b ≤ 999999) ∧ 0 ≤ c.b.v.c ∧ c.b.v.c ≤ 999999)) := Lib.hid (fun h => ⟨Cm.pkg_len (by have := ho1 h; unfold Cm.okPin at this; rw [Bool.and_eq_true] at this; exact this.1), Cm.okPin_v (ho1 h)⟩)
  have hPARTS := partsOf_any c.k
  obtain ⟨P, hP⟩ : ∃ P, Cm.hasPin c.k = P := ⟨_, rfl⟩
  obtain ⟨O, hO⟩ : ∃ O, Cm.hasOther c.k = O := ⟨_, rfl⟩
  obtain ⟨S, hS⟩ : ∃ S, Cm.hasSource c.k = S := ⟨_, rfl⟩
  rw [hP, hO, hS] at hPARTS
  rw [hP] at HPV
  rw [hO] at HOV
  have HTX := Lib.hid (text_pcs c P O S hP hO hS)
  have HPARTS := Lib.hid hPARTS
  clear hp1 hp0 ho1 ho0 hs0 hku hkn hPARTS hxk hP hO hS
  go_enter Try.func8, Try.ntmps8
  go_upto_region 4 with (go_at_call 11; ((with_reducible refine (cmdRight_any c _).mono ?_); rintro e w1 ⟨rfl, hb1⟩; rw [HRT.out]; have HB1 := Lib.hid hb1; clear hb1))
  have hz1 : w.heap.size < w1.heap.size := Nat.lt_of_lt_of_le (by simp) HB1.out.size
  have HBW1 : RowKit.Hid (Below w.heap.size w (w1.alloc (.cells #[.pointer none] 62))) := Lib.hid ((((below_alloc w _).trans (HB1.out.mono (by rw [World.size_alloc]; exact Nat.le_succ _)))).alloc (Nat.le_of_lt hz1) _)
  have HC1 : RowKit.Hid ((w1.alloc (.cells #[.pointer none] 62)).heap[w.heap.size]? = some (.cells (cmdCells c) 27 (0, 0))) := Lib.hid (hb_alloc (hb_below (hb_new w _) HB1.out (by simp)) _)
  have HW1 : RowKit.Hid (Wr (w1.alloc (.cells #[.pointer none] 62)) w1.heap.size []) := Lib.hid ⟨_, hb_new w1 _, rfl⟩
  obtain ⟨k0, k1, k2, k3, k4, k5, k6, k7, k8, k9⟩ := cmd_cells HC1.out
  have hku := HKU.out
  go_region_with (go_at_call 22; (refine (wU_list w1.heap.size [] _ 1 [c.k.toNat] _ (by exact HW1.out.one _) (by simp [text]) (by simp) HXK.out (by exact one_at (new_two' _ _ _ _) (fun k : Nat => Value.int .u64 k) c.k.toNat (by rw [HKN.out]))).mono ?_; rintro e w2 ⟨rfl, h2, hg2⟩; have HW2 := Lib.hid h2; have HG2 := Lib.hid (grown_undrew hg2); clear h2 hg2))
  all_goals
    clear hku k0 k1 k2 k3 k4 k5 k6 k7 k8 k9
    have HC2 := Lib.hid (hb_grown (hb_alloc HC1.out _) HG2.out (by simp; omega))
    have hz2 : w1.heap.size < w2.heap.size := HW2.out.lt
    have HBW2 : RowKit.Hid (Below w.heap.size w w2) := Lib.hid ((HBW1.out.alloc HBW1.out.size _).grown HG2.out (by simp; omega) (fun j hj => by cases hj; omega))
    clear HC1 HW1 HG2
    obtain ⟨k0, k1, k2, k3, k4, k5, k6, k7, k8, k9⟩ := cmd_cells HC2.out
    go_upto_region 6 with (go_at_call 23; ((with_reducible refine (HPARTS.out _).mono ?_); rintro e w3 ⟨rfl, hb3⟩; have HB3 := Lib.hid hb3; clear hb3))
    clear k0 k1 k2 k3 k4 k5 k6 k7 k8 k9
    have hz3 : w1.heap.size < w3.heap.size := Nat.lt_of_lt_of_le hz2 HB3.out.size
    have HC3 := Lib.hid (hb_alloc (hb_below HC2.out HB3.out (by omega)) (.cells #[.bool P, .bool O, .bool S] 66))
    have HH3 := Lib.hid (hb_new w3 (.cells #[.bool P, .bool O, .bool S] 66))
    have HW3 := Lib.hid ((HW2.out.below HB3.out).below (below_alloc w3 (.cells #[.bool P, .bool O, .bool S] 66)))
    have HBW3 : RowKit.Hid (Below w.heap.size w (w3.alloc (.cells #[.bool P, .bool O, .bool S] 66))) := Lib.hid ((HBW2.out.trans (HB3.out.mono HBW2.out.size)).alloc (Nat.le_of_lt (Nat.lt_trans hz1 hz3)) _)
    clear HC2 HW2 HBW2 HB3
    obtain ⟨k0, k1, k2, k3, k4, k5, k6, k7, k8, k9⟩ := cmd_cells HC3.out
    obtain ⟨g0, g1, g2⟩ := has_cells HH3.out
    cases P with
    | false =>
      go_upto_region 8 with fail
      cases O with
      | false =>
        go_upto_region 10 with fail
        cases S with
        | false =>
          have HLEN : RowKit.Hid ((text (pcsOf c false false false)).length ≤ 1000000) := Lib.hid (by show (text ([many Cx.uv [c.k.toNat]])).length ≤ _; omega)
          have HWF : RowKit.Hid (Wr (w3.alloc (.cells #[.bool false, .bool false, .bool false] 66)) w1.heap.size (pcsOf c false false false)) := Lib.hid (by exact HW3.out)
          go_wp2_with (go_at_call 26; ((with_reducible refine (wString_any w1.heap.size (pcsOf c false false false) _ (by exact HWF.out) (pcs_ne c false false false) (by exact HLEN.out)).mono ?_); rintro e w9 ⟨rfl, hb9⟩; rw [HTX.out]))
          go_ret2
          exact ⟨rfl, HBW3.out.trans (hb9.mono HBW3.out.size)⟩
        | true =>
          have lts := lenT1 c.s (by omega)
          have HLEN : RowKit.Hid ((text (pcsOf c false false true)).length ≤ 1000000) := Lib.hid (by show (text (many txt [c.s] :: [many Cx.uv [c.k.toNat]])).length ≤ _; rw [text_cons]; omega)
          have hpl : (text ([many Cx.uv [c.k.toNat]])).length ≤ 1000000 := by omega
          have hsl : (many txt [c.s]).length ≤ 1000000 := by omega
          go_upto_region 11 with fail
          go_region_with (go_at_call 25; (refine (wT_list w1.heap.size ([many Cx.uv [c.k.toNat]]) _ 1 [c.s] _ (by exact HW3.out.one _) hpl (by simp) hsl (by exact one_at (new_two' _ _ _ _) Value.string c.s rfl)).mono ?_; rintro e w7 ⟨rfl, h7, hg7⟩; have HW7 := Lib.hid h7; have HG7 := Lib.hid (grown_undrew hg7); clear h7 hg7))
          all_goals
            clear k0 k1 k2 k3 k4 k5 k6 k7 k8 k9 g0 g1 g2
            have HBW7 : RowKit.Hid (Below w.heap.size w w7) := Lib.hid ((HBW3.out.alloc HBW3.out.size _).grown HG7.out (by have := HBW3.out.size; simp at this ⊢; omega) (fun j hj => by cases hj; omega))
            have HWF : RowKit.Hid (Wr w7 w1.heap.size (pcsOf c false false true)) := Lib.hid (by exact HW7.out)
            go_wp2_with (go_at_call 26; ((with_reducible refine (wString_any w1.heap.size (pcsOf c false false true) _ (by exact HWF.out) (pcs_ne c false false true) (by exact HLEN.out)).mono ?_); rintro e w9 ⟨rfl, hb9⟩; rw [HTX.out]))
            go_ret2
            exact ⟨rfl, HBW7.out.trans (hb9.mono HBW7.out.size)⟩
      | true =>
        obtain ⟨hplb, hpvb⟩ := HOV.out rfl
        have HPVVb := Lib.hid hpvb
        have l3b := lenU3 c.b.v.a.toNat c.b.v.b.toNat c.b.v.c.toNat (by omega) (by omega) (by omega)
        have ltb := lenT1 c.b.p (by omega)
        clear hpvb
        go_upto_region 10 with (go_at_call 24; go_loud ((with_reducible refine (wPin_int w1.heap.size ([many Cx.uv [c.k.toNat]]) c.b _ (by exact HW3.out) (by omega) (by omega) HPVVb.out).mono ?_); rintro e w6 ⟨rfl, h6, hg6⟩; have HW6 := Lib.hid h6; have HG6 := Lib.hid hg6; clear h6 hg6))
        clear k0 k1 k2 k3 k4 k5 k6 k7 k8 k9 g0 g1 g2
        have HC6 := Lib.hid (hb_grown HC3.out HG6.out (by simp; omega))
        have HH6 := Lib.hid (hb_grown HH3.out HG6.out (by simp; omega))
        have HBW6 : RowKit.Hid (Below w.heap.size w w6) := Lib.hid (HBW3.out.grown HG6.out HBW3.out.size (fun j hj => by cases hj; omega))
        clear HC3 HH3 HW3 HBW3 HG6
        obtain ⟨k0, k1, k2, k3, k4, k5, k6, k7, k8, k9⟩ := cmd_cells HC6.out
        obtain ⟨g0, g1, g2⟩ := has_cells HH6.out
        have hT6 : (text (many Cx.uv [c.b.v.a.toNat, c.b.v.b.toNat, c.b.v.c.toNat] :: many txt [c.b.p] :: [many Cx.uv [c.k.toNat]])).length ≤ 2000 := by rw [text_cons, text_cons]; omega
        cases S with
        | false =>
          have HLEN : RowKit.Hid ((text (pcsOf c false true false)).length ≤ 1000000) := Lib.hid (by show (text (many Cx.uv [c.b.v.a.toNat, c.b.v.b.toNat, c.b.v.c.toNat] :: many txt [c.b.p] :: [many Cx.uv [c.k.toNat]])).length ≤ _; omega)
          have HWF : RowKit.Hid (Wr w6 w1.heap.size (pcsOf c false true false)) := Lib.hid (by exact HW6.out)
          go_wp2_with (go_at_call 26; ((with_reducible refine (wString_any w1.heap.size (pcsOf c false true false) _ (by exact HWF.out) (pcs_ne c false true false) (by exact HLEN.out)).mono ?_); rintro e w9 ⟨rfl, hb9⟩; rw [HTX.out]))
          go_ret2
          exact ⟨rfl, HBW6.out.trans (hb9.mono HBW6.out.size)⟩
        | true =>
          have lts := lenT1 c.s (by omega)
          have HLEN : RowKit.Hid ((text (pcsOf c false true true)).length ≤ 1000000) := Lib.hid (by show (text (many txt [c.s] :: many Cx.uv [c.b.v.a.toNat, c.b.v.b.toNat, c.b.v.c.toNat] :: many txt [c.b.p] :: [many Cx.uv [c.k.toNat]])).length ≤ _; rw [text_cons]; omega)
          have hpl : (text (many Cx.uv [c.b.v.a.toNat, c.b.v.b.toNat, c.b.v.c.toNat] :: many txt [c.b.p] :: [many Cx.uv [c.k.toNat]])).length ≤ 1000000 := by omega
          have hsl : (many txt [c.s]).length ≤ 1000000 := by omega
          go_upto_region 11 with fail
          go_region_with (go_at_call 25; (refine (wT_list w1.heap.size (many Cx.uv [c.b.v.a.toNat, c.b.v.b.toNat, c.b.v.c.toNat] :: many txt [c.b.p] :: [many Cx.uv [c.k.toNat]]) _ 1 [c.s] _ (by exact HW6.out.one _) hpl (by simp) hsl (by exact one_at (new_one' _ _ _) Value.string c.s rfl)).mono ?_; rintro e w7 ⟨rfl, h7, hg7⟩; have HW7 := Lib.hid h7; have HG7 := Lib.hid (grown_undrew hg7); clear h7 hg7))
          all_goals
            clear k0 k1 k2 k3 k4 k5 k6 k7 k8 k9 g0 g1 g2
            have HBW7 : RowKit.Hid (Below w.heap.size w w7) := Lib.hid ((HBW6.out.alloc HBW6.out.size _).grown HG7.out (by have := HBW6.out.size; simp at this ⊢; omega) (fun j hj => by cases hj; omega))
            have HWF : RowKit.Hid (Wr w7 w1.heap.size (pcsOf c false true true)) := Lib.hid (by exact HW7.out)
            go_wp2_with (go_at_call 26; ((with_reducible refine (wString_any w1.heap.size (pcsOf c false true true) _ (by exact HWF.out) (pcs_ne c false true true) (by exact HLEN.out)).mono ?_); rintro e w9 ⟨rfl, hb9⟩; rw [HTX.out]))
            go_ret2
            exact ⟨rfl, HBW7.out.trans (hb9.mono HBW7.out.size)⟩
    | true =>
      obtain ⟨hpla, hpva⟩ := HPV.out rfl
      have HPVVa := Lib.hid hpva
      have l3a := lenU3 c.a.v.a.toNat c.a.v.b.toNat c.a.v.c.toNat (by omega) (by omega) (by omega)
      have lta := lenT1 c.a.p (by omega)
      clear hpva
      go_upto_region 8 with (go_at_call 24; go_loud ((with_reducible refine (wPin_int w1.heap.size ([many Cx.uv [c.k.toNat]]) c.a _ (by exact HW3.out) (by omega) (by omega) HPVVa.out).mono ?_); rintro e w5 ⟨rfl, h5, hg5⟩; have HW5 := Lib.hid h5; have HG5 := Lib.hid hg5; clear h5 hg5))
      clear k0 k1 k2 k3 k4 k5 k6 k7 k8 k9 g0 g1 g2
      have HC5 := Lib.hid (hb_grown HC3.out HG5.out (by simp; omega))
      have HH5 := Lib.hid (hb_grown HH3.out HG5.out (by simp; omega))
      have HBW5 : RowKit.Hid (Below w.heap.size w w5) := Lib.hid (HBW3.out.grown HG5.out HBW3.out.size (fun j hj => by cases hj; omega))
      clear HC3 HH3 HW3 HBW3 HG5
      obtain ⟨k0, k1, k2, k3, k4, k5, k6, k7, k8, k9⟩ := cmd_cells HC5.out
      obtain ⟨g0, g1, g2⟩ := has_cells HH5.out
      have hT5 : (text (many Cx.uv [c.a.v.a.toNat, c.a.v.b.toNat, c.a.v.c.toNat] :: many txt [c.a.p] :: [many Cx.uv [c.k.toNat]])).length ≤ 1000 := by rw [text_cons, text_cons]; omega
      cases O with
      | false =>
        go_upto_region 10 with fail
        cases S with
        | false =>
          have HLEN : RowKit.Hid ((text (pcsOf c true false false)).length ≤ 1000000) := Lib.hid (by show (text (many Cx.uv [c.a.v.a.toNat, c.a.v.b.toNat, c.a.v.c.toNat] :: many txt [c.a.p] :: [many Cx.uv [c.k.toNat]])).length ≤ _; omega)
          have HWF : RowKit.Hid (Wr w5 w1.heap.size (pcsOf c true false false)) := Lib.hid (by exact HW5.out)
          go_wp2_with (go_at_call 26; ((with_reducible refine (wString_any w1.heap.size (pcsOf c true false false) _ (by exact HWF.out) (pcs_ne c true false false) (by exact HLEN.out)).mono ?_); rintro e w9 ⟨rfl, hb9⟩; rw [HTX.out]))
          go_ret2
          exact ⟨rfl, HBW5.out.trans (hb9.mono HBW5.out.size)⟩
        | true =>
          have lts := lenT1 c.s (by omega)
          have HLEN : RowKit.Hid ((text (pcsOf c true false true)).length ≤ 1000000) := Lib.hid (by show (text (many txt [c.s] :: many Cx.uv [c.a.v.a.toNat, c.a.v.b.toNat, c.a.v.c.toNat] :: many txt [c.a.p] :: [many Cx.uv [c.k.toNat]])).length ≤ _; rw [text_cons]; omega)
          have hpl : (text (many Cx.uv [c.a.v.a.toNat, c.a.v.b.toNat, c.a.v.c.toNat] :: many txt [c.a.p] :: [many Cx.uv [c.k.toNat]])).length ≤ 1000000 := by omega
          have hsl : (many txt [c.s]).length ≤ 1000000 := by omega
          go_upto_region 11 with fail
          go_region_with (go_at_call 25; (refine (wT_list w1.heap.size (many Cx.uv [c.a.v.a.toNat, c.a.v.b.toNat, c.a.v.c.toNat] :: many txt [c.a.p] :: [many Cx.uv [c.k.toNat]]) _ 1 [c.s] _ (by exact HW5.out.one _) hpl (by simp) hsl (by exact one_at (new_one' _ _ _) Value.string c.s rfl)).mono ?_; rintro e w7 ⟨rfl, h7, hg7⟩; have HW7 := Lib.hid h7; have HG7 := Lib.hid (grown_undrew hg7); clear h7 hg7))
          all_goals
            clear k0 k1 k2 k3 k4 k5 k6 k7 k8 k9 g0 g1 g2
            have HBW7 : RowKit.Hid (Below w.heap.size w w7) := Lib.hid ((HBW5.out.alloc HBW5.out.size _).grown HG7.out (by have := HBW5.out.size; simp at this ⊢; omega) (fun j hj => by cases hj; omega))
            have HWF : RowKit.Hid (Wr w7 w1.heap.size (pcsOf c true false true)) := Lib.hid (by exact HW7.out)
            go_wp2_with (go_at_call 26; ((with_reducible refine (wString_any w1.heap.size (pcsOf c true false true) _ (by exact HWF.out) (pcs_ne c true false true) (by exact HLEN.out)).mono ?_); rintro e w9 ⟨rfl, hb9⟩; rw [HTX.out]))
            go_ret2
            exact ⟨rfl, HBW7.out.trans (hb9.mono HBW7.out.size)⟩
      | true =>
        obtain ⟨hplb, hpvb⟩ := HOV.out rfl
        have HPVVb := Lib.hid hpvb
        have l3b := lenU3 c.b.v.a.toNat c.b.v.b.toNat c.b.v.c.toNat (by omega) (by omega) (by omega)
        have ltb := lenT1 c.b.p (by omega)
        clear hpvb
        go_upto_region 10 with (go_at_call 24; go_loud ((with_reducible refine (wPin_int w1.heap.size (many Cx.uv [c.a.v.a.toNat, c.a.v.b.toNat, c.a.v.c.toNat] :: many txt [c.a.p] :: [many Cx.uv [c.k.toNat]]) c.b _ (by exact HW5.out) (by omega) (by omega) HPVVb.out).mono ?_); rintro e w6 ⟨rfl, h6, hg6⟩; have HW6 := Lib.hid h6; have HG6 := Lib.hid hg6; clear h6 hg6))
        clear k0 k1 k2 k3 k4 k5 k6 k7 k8 k9 g0 g1 g2
        have HC6 := Lib.hid (hb_grown HC5.out HG6.out (by simp; omega))
        have HH6 := Lib.hid (hb_grown HH5.out HG6.out (by simp; omega))
        have HBW6 : RowKit.Hid (Below w.heap.size w w6) := Lib.hid (HBW5.out.grown HG6.out HBW5.out.size (fun j hj => by cases hj; omega))
        clear HC5 HH5 HW5 HBW5 HG6
        obtain ⟨k0, k1, k2, k3, k4, k5, k6, k7, k8, k9⟩ := cmd_cells HC6.out
        obtain ⟨g0, g1, g2⟩ := has_cells HH6.out
        have hT6 : (text (many Cx.uv [c.b.v.a.toNat, c.b.v.b.toNat, c.b.v.c.toNat] :: many txt [c.b.p] :: many Cx.uv [c.a.v.a.toNat, c.a.v.b.toNat, c.a.v.c.toNat] :: many txt [c.a.p] :: [many Cx.uv [c.k.toNat]])).length ≤ 2000 := by rw [text_cons, text_cons]; omega
        cases S with
        | false =>
          have HLEN : RowKit.Hid ((text (pcsOf c true true false)).length ≤ 1000000) := Lib.hid (by show (text (many Cx.uv [c.b.v.a.toNat, c.b.v.b.toNat, c.b.v.c.toNat] :: many txt [c.b.p] :: many Cx.uv [c.a.v.a.toNat, c.a.v.b.toNat, c.a.v.c.toNat] :: many txt [c.a.p] :: [many Cx.uv [c.k.toNat]])).length ≤ _; omega)
          have HWF : RowKit.Hid (Wr w6 w1.heap.size (pcsOf c true true false)) := Lib.hid (by exact HW6.out)
          go_wp2_with (go_at_call 26; ((with_reducible refine (wString_any w1.heap.size (pcsOf c true true false) _ (by exact HWF.out) (pcs_ne c true true false) (by exact HLEN.out)).mono ?_); rintro e w9 ⟨rfl, hb9⟩; rw [HTX.out]))
          go_ret2
          exact ⟨rfl, HBW6.out.trans (hb9.mono HBW6.out.size)⟩
        | true =>
          have lts := lenT1 c.s (by omega)
          have HLEN : RowKit.Hid ((text (pcsOf c true true true)).length ≤ 1000000) := Lib.hid (by show (text (many txt [c.s] :: many Cx.uv [c.b.v.a.toNat, c.b.v.b.toNat, c.b.v.c.toNat] :: many txt [c.b.p] :: many Cx.uv [c.a.v.a.toNat, c.a.v.b.toNat, c.a.v.c.toNat] :: many txt [c.a.p] :: [many Cx.uv [c.k.toNat]])).length ≤ _; rw [text_cons]; omega)
          have hpl : (text (many Cx.uv [c.b.v.a.toNat, c.b.v.b.toNat, c.b.v.c.toNat] :: many txt [c.b.p] :: many Cx.uv [c.a.v.a.toNat, c.a.v.b.toNat, c.a.v.c.toNat] :: many txt [c.a.p] :: [many Cx.uv [c.k.toNat]])).length ≤ 1000000 := by omega
          have hsl : (many txt [c.s]).length ≤ 1000000 := by omega
          go_upto_region 11 with fail
          go_region_with (go_at_call 25; (refine (wT_list w1.heap.size (many Cx.uv [c.b.v.a.toNat, c.b.v.b.toNat, c.b.v.c.toNat] :: many txt [c.b.p] :: many Cx.uv [c.a.v.a.toNat, c.a.v.b.toNat, c.a.v.c.toNat] :: many txt [c.a.p] :: [many Cx.uv [c.k.toNat]]) _ 1 [c.s] _ (by exact HW6.out.one _) hpl (by simp) hsl (by exact one_at (new_one' _ _ _) Value.string c.s rfl)).mono ?_; rintro e w7 ⟨rfl, h7, hg7⟩; have HW7 := Lib.hid h7; have HG7 := Lib.hid (grown_undrew hg7); clear h7 hg7))
          all_goals
            clear k0 k1 k2 k3 k4 k5 k6 k7 k8 k9 g0 g1 g2
            have HBW7 : RowKit.Hid (Below w.heap.size w w7) := Lib.hid ((HBW6.out.alloc HBW6.out.size _).grown HG7.out (by have := HBW6.out.size; simp at this ⊢; omega) (fun j hj => by cases hj; omega))
            have HWF : RowKit.Hid (Wr w7 w1.heap.size (pcsOf c true true true)) := Lib.hid (by exact HW7.out)
            go_wp2_with (go_at_call 26; ((with_reducible refine (wString_any w1.heap.size (pcsOf c true true true) _ (by exact HWF.out) (pcs_ne c true true true) (by exact HLEN.out)).mono ?_); rintro e w9 ⟨rfl, hb9⟩; rw [HTX.out]))
            go_ret2
            exact ⟨rfl, HBW7.out.trans (hb9.mono HBW7.out.size)⟩
theorem cmdEncode_any (c : Cm.Cmd) (w : World) : Calls Try.prog 8 #[cmdv c] w fun e w' => e = .returned (.tuple #[.string (Cm.encS c).1, .int .i64 (Cm.encS c).2]) ∧ Below w.heap.size w w' := by
  rcases h : Cm.rightB c with _ | _
  · rw [Cm.encS_no h]; exact enc_no c h w
  · rw [Cm.encS_yes h]; exact enc_yes c h w
end Go.Proofs.Ytfbfdkjimoomlaa
