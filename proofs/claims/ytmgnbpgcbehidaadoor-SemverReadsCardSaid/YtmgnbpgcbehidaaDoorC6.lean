/- Contracts: the document's ParsePin. -/
import Derived.Test.YtmgnbpgcbehidaaDoorC3
import Derived.Test.YtmgnbpgcbehidaaDoorC4
import Derived.Test.YtmgnbpgcbehidaaDoorC5
import Derived.Outline
import Derived.Deep.DeepCutAuto
namespace Go.Proofs.YtmgnbpgcbehidaaDoor
open Go.RowKit
namespace Sv
theorem index_is {l : List UInt8} {c : UInt8} {k : Nat} (h : l[k]? = some c) (hn : ∀ j, j < k → l[j]? ≠ some c) : Lib.indexByte l c = k := by
  rcases index_cases l c with hi | ⟨j, hi⟩
  · exact absurd h (Lib.indexByte_none hi k)
  · obtain ⟨h1, h2⟩ := Lib.indexByte_some hi
    rcases Nat.lt_trichotomy j k with hlt | rfl | hlt
    · exact absurd h1 (hn j hlt)
    · exact hi
    · exact absurd h (h2 k hlt)
theorem index_not {l : List UInt8} {c : UInt8} (hn : ∀ j, j < l.length → l[j]? ≠ some c) : Lib.indexByte l c = -1 := by
  rcases index_cases l c with hi | ⟨j, hi⟩
  · exact hi
  · have h1 := (Lib.indexByte_some hi).1
    exact absurd h1 (hn j (List.getElem?_eq_some_iff.1 h1).1)
theorem cut_is {s : ByteArray} {c : UInt8} {k : Nat} (h : Lib.indexByte s.data.toList c = k) : cutS s c = (s.extract 0 k, s.extract (k + 1) s.size, true) := by
  have hn : ¬ Lib.indexByte s.data.toList c = -1 := by omega
  unfold cutS
  rw [if_neg hn, h]
  rfl
theorem okS_empty : okS ⟨#[]⟩ = false := by decide +kernel
end Sv
set_option maxRecDepth 100000 in
set_option maxHeartbeats 4000000 in
theorem refPin_any (s : ByteArray) (hm : s.size ≤ 4194304) (w : World) : Calls Tryd.prog 8 #[.string s] w fun e w' => e = .returned (pv (Sv.pinV s)) ∧ Below w.heap.size w w' := by
  have hb1 := hb_new w (.cells #[.string ⟨#[]⟩, .int .i64 0, .int .i64 0, .int .i64 0] 31)
  have HB := Lib.hid hb1
  have HB0 : RowKit.Hid (Below w.heap.size w (w.alloc (.cells #[.string ⟨#[]⟩, .int .i64 0, .int .i64 0, .int .i64 0] 31))) := Lib.hid (below_alloc w _)
  have HSZ0 : RowKit.Hid ((w.alloc (.cells #[.string ⟨#[]⟩, .int .i64 0, .int .i64 0, .int .i64 0] 31)).heap.size = w.heap.size + 1) := Lib.hid (by simp)
  clear hb1
  have HL : RowKit.Hid (s.data.toList.length = s.size) := Lib.hid (data_len s)
  have HQ : RowKit.Hid (∀ k (h : k < s.size), s.data.toList[k]? = some s[k]) := Lib.hid (fun k h => by
    have hk : k < s.data.toList.length := by rw [data_len]; exact h
    rw [List.getElem?_eq_getElem hk, data_at s k h hk])
  go_enter Tryd.func8, Tryd.ntmps8
  go_wp2
  generalize hW0 : w.alloc (.cells #[.string ⟨#[]⟩, .int .i64 0, .int .i64 0, .int .i64 0] 31) = W at *
  clear hW0
  have x0 := hb_at HB.out 0 rfl
  have x1 := hb_at HB.out 1 rfl
  have x2 := hb_at HB.out 2 rfl
  have x3 := hb_at HB.out 3 rfl
  have f0 := hb_free HB.out 0
  have f1 := hb_free HB.out 1
  have f2 := hb_free HB.out 2
  have f3 := hb_free HB.out 3
  go_loop [4] (fun q => ∃ k : Nat, k ≤ s.size ∧ q = .int .i64 k ∧ (∀ j, j < k → s.data.toList[j]? ≠ some 64)) (fun q => s.size - (intOf q).toNat)
  case atStart => exact ⟨0, Nat.zero_le _, rfl, fun j h => absurd h (Nat.not_lt_zero j)⟩
  case round =>
    obtain ⟨k, hk, rfl, hn⟩ := hrel
    have HN := Lib.hid hn
    clear hn
    by_cases hlt : k < s.size
    · by_cases hc : s[k].toNat = 64
      rotate_left
      · have p1 : ((s[k].toNat : Int) != 64) = true := by simp; omega
        have HC := Lib.hid hc
        clear hc
        go_wp2
        go_round
        case rel =>
          refine ⟨k + 1, by omega, by go_num, fun j hj => ?_⟩
          by_cases hjk : j < k
          · exact HN.out j hjk
          · obtain rfl : j = k := by omega
            rw [HQ.out j hlt]
            intro h
            exact HC.out (by rw [Option.some.inj h]; rfl)
        case measure => simp [intOf]; omega
      · have p1 : ((s[k].toNat : Int) != 64) = false := by rw [hc]; rfl
        have e0 : ((k : Int) == (s.size : Int)) = false := by simp; omega
        have HCUT : RowKit.Hid (Sv.cutS s 64 = (s.extract 0 k, s.extract (k + 1) s.size, true)) := Lib.hid (Sv.cut_is (Sv.index_is (by rw [HQ.out k hlt]; congr 1; exact UInt8.toNat_inj.1 hc) HN.out))
        clear hc
        have hs1 : (s.extract 0 k).size ≤ 4194304 := by simp [ByteArray.size_extract]; omega
        have hs2 : (s.extract (k + 1) s.size).size ≤ 4194304 := by simp [ByteArray.size_extract]; omega
        have HOK : RowKit.Hid (Sv.okPin s = (Sv.okS (s.extract (k + 1) s.size) && Sv.pkgB (s.extract 0 k).data.toList)) := Lib.hid (by unfold Sv.okPin; rw [HCUT.out])
        have HPY : RowKit.Hid (Sv.okPin s = true → Sv.pinV s = (s.extract 0 k, (Sv.parseS (s.extract (k + 1) s.size)).1, 0)) := Lib.hid (fun h => by rw [Sv.pin_yes h, HCUT.out])
        have HS1 := Lib.hid hs1
        have HS2 := Lib.hid hs2
        clear hs1 hs2
        have e1 : IntKind.i64.wrap ((k : Int) + 1) = (k : Int) + 1 := IntWalk.i64_in _ (by omega)
        have e2 : (0 : Int) ≤ (k : Int) + 1 := by omega
        have e3 : ((k : Int) + 1).toNat = k + 1 := by omega
        rcases Bool.eq_false_or_eq_true (Sv.pkgB (s.extract 0 k).data.toList) with hg | hg
        rotate_left
        · have HN2 : RowKit.Hid (Sv.okPin s = false) := Lib.hid (by rw [HOK.out, hg]; simp)
          have HI : RowKit.Hid (∀ w, Calls Tryd.prog 15 #[.string (s.extract 0 k)] w fun e w' => e = .returned (.bool false) ∧ w = w') := Lib.hid (fun w => by have := refIsPkg_any (s.extract 0 k) HS1.out w; rw [hg] at this; exact this)
          clear hg
          go_wp2_with (go_at_call 15; ((with_reducible refine (HI.out _).mono ?_); rintro e w3 ⟨rfl, rfl⟩))
          exact bodyPost_ret (v := .tuple #[.agg #[.string ⟨#[]⟩, .int .i64 0, .int .i64 0, .int .i64 0], .int .i64 10]) (by simp [results, Tryd.results8, go_sem, x0, x1, x2, x3]) rfl ⟨by rw [Sv.pin_no HN2.out]; rfl, ((((HB0.out.setCell (by simp) _).setCell (by simp) _).setCell (by simp) _).setCell (by simp) _)⟩
        · have HI : RowKit.Hid (∀ w, Calls Tryd.prog 15 #[.string (s.extract 0 k)] w fun e w' => e = .returned (.bool true) ∧ w = w') := Lib.hid (fun w => by have := refIsPkg_any (s.extract 0 k) HS1.out w; rw [hg] at this; exact this)
          rcases Bool.eq_false_or_eq_true (Sv.okS (s.extract (k + 1) s.size)) with ho | ho
          rotate_left
          · have hp := parse_fail ho
            have HP : RowKit.Hid (∀ w, Calls Tryd.prog 6 #[.string (s.extract (k + 1) s.size)] w fun e w' => e = .returned (.tuple #[.agg #[.int .i64 0, .int .i64 0, .int .i64 0], .int .i64 10]) ∧ Below w.heap.size w w') := Lib.hid (fun w => by have := refParse_any _ HS2.out w; rw [hp] at this; exact this)
            have HN2 : RowKit.Hid (Sv.okPin s = false) := Lib.hid (by rw [HOK.out, ho]; rfl)
            clear ho hp hg
            go_upto_region 7 with (first
              | (go_at_call 15; ((with_reducible refine (HI.out _).mono ?_); rintro e w3 ⟨rfl, rfl⟩))
              | (go_at_call 6; ((with_reducible refine (HP.out _).mono ?_); rintro e w2 ⟨rfl, hb2⟩)))
            have HBL : RowKit.Hid (Below w.heap.size w (w2.alloc (.cells #[.int .i64 0, .int .i64 0, .int .i64 0] 23))) := Lib.hid (by
              have h0 := HB0.out.size
              have h1 : Below w.heap.size w w2 := HB0.out.trans (hb2.mono h0)
              exact h1.trans ((below_alloc w2 _).mono h1.size))
            have hlt0 : w.heap.size < W.heap.size := by have := HSZ0.out; omega
            have HX := Lib.hid (hb_alloc (hb_below HB.out hb2 hlt0) (.cells #[.int .i64 0, .int .i64 0, .int .i64 0] 23))
            have HY := Lib.hid (hb_new w2 (.cells #[.int .i64 0, .int .i64 0, .int .i64 0] 23))
            have hz2 : w.heap.size < w2.heap.size := Nat.lt_of_lt_of_le hlt0 hb2.size
            have HZ := Lib.hid hz2
            clear hb2 hz2 x0 x1 x2 x3 f0 f1 f2 f3
            generalize hW : w2.alloc (.cells #[.int .i64 0, .int .i64 0, .int .i64 0] 23) = U at *
            have HSZ : RowKit.Hid (U.heap.size = w2.heap.size + 1) := Lib.hid (by rw [← hW]; simp)
            clear hW
            have z0 := hb_at HX.out 0 rfl
            have z1 := hb_at HX.out 1 rfl
            have z2 := hb_at HX.out 2 rfl
            have z3 := hb_at HX.out 3 rfl
            have f0 := hb_free HX.out 0
            have f1 := hb_free HX.out 1
            have f2 := hb_free HX.out 2
            have f3 := hb_free HX.out 3
            go_wp2
            exact bodyPost_ret (v := .tuple #[.agg #[.string ⟨#[]⟩, .int .i64 0, .int .i64 0, .int .i64 0], .int .i64 10]) (by simp [results, Tryd.results8, go_sem, z0, z1, z2, z3]) rfl ⟨by rw [Sv.pin_no HN2.out]; rfl, ((((HBL.out.setCell (by simp) _).setCell (by simp) _).setCell (by simp) _).setCell (by simp) _)⟩
          · have hp := parse_good ho
            have HN2 : RowKit.Hid (Sv.okPin s = true) := Lib.hid (by rw [HOK.out, ho, hg]; rfl)
            have HPV : RowKit.Hid ((Sv.parseS (s.extract (k + 1) s.size)).1 = ⟨Sv.nv (s.extract (k + 1) s.size), Sv.nv (Sv.r (s.extract (k + 1) s.size)), Sv.nv (Sv.r (Sv.r (s.extract (k + 1) s.size)))⟩) := Lib.hid (by rw [hp])
            have HP : RowKit.Hid (∀ w, Calls Tryd.prog 6 #[.string (s.extract (k + 1) s.size)] w fun e w' => e = .returned (.tuple #[.agg #[.int .i64 (Sv.nv (s.extract (k + 1) s.size) : Nat), .int .i64 (Sv.nv (Sv.r (s.extract (k + 1) s.size)) : Nat), .int .i64 (Sv.nv (Sv.r (Sv.r (s.extract (k + 1) s.size))) : Nat)], .int .i64 0]) ∧ Below w.heap.size w w') := Lib.hid (fun w => by have := refParse_any _ HS2.out w; rw [hp] at this; exact this)
            clear ho hp hg
            generalize Sv.nv (s.extract (k + 1) s.size) = n1 at *
            generalize Sv.nv (Sv.r (s.extract (k + 1) s.size)) = n2 at *
            generalize Sv.nv (Sv.r (Sv.r (s.extract (k + 1) s.size))) = n3 at *
            go_upto_region 7 with (first
              | (go_at_call 15; ((with_reducible refine (HI.out _).mono ?_); rintro e w3 ⟨rfl, rfl⟩))
              | (go_at_call 6; ((with_reducible refine (HP.out _).mono ?_); rintro e w2 ⟨rfl, hb2⟩)))
            have HBL : RowKit.Hid (Below w.heap.size w (w2.alloc (.cells #[.int .i64 (n1 : Nat), .int .i64 (n2 : Nat), .int .i64 (n3 : Nat)] 23))) := Lib.hid (by
              have h0 := HB0.out.size
              have h1 : Below w.heap.size w w2 := HB0.out.trans (hb2.mono h0)
              exact h1.trans ((below_alloc w2 _).mono h1.size))
            have hlt0 : w.heap.size < W.heap.size := by have := HSZ0.out; omega
            have HX := Lib.hid (hb_alloc (hb_below HB.out hb2 hlt0) (.cells #[.int .i64 (n1 : Nat), .int .i64 (n2 : Nat), .int .i64 (n3 : Nat)] 23))
            have HY := Lib.hid (hb_new w2 (.cells #[.int .i64 (n1 : Nat), .int .i64 (n2 : Nat), .int .i64 (n3 : Nat)] 23))
            have hz2 : w.heap.size < w2.heap.size := Nat.lt_of_lt_of_le hlt0 hb2.size
            have HZ := Lib.hid hz2
            clear hb2 hz2 x0 x1 x2 x3 f0 f1 f2 f3
            generalize hW : w2.alloc (.cells #[.int .i64 (n1 : Nat), .int .i64 (n2 : Nat), .int .i64 (n3 : Nat)] 23) = U at *
            have HSZ : RowKit.Hid (U.heap.size = w2.heap.size + 1) := Lib.hid (by rw [← hW]; simp)
            clear hW
            have z0 := hb_at HX.out 0 rfl
            have z1 := hb_at HX.out 1 rfl
            have z2 := hb_at HX.out 2 rfl
            have z3 := hb_at HX.out 3 rfl
            have f0 := hb_free HX.out 0
            have f1 := hb_free HX.out 1
            have f2 := hb_free HX.out 2
            have f3 := hb_free HX.out 3
            have y0 := hb_at HY.out 0 rfl
            have y1 := hb_at HY.out 1 rfl
            have y2 := hb_at HY.out 2 rfl
            go_upto_region 9 with fail
            go_region_with (fail)
            all_goals
              go_wp2
              exact bodyPost_ret (v := .tuple #[.agg #[.string (s.extract 0 k), .int .i64 (n1 : Nat), .int .i64 (n2 : Nat), .int .i64 (n3 : Nat)], .int .i64 0]) (by simp [results, Tryd.results8, go_sem, z0, z1, z2, z3]) rfl ⟨by rw [HPY.out HN2.out, HPV.out], by first | exact ((((HBL.out.setCell (by simp) _).setCell (by simp) _).setCell (by simp) _).setCell (by simp) _) | exact (((((below_drewN HBL.out _).setCell (by simp) _).setCell (by simp) _).setCell (by simp) _).setCell (by simp) _)⟩
    · obtain rfl : k = s.size := by omega
      have e0 : ((s.size : Int) == (s.size : Int)) = true := by simp
      have HN2 : RowKit.Hid (Sv.okPin s = false) := Lib.hid (by
        have hi : Lib.indexByte s.data.toList 64 = -1 := Sv.index_not (by rw [HL.out]; exact HN.out)
        unfold Sv.okPin
        rw [Sv.cut_no hi]
        show (Sv.okS ⟨#[]⟩ && _) = false
        rw [Sv.okS_empty]; rfl)
      go_wp2
      exact bodyPost_ret (v := .tuple #[.agg #[.string ⟨#[]⟩, .int .i64 0, .int .i64 0, .int .i64 0], .int .i64 10]) (by simp [results, Tryd.results8, go_sem, x0, x1, x2, x3]) rfl ⟨by rw [Sv.pin_no HN2.out]; rfl, ((((HB0.out.setCell (by simp) _).setCell (by simp) _).setCell (by simp) _).setCell (by simp) _)⟩
end Go.Proofs.YtmgnbpgcbehidaaDoor
