/- Contracts: the document's Parse. -/
import Derived.Test.YtmgnbpgcbehidaaDoorM3
import Derived.Outline
namespace Go.Proofs.YtmgnbpgcbehidaaDoor
open Go.RowKit
theorem num_bad (s : ByteArray) (i : Nat) (hi : i ≤ s.size) (hm : s.size ≤ 4194304) (h : ¬ Sv.NumR (s.data.toList.drop i)) (w : World) : Calls Tryd.prog 21 #[.string s, .int .i64 i] w fun e w' => e = .returned (.tuple #[.int .i64 0, .int .i64 (-1)]) ∧ w = w' :=
  (number_any s i hi hm w).mono fun e w' ⟨he, hw⟩ => ⟨by rw [he, nr, (Sv.r_no h i).1, (Sv.r_no h i).2], hw⟩
theorem num_good (s : ByteArray) (i k v : Nat) (hi : i ≤ s.size) (hm : s.size ≤ 4194304) (h : Sv.NumR (s.data.toList.drop i)) (hk : i + (Sv.run (s.data.toList.drop i)).length = k) (hv : Sv.val (Sv.run (s.data.toList.drop i)) = v) (w : World) : Calls Tryd.prog 21 #[.string s, .int .i64 i] w fun e w' => e = .returned (.tuple #[.int .i64 (v : Nat), .int .i64 (k : Nat)]) ∧ w = w' :=
  (number_any s i hi hm w).mono fun e w' ⟨he, hw⟩ => ⟨by rw [he, nr, (Sv.r_yes h i).1, (Sv.r_yes h i).2, hk, hv], hw⟩
namespace Sv
theorem okA {s : ByteArray} (h : (nb s && m s) = false) : okS s = false := by unfold okS; rw [h]; rfl
theorem okB {s : ByteArray} (h0 : nb s = true) (h1 : m s = true) (h : (nb (r s) && m (r s)) = false) : okS s = false := by
  unfold okS; rw [h0, h1]
  cases hb : nb (r s) with
  | false => rfl
  | true => rw [hb] at h; simp at h; rw [h]; rfl
theorem okC {s : ByteArray} (h0 : nb s = true) (h1 : m s = true) (h2 : nb (r s) = true) (h3 : m (r s) = true) : okS s = (nb (r (r s)) && !m (r (r s))) := by
  unfold okS; rw [h0, h1, h2, h3]; rfl
end Sv
set_option maxRecDepth 100000 in
set_option maxHeartbeats 4000000 in
theorem refParse_any (s : ByteArray) (hm : s.size ≤ 4194304) (w : World) : Calls Tryd.prog 6 #[.string s] w fun e w' => e = .returned (nx (Sv.parseS s)) ∧ Below w.heap.size w w' := by
  have hb1 := hb_new w (.cells #[.int .i64 0, .int .i64 0, .int .i64 0] 23)
  have q0 := hb_at hb1 0 rfl
  have q1 := hb_at hb1 1 rfl
  have q2 := hb_at hb1 2 rfl
  have g0 := hb_free hb1 0
  have g1 := hb_free hb1 1
  have g2 := hb_free hb1 2
  clear hb1
  have HL : RowKit.Hid (s.data.toList.length = s.size) := Lib.hid (data_len s)
  have HQ : RowKit.Hid (∀ k (h : k < s.size), s.data.toList[k]? = some s[k]) := Lib.hid (fun k h => by
    have hk : k < s.data.toList.length := by rw [data_len]; exact h
    rw [List.getElem?_eq_getElem hk, data_at s k h hk])
  have hd0 : s.data.toList.drop 0 = s.data.toList := rfl
  have HD0 := Lib.hid hd0
  clear hd0
  have X0 : RowKit.Hid (s.data.toList = s.data.toList.drop 0) := Lib.hid rfl
  by_cases hn0 : Sv.NumR (s.data.toList.drop 0)
  rotate_left
  · have HA : RowKit.Hid (¬ (Sv.NumR s.data.toList ∧ s.data.toList[(Sv.run s.data.toList).length]? = some 46)) := Lib.hid (by rw [X0.out]; exact fun h => hn0 h.1)
    have C0 : RowKit.Hid (∀ w, Calls Tryd.prog 21 #[.string s, .int .i64 0] w fun e w' => e = .returned (.tuple #[.int .i64 0, .int .i64 (-1)]) ∧ w = w') := Lib.hid (fun w => by have h := num_bad s 0 (by omega) hm hn0 w; rwa [show ((0 : Nat) : Int) = 0 from by omega] at h)
    clear hn0
    go_enter Tryd.func6, Tryd.ntmps6
    go_wp2_with (first | (go_at_call 21; ((with_reducible refine (C0.out _).mono ?_); rintro e w1 ⟨rfl, rfl⟩)))
    have ok : Sv.okS s = false := Sv.okA (Sv.stepA HA.out)
    exact bodyPost_ret (v := .tuple #[.agg #[.int .i64 0, .int .i64 0, .int .i64 0], .int .i64 10]) (by simp [results, Tryd.results6, go_sem, q0, q1, q2]) rfl ⟨by rw [parse_fail ok]; rfl, below_alloc w _⟩
  obtain ⟨k0, hk0⟩ : ∃ k, 0 + (Sv.run (s.data.toList.drop 0)).length = k := ⟨_, rfl⟩
  obtain ⟨v0, hv0⟩ : ∃ v, Sv.val (Sv.run (s.data.toList.drop 0)) = v := ⟨_, rfl⟩
  have C0 : RowKit.Hid (∀ w, Calls Tryd.prog 21 #[.string s, .int .i64 0] w fun e w' => e = .returned (.tuple #[.int .i64 (v0 : Nat), .int .i64 (k0 : Nat)]) ∧ w = w') := Lib.hid (fun w => by have h := num_good s 0 k0 v0 (by omega) hm hn0 hk0 hv0 w; rwa [show ((0 : Nat) : Int) = 0 from by omega] at h)
  have HN0 := Lib.hid hn0
  have HV0 := Lib.hid hv0
  have HK0 := Lib.hid hk0
  have hle0 : k0 ≤ s.size := by have h := Sv.run_le (s.data.toList.drop 0); rw [List.length_drop, HL.out] at h; omega
  clear hn0 hv0 hk0
  by_cases hlt0 : k0 < s.size
  rotate_left
  · have HA : RowKit.Hid (¬ (Sv.NumR s.data.toList ∧ s.data.toList[(Sv.run s.data.toList).length]? = some 46)) := Lib.hid (by
      rw [X0.out]
      intro h
      have h2 := h.2
      rw [List.getElem?_drop, HK0.out, List.getElem?_eq_none (by rw [HL.out]; omega)] at h2
      cases h2)
    have d0 : decide ((s.size : Int) ≤ (k0 : Int)) = true := by simp; omega
    go_enter Tryd.func6, Tryd.ntmps6
    go_wp2_with (first | (go_at_call 21; ((with_reducible refine (C0.out _).mono ?_); rintro e w1 ⟨rfl, rfl⟩)))
    have ok : Sv.okS s = false := Sv.okA (Sv.stepA HA.out)
    exact bodyPost_ret (v := .tuple #[.agg #[.int .i64 0, .int .i64 0, .int .i64 0], .int .i64 10]) (by simp [results, Tryd.results6, go_sem, q0, q1, q2]) rfl ⟨by rw [parse_fail ok]; rfl, below_alloc w _⟩
  by_cases hp0 : s[k0].toNat = 46
  rotate_left
  · have HA : RowKit.Hid (¬ (Sv.NumR s.data.toList ∧ s.data.toList[(Sv.run s.data.toList).length]? = some 46)) := Lib.hid (by
      rw [X0.out]
      intro h
      have h2 := h.2
      rw [List.getElem?_drop, HK0.out, HQ.out k0 hlt0] at h2
      exact hp0 (by rw [Option.some.inj h2]; rfl))
    have d0 : decide ((s.size : Int) ≤ (k0 : Int)) = false := by simp; omega
    have p0 : ((s[k0].toNat : Int) != 46) = true := by simp; omega
    clear hp0
    go_enter Tryd.func6, Tryd.ntmps6
    go_wp2_with (first | (go_at_call 21; ((with_reducible refine (C0.out _).mono ?_); rintro e w1 ⟨rfl, rfl⟩)))
    have ok : Sv.okS s = false := Sv.okA (Sv.stepA HA.out)
    exact bodyPost_ret (v := .tuple #[.agg #[.int .i64 0, .int .i64 0, .int .i64 0], .int .i64 10]) (by simp [results, Tryd.results6, go_sem, q0, q1, q2]) rfl ⟨by rw [parse_fail ok]; rfl, below_alloc w _⟩
  have P0 : RowKit.Hid (s.data.toList[k0]? = some 46) := Lib.hid (by rw [HQ.out k0 hlt0]; congr 1; exact UInt8.toNat_inj.1 hp0)
  have d0 : decide ((s.size : Int) ≤ (k0 : Int)) = false := by simp; omega
  have p0 : ((s[k0].toNat : Int) != 46) = false := by rw [hp0]; rfl
  clear hp0
  have HS0 : RowKit.Hid (_ ∧ _ ∧ _ ∧ _) := Lib.hid (Sv.stepB (s := s) (by rw [X0.out]; exact HN0.out) (by rw [X0.out, List.getElem?_drop, HK0.out]; exact P0.out))
  have B0 := Lib.hid HS0.out.1
  have M0 := Lib.hid HS0.out.2.1
  have N0 : RowKit.Hid (Sv.nv s = v0) := Lib.hid (by rw [HS0.out.2.2.1, X0.out]; exact HV0.out)
  have X1 : RowKit.Hid ((Sv.r s).data.toList = s.data.toList.drop (k0 + 1)) := Lib.hid (by rw [HS0.out.2.2.2, X0.out, List.drop_drop, ← HK0.out]; rfl)
  by_cases hn1 : Sv.NumR (s.data.toList.drop (k0 + 1))
  rotate_left
  · have HA : RowKit.Hid (¬ (Sv.NumR (Sv.r s).data.toList ∧ (Sv.r s).data.toList[(Sv.run (Sv.r s).data.toList).length]? = some 46)) := Lib.hid (by rw [X1.out]; exact fun h => hn1 h.1)
    have C1 : RowKit.Hid (∀ w, Calls Tryd.prog 21 #[.string s, .int .i64 ((k0 : Int) + 1)] w fun e w' => e = .returned (.tuple #[.int .i64 0, .int .i64 (-1)]) ∧ w = w') := Lib.hid (fun w => by have h := num_bad s (k0 + 1) (by omega) hm hn1 w; rwa [show (((k0 + 1) : Nat) : Int) = ((k0 : Int) + 1) from by omega] at h)
    clear hn1
    go_enter Tryd.func6, Tryd.ntmps6
    go_wp2_with (first | (go_at_call 21; ((with_reducible refine (C0.out _).mono ?_); rintro e w1 ⟨rfl, rfl⟩)) | (go_at_call 21; ((with_reducible refine (C1.out _).mono ?_); rintro e w1 ⟨rfl, rfl⟩)))
    have ok : Sv.okS s = false := Sv.okB B0.out M0.out (Sv.stepA HA.out)
    exact bodyPost_ret (v := .tuple #[.agg #[.int .i64 0, .int .i64 0, .int .i64 0], .int .i64 10]) (by simp [results, Tryd.results6, go_sem, q0, q1, q2]) rfl ⟨by rw [parse_fail ok]; rfl, below_alloc w _⟩
  obtain ⟨k1, hk1⟩ : ∃ k, (k0 + 1) + (Sv.run (s.data.toList.drop (k0 + 1))).length = k := ⟨_, rfl⟩
  obtain ⟨v1, hv1⟩ : ∃ v, Sv.val (Sv.run (s.data.toList.drop (k0 + 1))) = v := ⟨_, rfl⟩
  have C1 : RowKit.Hid (∀ w, Calls Tryd.prog 21 #[.string s, .int .i64 ((k0 : Int) + 1)] w fun e w' => e = .returned (.tuple #[.int .i64 (v1 : Nat), .int .i64 (k1 : Nat)]) ∧ w = w') := Lib.hid (fun w => by have h := num_good s (k0 + 1) k1 v1 (by omega) hm hn1 hk1 hv1 w; rwa [show (((k0 + 1) : Nat) : Int) = ((k0 : Int) + 1) from by omega] at h)
  have HN1 := Lib.hid hn1
  have HV1 := Lib.hid hv1
  have HK1 := Lib.hid hk1
  have hle1 : k1 ≤ s.size := by have h := Sv.run_le (s.data.toList.drop (k0 + 1)); rw [List.length_drop, HL.out] at h; omega
  clear hn1 hv1 hk1
  by_cases hlt1 : k1 < s.size
  rotate_left
  · have HA : RowKit.Hid (¬ (Sv.NumR (Sv.r s).data.toList ∧ (Sv.r s).data.toList[(Sv.run (Sv.r s).data.toList).length]? = some 46)) := Lib.hid (by
      rw [X1.out]
      intro h
      have h2 := h.2
      rw [List.getElem?_drop, HK1.out, List.getElem?_eq_none (by rw [HL.out]; omega)] at h2
      cases h2)
    have d1 : decide ((s.size : Int) ≤ (k1 : Int)) = true := by simp; omega
    go_enter Tryd.func6, Tryd.ntmps6
    go_wp2_with (first | (go_at_call 21; ((with_reducible refine (C0.out _).mono ?_); rintro e w1 ⟨rfl, rfl⟩)) | (go_at_call 21; ((with_reducible refine (C1.out _).mono ?_); rintro e w1 ⟨rfl, rfl⟩)))
    have ok : Sv.okS s = false := Sv.okB B0.out M0.out (Sv.stepA HA.out)
    exact bodyPost_ret (v := .tuple #[.agg #[.int .i64 0, .int .i64 0, .int .i64 0], .int .i64 10]) (by simp [results, Tryd.results6, go_sem, q0, q1, q2]) rfl ⟨by rw [parse_fail ok]; rfl, below_alloc w _⟩
  by_cases hp1 : s[k1].toNat = 46
  rotate_left
  · have HA : RowKit.Hid (¬ (Sv.NumR (Sv.r s).data.toList ∧ (Sv.r s).data.toList[(Sv.run (Sv.r s).data.toList).length]? = some 46)) := Lib.hid (by
      rw [X1.out]
      intro h
      have h2 := h.2
      rw [List.getElem?_drop, HK1.out, HQ.out k1 hlt1] at h2
      exact hp1 (by rw [Option.some.inj h2]; rfl))
    have d1 : decide ((s.size : Int) ≤ (k1 : Int)) = false := by simp; omega
    have p1 : ((s[k1].toNat : Int) != 46) = true := by simp; omega
    clear hp1
    go_enter Tryd.func6, Tryd.ntmps6
    go_wp2_with (first | (go_at_call 21; ((with_reducible refine (C0.out _).mono ?_); rintro e w1 ⟨rfl, rfl⟩)) | (go_at_call 21; ((with_reducible refine (C1.out _).mono ?_); rintro e w1 ⟨rfl, rfl⟩)))
    have ok : Sv.okS s = false := Sv.okB B0.out M0.out (Sv.stepA HA.out)
    exact bodyPost_ret (v := .tuple #[.agg #[.int .i64 0, .int .i64 0, .int .i64 0], .int .i64 10]) (by simp [results, Tryd.results6, go_sem, q0, q1, q2]) rfl ⟨by rw [parse_fail ok]; rfl, below_alloc w _⟩
  have P1 : RowKit.Hid (s.data.toList[k1]? = some 46) := Lib.hid (by rw [HQ.out k1 hlt1]; congr 1; exact UInt8.toNat_inj.1 hp1)
  have d1 : decide ((s.size : Int) ≤ (k1 : Int)) = false := by simp; omega
  have p1 : ((s[k1].toNat : Int) != 46) = false := by rw [hp1]; rfl
  clear hp1
  have HS1 : RowKit.Hid (_ ∧ _ ∧ _ ∧ _) := Lib.hid (Sv.stepB (s := (Sv.r s)) (by rw [X1.out]; exact HN1.out) (by rw [X1.out, List.getElem?_drop, HK1.out]; exact P1.out))
  have B1 := Lib.hid HS1.out.1
  have M1 := Lib.hid HS1.out.2.1
  have N1 : RowKit.Hid (Sv.nv (Sv.r s) = v1) := Lib.hid (by rw [HS1.out.2.2.1, X1.out]; exact HV1.out)
  have X2 : RowKit.Hid ((Sv.r (Sv.r s)).data.toList = s.data.toList.drop (k1 + 1)) := Lib.hid (by rw [HS1.out.2.2.2, X1.out, List.drop_drop, ← HK1.out]; rfl)
  by_cases hn2 : Sv.NumR (s.data.toList.drop (k1 + 1))
  rotate_left
  · have HA : RowKit.Hid (¬ (Sv.NumR (Sv.r (Sv.r s)).data.toList ∧ (Sv.run (Sv.r (Sv.r s)).data.toList).length = (Sv.r (Sv.r s)).data.toList.length)) := Lib.hid (by rw [X2.out]; exact fun h => hn2 h.1)
    have C2 : RowKit.Hid (∀ w, Calls Tryd.prog 21 #[.string s, .int .i64 ((k1 : Int) + 1)] w fun e w' => e = .returned (.tuple #[.int .i64 0, .int .i64 (-1)]) ∧ w = w') := Lib.hid (fun w => by have h := num_bad s (k1 + 1) (by omega) hm hn2 w; rwa [show (((k1 + 1) : Nat) : Int) = ((k1 : Int) + 1) from by omega] at h)
    clear hn2
    have e9 : ((-1 : Int) != (s.size : Int)) = true := by simp
    go_enter Tryd.func6, Tryd.ntmps6
    go_wp2_with (first | (go_at_call 21; ((with_reducible refine (C0.out _).mono ?_); rintro e w1 ⟨rfl, rfl⟩)) | (go_at_call 21; ((with_reducible refine (C1.out _).mono ?_); rintro e w1 ⟨rfl, rfl⟩)) | (go_at_call 21; ((with_reducible refine (C2.out _).mono ?_); rintro e w1 ⟨rfl, rfl⟩)))
    have ok : Sv.okS s = false := (Sv.okC B0.out M0.out B1.out M1.out).trans (Sv.lastA HA.out)
    exact bodyPost_ret (v := .tuple #[.agg #[.int .i64 0, .int .i64 0, .int .i64 0], .int .i64 10]) (by simp [results, Tryd.results6, go_sem, q0, q1, q2]) rfl ⟨by rw [parse_fail ok]; rfl, below_alloc w _⟩
  obtain ⟨k2, hk2⟩ : ∃ k, (k1 + 1) + (Sv.run (s.data.toList.drop (k1 + 1))).length = k := ⟨_, rfl⟩
  obtain ⟨v2, hv2⟩ : ∃ v, Sv.val (Sv.run (s.data.toList.drop (k1 + 1))) = v := ⟨_, rfl⟩
  have C2 : RowKit.Hid (∀ w, Calls Tryd.prog 21 #[.string s, .int .i64 ((k1 : Int) + 1)] w fun e w' => e = .returned (.tuple #[.int .i64 (v2 : Nat), .int .i64 (k2 : Nat)]) ∧ w = w') := Lib.hid (fun w => by have h := num_good s (k1 + 1) k2 v2 (by omega) hm hn2 hk2 hv2 w; rwa [show (((k1 + 1) : Nat) : Int) = ((k1 : Int) + 1) from by omega] at h)
  have HN2 := Lib.hid hn2
  have HV2 := Lib.hid hv2
  have HK2 := Lib.hid hk2
  have hle2 : k2 ≤ s.size := by have h := Sv.run_le (s.data.toList.drop (k1 + 1)); rw [List.length_drop, HL.out] at h; omega
  clear hn2 hv2 hk2
  by_cases hlt2 : k2 = s.size
  rotate_left
  · have HA : RowKit.Hid (¬ (Sv.NumR (Sv.r (Sv.r s)).data.toList ∧ (Sv.run (Sv.r (Sv.r s)).data.toList).length = (Sv.r (Sv.r s)).data.toList.length)) := Lib.hid (by
      rw [X2.out]
      intro h
      have h2 := h.2
      rw [List.length_drop, HL.out] at h2
      have := HK2.out
      omega)
    have e9 : ((k2 : Int) != (s.size : Int)) = true := by simp; omega
    have HLT := Lib.hid hlt2
    clear hlt2
    go_enter Tryd.func6, Tryd.ntmps6
    go_wp2_with (first | (go_at_call 21; ((with_reducible refine (C0.out _).mono ?_); rintro e w1 ⟨rfl, rfl⟩)) | (go_at_call 21; ((with_reducible refine (C1.out _).mono ?_); rintro e w1 ⟨rfl, rfl⟩)) | (go_at_call 21; ((with_reducible refine (C2.out _).mono ?_); rintro e w1 ⟨rfl, rfl⟩)))
    have ok : Sv.okS s = false := (Sv.okC B0.out M0.out B1.out M1.out).trans (Sv.lastA HA.out)
    exact bodyPost_ret (v := .tuple #[.agg #[.int .i64 0, .int .i64 0, .int .i64 0], .int .i64 10]) (by simp [results, Tryd.results6, go_sem, q0, q1, q2]) rfl ⟨by rw [parse_fail ok]; rfl, below_alloc w _⟩
  have HS2 : RowKit.Hid (_ ∧ _ ∧ _) := Lib.hid (Sv.lastB (s := (Sv.r (Sv.r s))) (by rw [X2.out]; exact HN2.out) (by rw [X2.out, List.length_drop, HL.out]; have := HK2.out; omega))
  have N2 : RowKit.Hid (Sv.nv (Sv.r (Sv.r s)) = v2) := Lib.hid (by rw [HS2.out.2.2, X2.out]; exact HV2.out)
  have e9 : ((k2 : Int) != (s.size : Int)) = false := by simp; omega
  have HLT := Lib.hid hlt2
  clear hlt2
  go_enter Tryd.func6, Tryd.ntmps6
  go_wp2_with (first | (go_at_call 21; ((with_reducible refine (C0.out _).mono ?_); rintro e w1 ⟨rfl, rfl⟩)) | (go_at_call 21; ((with_reducible refine (C1.out _).mono ?_); rintro e w1 ⟨rfl, rfl⟩)) | (go_at_call 21; ((with_reducible refine (C2.out _).mono ?_); rintro e w1 ⟨rfl, rfl⟩)))
  have ok : Sv.okS s = true := by rw [Sv.okC B0.out M0.out B1.out M1.out, HS2.out.1, HS2.out.2.1]; rfl
  exact bodyPost_ret (v := .tuple #[.agg #[.int .i64 (v0 : Nat), .int .i64 (v1 : Nat), .int .i64 (v2 : Nat)], .int .i64 0]) (by simp [results, Tryd.results6, go_sem, q0, q1, q2]) rfl ⟨by rw [parse_good ok, N0.out, N1.out, N2.out], below_alloc w _⟩
end Go.Proofs.YtmgnbpgcbehidaaDoor
