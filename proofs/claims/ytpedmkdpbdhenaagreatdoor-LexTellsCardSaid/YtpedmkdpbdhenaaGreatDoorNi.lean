/- The document's token at the beginning: all kinds. -/
import Derived.Test.YtpedmkdpbdhenaaGreatDoorNh
namespace Go.Proofs.YtpedmkdpbdhenaaGreatDoor
open Go.RowKit
set_option linter.unusedSimpArgs false
set_option linter.unusedVariables false
set_option maxHeartbeats 8000000 in
set_option maxRecDepth 100000 in
theorem one_text (s : ByteArray) (hm : s.size ≤ 4194304) (h0 : 0 < s.size) (h34 : s[0].toNat = 34) (w : World) :
    Calls Tryz.prog 19 #[.string s, .int .i64 0] w fun e w' => e = .returned (.tuple #[(txR (tdM s.data.toList 1 [])).1.v 0, .int .i64 (txR (tdM s.data.toList 1 [])).2]) ∧ Below w.heap.size w w' := by
  have hci : (0 : Int) < (s.size : Int) := by omega
  have HS := Lib.hid (fun W => smD_any s[0] W)
  have HG := Lib.hid (fun W => grD_any s[0] W)
  have HD := Lib.hid (fun W => digD_any s[0] W)
  have fS : smB s[0] = false := by unfold smB; simp; omega
  have fG : grB s[0] = false := by unfold grB; simp; omega
  rw [fS] at HS
  rw [fG] at HG
  have e95 : ((s[0].toNat : Int) == 95) = false := by rw [h34]; rfl
  have e39 : ((s[0].toNat : Int) == 39) = false := by rw [h34]; rfl
  have e34 : ((s[0].toNat : Int) == 34) = true := by rw [h34]; rfl
  have HT0 := Lib.hid (fun W => text_doc s hm W)
  clear h34 fS fG
  generalize txR (tdM s.data.toList 1 []) = X at *
  obtain ⟨⟨tk, ts, tn⟩, m⟩ := X
  have HT : RowKit.Hid (∀ W, Calls Tryz.prog 42 #[.string s, .int .i64 0] W fun e w' => e = .returned (.tuple #[.agg #[.int .i64 tk, .string ts, .int .i64 tn, .int .i64 0], .int .i64 (m : Nat)]) ∧ Below W.heap.size W w') := HT0
  clear HT0
  go_enter Tryz.func19, Tryz.ntmps19
  go_wp2_with (first
    | (go_at_call 39; with_reducible refine (HS.out _).mono ?_; rintro e w1 ⟨rfl, rfl⟩)
    | (go_at_call 40; with_reducible refine (HG.out _).mono ?_; rintro e w1 ⟨rfl, rfl⟩)
    | (go_at_call 42; with_reducible refine (HT.out _).mono ?_; rintro e w2 ⟨rfl, hb⟩; obtain ⟨hc, hf⟩ := bcell hb; have z2 := hb.size; rw [World.size_alloc] at z2; have y2 : w.heap.size < w2.heap.size := (by omega)))
  have hB : Below w.heap.size w w2 := (below_alloc w _).trans (hb.mono (by simp))
  have k0 := (hb_below (hb_new w (.cells #[.int .i64 0, .string ⟨#[]⟩, .int .i64 0, .int .i64 0] 32)) hb (by simp))
  have r0 := hb_at k0 0 rfl
  have r1 := hb_at k0 1 rfl
  have r2 := hb_at k0 2 rfl
  have r3 := hb_at k0 3 rfl
  exact bodyPost_ret (v := .tuple #[.agg #[.int .i64 tk, .string ts, .int .i64 tn, .int .i64 0], .int .i64 (m : Nat)]) (by simp [results, Tryz.results19, go_sem, r0, r1, r2, r3]) rfl ⟨rfl, (((hB.setCell (by simp) _).setCell (by simp) _).setCell (by simp) _).setCell (by simp) _⟩
set_option maxHeartbeats 8000000 in
set_option maxRecDepth 100000 in
theorem one_arrow (s : ByteArray) (hm : s.size ≤ 4194304) (h0 : 0 < s.size) (h45 : s[0].toNat = 45) (hp : s.data.toList.take 2 = [45, 62]) (w : World) :
    Calls Tryz.prog 19 #[.string s, .int .i64 0] w fun e w' => e = .returned (.tuple #[Tk.v ⟨8, ofL [45, 62], 0⟩ 0, .int .i64 2]) ∧ Below w.heap.size w w' := by
  have hci : (0 : Int) < (s.size : Int) := by omega
  have HS := Lib.hid (fun W => smD_any s[0] W)
  have HG := Lib.hid (fun W => grD_any s[0] W)
  have HD := Lib.hid (fun W => digD_any s[0] W)
  have fS : smB s[0] = false := by unfold smB; simp; omega
  have fG : grB s[0] = false := by unfold grB; simp; omega
  rw [fS] at HS
  rw [fG] at HG
  have e95 : ((s[0].toNat : Int) == 95) = false := by rw [h45]; rfl
  have e39 : ((s[0].toNat : Int) == 39) = false := by rw [h45]; rfl
  have e34 : ((s[0].toNat : Int) == 34) = false := by rw [h45]; rfl
  have e45 : ((s[0].toNat : Int) == 45) = true := by rw [h45]; rfl
  have h1 : 1 < s.size := by
    rcases Nat.lt_or_ge 1 s.size with h | h
    · exact h
    · exact absurd hp (ps_small s h)
  have h1i : (1 : Int) < (s.size : Int) := by omega
  have e62 : ((s[1].toNat : Int) == 62) = true := by rw [(take2_at h1 h45).1 hp]; rfl
  clear h45 hp fS fG
  go_enter Tryz.func19, Tryz.ntmps19
  go_wp2_with (first
    | (go_at_call 39; with_reducible refine (HS.out _).mono ?_; rintro e w1 ⟨rfl, rfl⟩)
    | (go_at_call 40; with_reducible refine (HG.out _).mono ?_; rintro e w1 ⟨rfl, rfl⟩))
  all_goals
    have hB : Below w.heap.size w _ := below_alloc w (.cells #[.int .i64 0, .string ⟨#[]⟩, .int .i64 0, .int .i64 0] 32)
    have k0 := hb_new w (.cells #[.int .i64 0, .string ⟨#[]⟩, .int .i64 0, .int .i64 0] 32)
    have r0 := hb_at k0 0 rfl
    have r1 := hb_at k0 1 rfl
    have r2 := hb_at k0 2 rfl
    have r3 := hb_at k0 3 rfl
    exact bodyPost_ret (v := .tuple #[Tk.v ⟨8, ofL [45, 62], 0⟩ 0, .int .i64 2]) (by simp [results, Tryz.results19, go_sem, r0, r1, r2, r3, tk0, Tk.v]) rfl ⟨rfl, by first | exact hB | exact below_alloc w _ | exact (((hB.setCell (by simp) _).setCell (by simp) _).setCell (by simp) _).setCell (by simp) _⟩
set_option maxHeartbeats 8000000 in
set_option maxRecDepth 100000 in
theorem one_version (s : ByteArray) (hm : s.size ≤ 4194304) (h0 : 0 < s.size) (hd : dgB s[0] = true) (hv : 0 < verD s.data.toList) (w : World) :
    Calls Tryz.prog 19 #[.string s, .int .i64 0] w fun e w' => e = .returned (.tuple #[Tk.v ⟨6, ofL (s.data.toList.take (verD s.data.toList)), 0⟩ 0, .int .i64 (verD s.data.toList : Nat)]) ∧ Below w.heap.size w w' := by
  have hci : (0 : Int) < (s.size : Int) := by omega
  have HS := Lib.hid (fun W => smD_any s[0] W)
  have HG := Lib.hid (fun W => grD_any s[0] W)
  have HD := Lib.hid (fun W => digD_any s[0] W)
  obtain ⟨fS, fG, n95, n39, n34, n45, _⟩ := dg_far hd
  rw [fS] at HS
  rw [fG] at HG
  rw [hd] at HD
  have e95 : ((s[0].toNat : Int) == 95) = false := by rw [beq_eq_false_iff_ne]; omega
  have e39 : ((s[0].toNat : Int) == 39) = false := by rw [beq_eq_false_iff_ne]; omega
  have e34 : ((s[0].toNat : Int) == 34) = false := by rw [beq_eq_false_iff_ne]; omega
  have e45 : ((s[0].toNat : Int) == 45) = false := by rw [beq_eq_false_iff_ne]; omega
  have HV := Lib.hid (fun W => version_doc s hm W)
  have hle := verD_le s.data.toList
  rw [len_list] at hle
  rw [← ext0]
  clear hd fS fG n95 n39 n34 n45
  generalize verD s.data.toList = n at *
  have hni : (n : Int) ≤ (s.size : Int) := by omega
  have hv' : 0 < n := hv
  go_enter Tryz.func19, Tryz.ntmps19
  go_wp2_with (first
    | (go_at_call 39; with_reducible refine (HS.out _).mono ?_; rintro e w1 ⟨rfl, rfl⟩)
    | (go_at_call 40; with_reducible refine (HG.out _).mono ?_; rintro e w1 ⟨rfl, rfl⟩)
    | (go_at_call 43; with_reducible refine (HD.out _).mono ?_; rintro e w1 ⟨rfl, rfl⟩))
  go_at_call 44
  with_reducible refine (HV.out _).mono ?_
  rintro e w4 ⟨rfl, hb4⟩
  have z4 := hb4.size
  rw [World.size_alloc] at z4
  go_wp2_with fail
  go_at_call 44
  with_reducible refine (HV.out _).mono ?_
  rintro e w5 ⟨rfl, hb5⟩
  have z5 := hb5.size
  have y5 : w.heap.size < w5.heap.size := (by omega)
  have hB : Below w.heap.size w w5 := ((below_alloc w _).trans (hb4.mono (by simp))).trans (hb5.mono (by omega))
  have k0 := hb_below (hb_below (hb_new w (.cells #[.int .i64 0, .string ⟨#[]⟩, .int .i64 0, .int .i64 0] 32)) hb4 (by simp)) hb5 (by omega)
  have f0 := hb_free k0 0
  have f1 := hb_free k0 1
  have f2 := hb_free k0 2
  have f3 := hb_free k0 3
  have r0 := hb_at k0 0 rfl
  have r1 := hb_at k0 1 rfl
  have r2 := hb_at k0 2 rfl
  have r3 := hb_at k0 3 rfl
  go_wp2
  exact bodyPost_ret (v := .tuple #[Tk.v ⟨6, s.extract 0 n, 0⟩ 0, .int .i64 (n : Nat)]) (by simp [results, Tryz.results19, go_sem, r0, r1, r2, r3, Tk.v]) rfl ⟨rfl, (((hB.setCell (by simp) _).setCell (by simp) _).setCell (by simp) _).setCell (by simp) _⟩
/-- The signs of one byte, but for _. -/
def sgnL : List ByteArray := [⟨#[61]⟩, ⟨#[124]⟩, ⟨#[40]⟩, ⟨#[41]⟩, ⟨#[44]⟩, ⟨#[59]⟩, ⟨#[58]⟩, ⟨#[46]⟩, ⟨#[64]⟩]
theorem sgn_in (c : UInt8) : inB (ofL [c]) sgnL = isS9 c.toNat := by
  have key : ∀ x : UInt8, (ofL [c] = ⟨#[x]⟩) ↔ c.toNat = x.toNat := by
    intro x
    constructor
    · intro h
      have h1 : [c] = [x] := congrArg (fun b : ByteArray => b.data.toList) h
      have h2 : c = x := by simpa using h1
      rw [h2]
    · intro h
      rw [UInt8.toNat_inj.1 h]
  have hm : (ofL [c] ∈ sgnL) ↔ isS9 c.toNat = true := by
    unfold sgnL isS9
    simp only [List.mem_cons, List.not_mem_nil, or_false, key, Bool.or_eq_true, decide_eq_true_eq]
    have e : ∀ n : Nat, n < 256 → (UInt8.ofNat n).toNat = n := fun n hn => by rw [UInt8.toNat_ofNat']; exact Nat.mod_eq_of_lt hn
    constructor
    · rintro (h | h | h | h | h | h | h | h | h) <;> rw [h] <;> decide
    · rintro ((((((((h | h) | h) | h) | h) | h) | h) | h) | h) <;> rw [h] <;> decide
  cases hs : isS9 c.toNat
  · exact inB_no fun h => by rw [hm.1 h] at hs; cases hs
  · exact inB_yes (hm.2 hs)
set_option maxHeartbeats 8000000 in
set_option maxRecDepth 100000 in
theorem one_sign (s : ByteArray) (hm : s.size ≤ 4194304) (h0 : 0 < s.size) (hS : smB s[0] = false) (hG : grB s[0] = false) (hD : dgB s[0] = false) (n95 : s[0].toNat ≠ 95) (n39 : s[0].toNat ≠ 39) (n34 : s[0].toNat ≠ 34) (n45 : s[0].toNat ≠ 45) (h9 : isS9 s[0].toNat = true) (w : World) :
    Calls Tryz.prog 19 #[.string s, .int .i64 0] w fun e w' => e = .returned (.tuple #[Tk.v ⟨8, ofL (s.data.toList.take 1), 0⟩ 0, .int .i64 1]) ∧ Below w.heap.size w w' := by
  have hci : (0 : Int) < (s.size : Int) := by omega
  have HS := Lib.hid (fun W => smD_any s[0] W)
  have HG := Lib.hid (fun W => grD_any s[0] W)
  have HD := Lib.hid (fun W => digD_any s[0] W)
  rw [hS] at HS
  rw [hG] at HG
  rw [hD] at HD
  have e95 : ((s[0].toNat : Int) == 95) = false := by rw [beq_eq_false_iff_ne]; omega
  have e39 : ((s[0].toNat : Int) == 39) = false := by rw [beq_eq_false_iff_ne]; omega
  have e34 : ((s[0].toNat : Int) == 34) = false := by rw [beq_eq_false_iff_ne]; omega
  have e45 : ((s[0].toNat : Int) == 45) = false := by rw [beq_eq_false_iff_ne]; omega
  have hE : s.extract 0 1 = ofL [s[0]] := keep_one h0
  have hk1 : (1 : Int) ≤ (s.size : Int) := by omega
  have HIN := Lib.hid (fun v W (h : SAt W v sgnL) => inD_any (s.extract 0 1) v sgnL W h (by decide))
  rw [hE, sgn_in] at HIN
  rw [← hE] at HIN
  rw [h9] at HIN
  rw [← ext0]
  clear hS hG hD n95 n39 n34 n45 h9 hE
  have HSL : RowKit.Hid (SAt ((w.alloc (.cells #[.int .i64 0, .string ⟨#[]⟩, .int .i64 0, .int .i64 0] 32)).alloc (.cells #[.string ⟨#[61]⟩, .string ⟨#[124]⟩, .string ⟨#[40]⟩, .string ⟨#[41]⟩, .string ⟨#[44]⟩, .string ⟨#[59]⟩, .string ⟨#[58]⟩, .string ⟨#[46]⟩, .string ⟨#[64]⟩] 9)) (.slice (some ⟨w.heap.size + 1, 0, none⟩) 9 9) sgnL) := Lib.hid (by have h := sat_lit (w.alloc (.cells #[.int .i64 0, .string ⟨#[]⟩, .int .i64 0, .int .i64 0] 32)) sgnL #[.string ⟨#[61]⟩, .string ⟨#[124]⟩, .string ⟨#[40]⟩, .string ⟨#[41]⟩, .string ⟨#[44]⟩, .string ⟨#[59]⟩, .string ⟨#[58]⟩, .string ⟨#[46]⟩, .string ⟨#[64]⟩] rfl 9; rw [World.size_alloc] at h; exact h)
  go_enter Tryz.func19, Tryz.ntmps19
  go_wp2_with (first
    | (go_at_call 39; with_reducible refine (HS.out _).mono ?_; rintro e w1 ⟨rfl, rfl⟩)
    | (go_at_call 40; with_reducible refine (HG.out _).mono ?_; rintro e w1 ⟨rfl, rfl⟩)
    | (go_at_call 43; with_reducible refine (HD.out _).mono ?_; rintro e w1 ⟨rfl, rfl⟩)
    | (go_at_call 12; with_reducible refine (HIN.out _ _ HSL.out).mono ?_; rintro e w3 ⟨rfl, rfl⟩))
  all_goals
    have hB : Below w.heap.size w _ := below2 w (.cells #[.int .i64 0, .string ⟨#[]⟩, .int .i64 0, .int .i64 0] 32) (.cells #[.string ⟨#[61]⟩, .string ⟨#[124]⟩, .string ⟨#[40]⟩, .string ⟨#[41]⟩, .string ⟨#[44]⟩, .string ⟨#[59]⟩, .string ⟨#[58]⟩, .string ⟨#[46]⟩, .string ⟨#[64]⟩] 9)
    have k0 := hb_alloc (hb_new w (.cells #[.int .i64 0, .string ⟨#[]⟩, .int .i64 0, .int .i64 0] 32)) (.cells #[.string ⟨#[61]⟩, .string ⟨#[124]⟩, .string ⟨#[40]⟩, .string ⟨#[41]⟩, .string ⟨#[44]⟩, .string ⟨#[59]⟩, .string ⟨#[58]⟩, .string ⟨#[46]⟩, .string ⟨#[64]⟩] 9)
    have r0 := hb_at k0 0 rfl
    have r1 := hb_at k0 1 rfl
    have r2 := hb_at k0 2 rfl
    have r3 := hb_at k0 3 rfl
    exact bodyPost_ret (v := .tuple #[Tk.v ⟨8, s.extract 0 1, 0⟩ 0, .int .i64 1]) (by simp [results, Tryz.results19, go_sem, r0, r1, r2, r3, tk0, Tk.v]) rfl ⟨rfl, by first | exact hB | exact below2 w _ _ | exact (((hB.setCell (by simp) _).setCell (by simp) _).setCell (by simp) _).setCell (by simp) _⟩
set_option maxHeartbeats 8000000 in
set_option maxRecDepth 100000 in
theorem one_none (s : ByteArray) (hm : s.size ≤ 4194304) (h0 : 0 < s.size) (hS : smB s[0] = false) (hG : grB s[0] = false) (hD : dgB s[0] = false) (n95 : s[0].toNat ≠ 95) (n39 : s[0].toNat ≠ 39) (n34 : s[0].toNat ≠ 34) (n45 : s[0].toNat ≠ 45) (h9 : isS9 s[0].toNat = false) (w : World) :
    Calls Tryz.prog 19 #[.string s, .int .i64 0] w fun e w' => e = .returned (.tuple #[tk0.v 0, .int .i64 0]) ∧ Below w.heap.size w w' := by
  have hci : (0 : Int) < (s.size : Int) := by omega
  have HS := Lib.hid (fun W => smD_any s[0] W)
  have HG := Lib.hid (fun W => grD_any s[0] W)
  have HD := Lib.hid (fun W => digD_any s[0] W)
  rw [hS] at HS
  rw [hG] at HG
  rw [hD] at HD
  have e95 : ((s[0].toNat : Int) == 95) = false := by rw [beq_eq_false_iff_ne]; omega
  have e39 : ((s[0].toNat : Int) == 39) = false := by rw [beq_eq_false_iff_ne]; omega
  have e34 : ((s[0].toNat : Int) == 34) = false := by rw [beq_eq_false_iff_ne]; omega
  have e45 : ((s[0].toNat : Int) == 45) = false := by rw [beq_eq_false_iff_ne]; omega
  have hE : s.extract 0 1 = ofL [s[0]] := keep_one h0
  have hk1 : (1 : Int) ≤ (s.size : Int) := by omega
  have HIN := Lib.hid (fun v W (h : SAt W v sgnL) => inD_any (s.extract 0 1) v sgnL W h (by decide))
  rw [hE, sgn_in] at HIN
  rw [← hE] at HIN
  rw [h9] at HIN
  clear hS hG hD n95 n39 n34 n45 h9 hE
  have HSL : RowKit.Hid (SAt ((w.alloc (.cells #[.int .i64 0, .string ⟨#[]⟩, .int .i64 0, .int .i64 0] 32)).alloc (.cells #[.string ⟨#[61]⟩, .string ⟨#[124]⟩, .string ⟨#[40]⟩, .string ⟨#[41]⟩, .string ⟨#[44]⟩, .string ⟨#[59]⟩, .string ⟨#[58]⟩, .string ⟨#[46]⟩, .string ⟨#[64]⟩] 9)) (.slice (some ⟨w.heap.size + 1, 0, none⟩) 9 9) sgnL) := Lib.hid (by have h := sat_lit (w.alloc (.cells #[.int .i64 0, .string ⟨#[]⟩, .int .i64 0, .int .i64 0] 32)) sgnL #[.string ⟨#[61]⟩, .string ⟨#[124]⟩, .string ⟨#[40]⟩, .string ⟨#[41]⟩, .string ⟨#[44]⟩, .string ⟨#[59]⟩, .string ⟨#[58]⟩, .string ⟨#[46]⟩, .string ⟨#[64]⟩] rfl 9; rw [World.size_alloc] at h; exact h)
  go_enter Tryz.func19, Tryz.ntmps19
  go_wp2_with (first
    | (go_at_call 39; with_reducible refine (HS.out _).mono ?_; rintro e w1 ⟨rfl, rfl⟩)
    | (go_at_call 40; with_reducible refine (HG.out _).mono ?_; rintro e w1 ⟨rfl, rfl⟩)
    | (go_at_call 43; with_reducible refine (HD.out _).mono ?_; rintro e w1 ⟨rfl, rfl⟩)
    | (go_at_call 12; with_reducible refine (HIN.out _ _ HSL.out).mono ?_; rintro e w3 ⟨rfl, rfl⟩))
  all_goals
    have hB : Below w.heap.size w _ := below2 w (.cells #[.int .i64 0, .string ⟨#[]⟩, .int .i64 0, .int .i64 0] 32) (.cells #[.string ⟨#[61]⟩, .string ⟨#[124]⟩, .string ⟨#[40]⟩, .string ⟨#[41]⟩, .string ⟨#[44]⟩, .string ⟨#[59]⟩, .string ⟨#[58]⟩, .string ⟨#[46]⟩, .string ⟨#[64]⟩] 9)
    have k0 := hb_alloc (hb_new w (.cells #[.int .i64 0, .string ⟨#[]⟩, .int .i64 0, .int .i64 0] 32)) (.cells #[.string ⟨#[61]⟩, .string ⟨#[124]⟩, .string ⟨#[40]⟩, .string ⟨#[41]⟩, .string ⟨#[44]⟩, .string ⟨#[59]⟩, .string ⟨#[58]⟩, .string ⟨#[46]⟩, .string ⟨#[64]⟩] 9)
    have r0 := hb_at k0 0 rfl
    have r1 := hb_at k0 1 rfl
    have r2 := hb_at k0 2 rfl
    have r3 := hb_at k0 3 rfl
    exact bodyPost_ret (v := .tuple #[tk0.v 0, .int .i64 0]) (by simp [results, Tryz.results19, go_sem, r0, r1, r2, r3, tk0, Tk.v]) rfl ⟨rfl, by first | exact hB | exact below2 w _ _ | exact (((hB.setCell (by simp) _).setCell (by simp) _).setCell (by simp) _).setCell (by simp) _⟩
theorem one_doc (s : ByteArray) (hm : s.size ≤ 4194304) (h0 : 0 < s.size) (w : World) :
    Calls Tryz.prog 19 #[.string s, .int .i64 0] w fun e w' => e = .returned (.tuple #[(oneT s.data.toList).1.v 0, .int .i64 (oneT s.data.toList).2]) ∧ Below w.heap.size w w' := by
  rw [oneT_at (at_list s 0 h0)]
  by_cases hc : (smB s[0] || grB s[0] || decide (s[0].toNat = 95)) = true
  · rw [if_pos hc]; exact one_name s hm h0 hc w
  rw [if_neg hc]
  simp only [Bool.not_eq_true, Bool.or_eq_false_iff, decide_eq_false_iff_not] at hc
  obtain ⟨⟨hS, hG⟩, n95⟩ := hc
  by_cases h39 : s[0].toNat = 39
  · rw [if_pos h39]; exact one_var s hm h0 h39 w
  rw [if_neg h39]
  by_cases h34 : s[0].toNat = 34
  · rw [if_pos h34]; exact one_text s hm h0 h34 w
  rw [if_neg h34]
  by_cases hp : s.data.toList.take 2 = [45, 62]
  · rw [if_pos hp]
    have h45 : s[0].toNat = 45 := by
      have h1 := take_head (n := 2) (at_list s 0 h0) (by omega)
      rw [hp] at h1
      have h2 : (45 : UInt8) = s[0] := by simpa using h1
      rw [← h2]; rfl
    exact one_arrow s hm h0 h45 hp w
  rw [if_neg hp]
  by_cases hd : dgB s[0] = true
  · by_cases hv : 0 < verD s.data.toList
    · rw [if_pos ⟨hd, hv⟩]; exact one_version s hm h0 hd hv w
    · obtain ⟨_, _, _, _, _, n45, _⟩ := dg_far hd
      rw [if_neg (fun h => hv h.2), if_pos (by rw [hd]; rfl), if_neg n45]
      exact one_int0 s hm h0 hd (by omega) w
  rw [if_neg (fun h => hd h.1)]
  rw [Bool.not_eq_true] at hd
  by_cases h45 : s[0].toNat = 45
  · rw [if_pos (by rw [h45]; simp), if_pos h45]
    exact one_int1 s hm h0 h45 hp w
  rw [if_neg (by rw [hd]; simp [h45])]
  by_cases h9 : isS9 s[0].toNat = true
  · rw [if_pos h9]; exact one_sign s hm h0 hS hG hd n95 h39 h34 h45 h9 w
  · rw [if_neg h9]
    rw [Bool.not_eq_true] at h9
    exact one_none s hm h0 hS hG hd n95 h39 h34 h45 h9 w
end Go.Proofs.YtpedmkdpbdhenaaGreatDoor
