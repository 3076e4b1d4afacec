/- Texts in a row: Ni Me Nj Jc. -/
import Derived.Test.YtmkjalnlldpdcaaGreatDoorZT18
import Derived.Test.YtmkjalnlldpdcaaGreatDoorZT17
import Derived.Test.YtmkjalnlldpdcaaGreatDoorZT12
import Derived.Test.YtmkjalnlldpdcaaGreatDoorZT16
set_option maxHeartbeats 16000000
set_option maxRecDepth 100000
namespace Go.Proofs.YtmkjalnlldpdcaaGreatDoor
open Go.RowKit
set_option linter.unusedSimpArgs false
set_option linter.unusedVariables false
theorem one_text (s : ByteArray) (hm : s.size ≤ 4194304) (h0 : 0 < s.size) (h34 : s[0].toNat = 34) (w : World) :
 Calls Tryz.prog 201 #[.string s, .int .i64 0] w fun e w' => e = .returned (.tuple #[(txR (tdM s.data.toList 1 [])).1.v 0, .int .i64 (txR (tdM s.data.toList 1 [])).2]) ∧ Below w.heap.size w w' := by
 have hci : (0 : Int) < (s.size : Int) := by omega
 have HS := Hd (fun W => smD_any s[0] W)
 have HG := Hd (fun W => grD_any s[0] W)
 have HD := Hd (fun W => digD_any s[0] W)
 have fS : smB s[0] = false := by unfold smB; simp; omega
 have fG : grB s[0] = false := by unfold grB; simp; omega
 rw [fS] at HS
 rw [fG] at HG
 have e95 : ((s[0].toNat : Int) == 95) = false := by rw [h34]; rfl
 have e39 : ((s[0].toNat : Int) == 39) = false := by rw [h34]; rfl
 have e34 : ((s[0].toNat : Int) == 34) = true := by rw [h34]; rfl
 have HT0 := Hd (fun W => text_doc s hm W)
 clear h34 fS fG
 generalize txR (tdM s.data.toList 1 []) = X at *
 obtain ⟨⟨tk, ts, tn⟩, m⟩ := X
 have HT : RowKit.Hid (∀ W, Calls Tryz.prog 239 #[.string s, .int .i64 0] W fun e w' => e = .returned (.tuple #[.agg #[.int .i64 tk, .string ts, .int .i64 tn, .int .i64 0], .int .i64 (m : Nat)]) ∧ Below W.heap.size W w') := HT0
 clear HT0
 go_enter Tryz.func201, Tryz.ntmps201
 go_wp2_with (first
  | (go_at_call 234; with_reducible refine (HS.out _).mono ?_; rintro e w1 ⟨rfl, rfl⟩)
  | (go_at_call 235; with_reducible refine (HG.out _).mono ?_; rintro e w1 ⟨rfl, rfl⟩)
  | (go_at_call 239; with_reducible refine (HT.out _).mono ?_; rintro e w2 ⟨rfl, hb⟩; obtain ⟨hc, hf⟩ := bcellX hb; have z2 := hb.size; rw [World.size_alloc] at z2; have y2 : w.heap.size < w2.heap.size := (by omega)))
 have hB : Below w.heap.size w w2 := (below_alloc w _).trans (hb.mono (by simp))
 have k0 := (hb_below (hb_new w (.cells #[.int .i64 0, .string ⟨#[]⟩, .int .i64 0, .int .i64 0] 159)) hb (by simp))
 have r0 := hb_at k0 0 rfl
 have r1 := hb_at k0 1 rfl
 have r2 := hb_at k0 2 rfl
 have r3 := hb_at k0 3 rfl
 exact bodyPost_ret (v := .tuple #[.agg #[.int .i64 tk, .string ts, .int .i64 tn, .int .i64 0], .int .i64 (m : Nat)]) (by simp [results, Tryz.results201, go_sem, r0, r1, r2, r3]) rfl ⟨rfl, (((hB.setCell (by simp) _).setCell (by simp) _).setCell (by simp) _).setCell (by simp) _⟩
theorem one_arrow (s : ByteArray) (hm : s.size ≤ 4194304) (h0 : 0 < s.size) (h45 : s[0].toNat = 45) (hp : s.data.toList.take 2 = [45, 62]) (w : World) :
 Calls Tryz.prog 201 #[.string s, .int .i64 0] w fun e w' => e = .returned (.tuple #[Tk.v ⟨8, ofL [45, 62], 0⟩ 0, .int .i64 2]) ∧ Below w.heap.size w w' := by
 have hci : (0 : Int) < (s.size : Int) := by omega
 have HS := Hd (fun W => smD_any s[0] W)
 have HG := Hd (fun W => grD_any s[0] W)
 have HD := Hd (fun W => digD_any s[0] W)
 have fS : smB s[0] = false := by unfold smB; simp; omega
 have fG : grB s[0] = false := by unfold grB; simp; omega
 rw [fS] at HS
 rw [fG] at HG
 have e95 : ((s[0].toNat : Int) == 95) = false := by rw [h45]; rfl
 have e39 : ((s[0].toNat : Int) == 39) = false := by rw [h45]; rfl
 have e34 : ((s[0].toNat : Int) == 34) = false := by rw [h45]; rfl
 have e45 : ((s[0].toNat : Int) == 45) = true := by rw [h45]; rfl
 have h1 : 1 < s.size := by
  rcases Nat.lt_or_ge 1 s.size with h | h
  · exact h
  · exact absurd hp (ps_small s h)
 have h1i : (1 : Int) < (s.size : Int) := by omega
 have e62 : ((s[1].toNat : Int) == 62) = true := by rw [(take2_at h1 h45).1 hp]; rfl
 clear h45 hp fS fG
 go_enter Tryz.func201, Tryz.ntmps201
 go_wp2_with (first
  | (go_at_call 234; with_reducible refine (HS.out _).mono ?_; rintro e w1 ⟨rfl, rfl⟩)
  | (go_at_call 235; with_reducible refine (HG.out _).mono ?_; rintro e w1 ⟨rfl, rfl⟩))
 all_goals
  have hB : Below w.heap.size w _ := below_alloc w (.cells #[.int .i64 0, .string ⟨#[]⟩, .int .i64 0, .int .i64 0] 159)
  have k0 := hb_new w (.cells #[.int .i64 0, .string ⟨#[]⟩, .int .i64 0, .int .i64 0] 159)
  have r0 := hb_at k0 0 rfl
  have r1 := hb_at k0 1 rfl
  have r2 := hb_at k0 2 rfl
  have r3 := hb_at k0 3 rfl
  exact bodyPost_ret (v := .tuple #[Tk.v ⟨8, ofL [45, 62], 0⟩ 0, .int .i64 2]) Q38 rfl ⟨rfl, by first | exact hB | exact below_alloc w _ | exact (((hB.setCell (by simp) _).setCell (by simp) _).setCell (by simp) _).setCell (by simp) _⟩
theorem one_version (s : ByteArray) (hm : s.size ≤ 4194304) (h0 : 0 < s.size) (hd : dgB s[0] = true) (hv : 0 < verD s.data.toList) (w : World) :
 Calls Tryz.prog 201 #[.string s, .int .i64 0] w fun e w' => e = .returned (.tuple #[Tk.v ⟨6, ofL (s.data.toList.take (verD s.data.toList)), 0⟩ 0, .int .i64 (verD s.data.toList : Nat)]) ∧ Below w.heap.size w w' := by
 have hci : (0 : Int) < (s.size : Int) := by omega
 have HS := Hd (fun W => smD_any s[0] W)
 have HG := Hd (fun W => grD_any s[0] W)
 have HD := Hd (fun W => digD_any s[0] W)
 obtain ⟨fS, fG, n95, n39, n34, n45, _⟩ := dg_far hd
 rw [fS] at HS
 rw [fG] at HG
 rw [hd] at HD
 have e95 : ((s[0].toNat : Int) == 95) = false := by rw [beq_eq_false_iff_ne]; omega
 have e39 : ((s[0].toNat : Int) == 39) = false := by rw [beq_eq_false_iff_ne]; omega
 have e34 : ((s[0].toNat : Int) == 34) = false := by rw [beq_eq_false_iff_ne]; omega
 have e45 : ((s[0].toNat : Int) == 45) = false := by rw [beq_eq_false_iff_ne]; omega
 have HV := Hd (fun W => version_doc s hm W)
 have hle := verD_le s.data.toList
 rw [len_list] at hle
 rw [← ext0]
 clear hd fS fG n95 n39 n34 n45
 generalize verD s.data.toList = n at *
 have hni : (n : Int) ≤ (s.size : Int) := by omega
 have hv' : 0 < n := hv
 go_enter Tryz.func201, Tryz.ntmps201
 go_wp2_with (first
  | (go_at_call 234; with_reducible refine (HS.out _).mono ?_; rintro e w1 ⟨rfl, rfl⟩)
  | (go_at_call 235; with_reducible refine (HG.out _).mono ?_; rintro e w1 ⟨rfl, rfl⟩)
  | (go_at_call 240; with_reducible refine (HD.out _).mono ?_; rintro e w1 ⟨rfl, rfl⟩))
 go_at_call 241
 with_reducible refine (HV.out _).mono ?_
 rintro e w4 ⟨rfl, hb4⟩
 have z4 := hb4.size
 rw [World.size_alloc] at z4
 go_wp2_with fail
 go_at_call 241
 with_reducible refine (HV.out _).mono ?_
 rintro e w5 ⟨rfl, hb5⟩
 have z5 := hb5.size
 have y5 : w.heap.size < w5.heap.size := (by omega)
 have hB : Below w.heap.size w w5 := ((below_alloc w _).trans (hb4.mono (by simp))).trans (hb5.mono (by omega))
 have k0 := hb_below (hb_below (hb_new w (.cells #[.int .i64 0, .string ⟨#[]⟩, .int .i64 0, .int .i64 0] 159)) hb4 (by simp)) hb5 (by omega)
 have f0 := hb_free k0 0
 have f1 := hb_free k0 1
 have f2 := hb_free k0 2
 have f3 := hb_free k0 3
 have r0 := hb_at k0 0 rfl
 have r1 := hb_at k0 1 rfl
 have r2 := hb_at k0 2 rfl
 have r3 := hb_at k0 3 rfl
 go_wp2
 exact bodyPost_ret (v := .tuple #[Tk.v ⟨6, s.extract 0 n, 0⟩ 0, .int .i64 (n : Nat)]) (by simp [results, Tryz.results201, go_sem, r0, r1, r2, r3, Tk.v]) rfl ⟨rfl, (((hB.setCell (by simp) _).setCell (by simp) _).setCell (by simp) _).setCell (by simp) _⟩
def sgnL : List ByteArray := [⟨#[61]⟩, ⟨#[124]⟩, ⟨#[40]⟩, ⟨#[41]⟩, ⟨#[44]⟩, ⟨#[59]⟩, ⟨#[58]⟩, ⟨#[46]⟩, ⟨#[64]⟩]
theorem sgn_in (c : UInt8) : inB (ofL [c]) sgnL = isS9 c.toNat := by
 have key : ∀ x : UInt8, (ofL [c] = ⟨#[x]⟩) ↔ c.toNat = x.toNat := by
  intro x
  constructor
  · intro h
    have h1 : [c] = [x] := congrArg (fun b : ByteArray => b.data.toList) h
    have h2 : c = x := by simpa using h1
    rw [h2]
  · intro h
    rw [UInt8.toNat_inj.1 h]
 have hm : (ofL [c] ∈ sgnL) ↔ isS9 c.toNat = true := by
  unfold sgnL isS9
  simp only [List.mem_cons, List.not_mem_nil, or_false, key, Bool.or_eq_true, decide_eq_true_eq]
  have e : ∀ n : Nat, n < 256 → (UInt8.ofNat n).toNat = n := fun n hn => by rw [UInt8.toNat_ofNat']; exact Nat.mod_eq_of_lt hn
  constructor
  · rintro (h | h | h | h | h | h | h | h | h) <;> rw [h] <;> decide
  · rintro ((((((((h | h) | h) | h) | h) | h) | h) | h) | h) <;> rw [h] <;> decide
 cases hs : isS9 c.toNat
 · exact inB_no fun h => by rw [hm.1 h] at hs; cases hs
 · exact inB_yes (hm.2 hs)
theorem one_sign (s : ByteArray) (hm : s.size ≤ 4194304) (h0 : 0 < s.size) (hS : smB s[0] = false) (hG : grB s[0] = false) (hD : dgB s[0] = false) (n95 : s[0].toNat ≠ 95) (n39 : s[0].toNat ≠ 39) (n34 : s[0].toNat ≠ 34) (n45 : s[0].toNat ≠ 45) (h9 : isS9 s[0].toNat = true) (w : World) :
 Calls Tryz.prog 201 #[.string s, .int .i64 0] w fun e w' => e = .returned (.tuple #[Tk.v ⟨8, ofL (s.data.toList.take 1), 0⟩ 0, .int .i64 1]) ∧ Below w.heap.size w w' := by
 have hci : (0 : Int) < (s.size : Int) := by omega
 have HS := Hd (fun W => smD_any s[0] W)
 have HG := Hd (fun W => grD_any s[0] W)
 have HD := Hd (fun W => digD_any s[0] W)
 rw [hS] at HS
 rw [hG] at HG
 rw [hD] at HD
 have e95 : ((s[0].toNat : Int) == 95) = false := by rw [beq_eq_false_iff_ne]; omega
 have e39 : ((s[0].toNat : Int) == 39) = false := by rw [beq_eq_false_iff_ne]; omega
 have e34 : ((s[0].toNat : Int) == 34) = false := by rw [beq_eq_false_iff_ne]; omega
 have e45 : ((s[0].toNat : Int) == 45) = false := by rw [beq_eq_false_iff_ne]; omega
 have hE : s.extract 0 1 = ofL [s[0]] := keep_one h0
 have hk1 : (1 : Int) ≤ (s.size : Int) := by omega
 have HIN := Hd (fun v W (h : SAt W v sgnL) => inD_any (s.extract 0 1) v sgnL W h (by decide))
 rw [hE, sgn_in] at HIN
 rw [← hE] at HIN
 rw [h9] at HIN
 rw [← ext0]
 clear hS hG hD n95 n39 n34 n45 h9 hE
 have HSL : RowKit.Hid (SAt ((w.alloc (.cells #[.int .i64 0, .string ⟨#[]⟩, .int .i64 0, .int .i64 0] 159)).alloc (.cells #[.string ⟨#[61]⟩, .string ⟨#[124]⟩, .string ⟨#[40]⟩, .string ⟨#[41]⟩, .string ⟨#[44]⟩, .string ⟨#[59]⟩, .string ⟨#[58]⟩, .string ⟨#[46]⟩, .string ⟨#[64]⟩] 9)) (.slice (some ⟨w.heap.size + 1, 0, none⟩) 9 9) sgnL) := Hd Q2
 go_enter Tryz.func201, Tryz.ntmps201
 go_wp2_with (first
  | (go_at_call 234; with_reducible refine (HS.out _).mono ?_; rintro e w1 ⟨rfl, rfl⟩)
  | (go_at_call 235; with_reducible refine (HG.out _).mono ?_; rintro e w1 ⟨rfl, rfl⟩)
  | (go_at_call 240; with_reducible refine (HD.out _).mono ?_; rintro e w1 ⟨rfl, rfl⟩)
  | (go_at_call 237; with_reducible refine (HIN.out _ _ HSL.out).mono ?_; rintro e w3 ⟨rfl, rfl⟩))
 all_goals
  have hB : Below w.heap.size w _ := below2X w (.cells #[.int .i64 0, .string ⟨#[]⟩, .int .i64 0, .int .i64 0] 159) (.cells #[.string ⟨#[61]⟩, .string ⟨#[124]⟩, .string ⟨#[40]⟩, .string ⟨#[41]⟩, .string ⟨#[44]⟩, .string ⟨#[59]⟩, .string ⟨#[58]⟩, .string ⟨#[46]⟩, .string ⟨#[64]⟩] 9)
  have k0 := hb_alloc (hb_new w (.cells #[.int .i64 0, .string ⟨#[]⟩, .int .i64 0, .int .i64 0] 159)) (.cells #[.string ⟨#[61]⟩, .string ⟨#[124]⟩, .string ⟨#[40]⟩, .string ⟨#[41]⟩, .string ⟨#[44]⟩, .string ⟨#[59]⟩, .string ⟨#[58]⟩, .string ⟨#[46]⟩, .string ⟨#[64]⟩] 9)
  have r0 := hb_at k0 0 rfl
  have r1 := hb_at k0 1 rfl
  have r2 := hb_at k0 2 rfl
  have r3 := hb_at k0 3 rfl
  exact bodyPost_ret (v := .tuple #[Tk.v ⟨8, s.extract 0 1, 0⟩ 0, .int .i64 1]) Q38 rfl ⟨rfl, by first | exact hB | exact below2X w _ _ | exact (((hB.setCell (by simp) _).setCell (by simp) _).setCell (by simp) _).setCell (by simp) _⟩
theorem one_none (s : ByteArray) (hm : s.size ≤ 4194304) (h0 : 0 < s.size) (hS : smB s[0] = false) (hG : grB s[0] = false) (hD : dgB s[0] = false) (n95 : s[0].toNat ≠ 95) (n39 : s[0].toNat ≠ 39) (n34 : s[0].toNat ≠ 34) (n45 : s[0].toNat ≠ 45) (h9 : isS9 s[0].toNat = false) (w : World) :
 Calls Tryz.prog 201 #[.string s, .int .i64 0] w fun e w' => e = .returned (.tuple #[tk0.v 0, .int .i64 0]) ∧ Below w.heap.size w w' := by
 have hci : (0 : Int) < (s.size : Int) := by omega
 have HS := Hd (fun W => smD_any s[0] W)
 have HG := Hd (fun W => grD_any s[0] W)
 have HD := Hd (fun W => digD_any s[0] W)
 rw [hS] at HS
 rw [hG] at HG
 rw [hD] at HD
 have e95 : ((s[0].toNat : Int) == 95) = false := by rw [beq_eq_false_iff_ne]; omega
 have e39 : ((s[0].toNat : Int) == 39) = false := by rw [beq_eq_false_iff_ne]; omega
 have e34 : ((s[0].toNat : Int) == 34) = false := by rw [beq_eq_false_iff_ne]; omega
 have e45 : ((s[0].toNat : Int) == 45) = false := by rw [beq_eq_false_iff_ne]; omega
 have hE : s.extract 0 1 = ofL [s[0]] := keep_one h0
 have hk1 : (1 : Int) ≤ (s.size : Int) := by omega
 have HIN := Hd (fun v W (h : SAt W v sgnL) => inD_any (s.extract 0 1) v sgnL W h (by decide))
 rw [hE, sgn_in] at HIN
 rw [← hE] at HIN
 rw [h9] at HIN
 clear hS hG hD n95 n39 n34 n45 h9 hE
 have HSL : RowKit.Hid (SAt ((w.alloc (.cells #[.int .i64 0, .string ⟨#[]⟩, .int .i64 0, .int .i64 0] 159)).alloc (.cells #[.string ⟨#[61]⟩, .string ⟨#[124]⟩, .string ⟨#[40]⟩, .string ⟨#[41]⟩, .string ⟨#[44]⟩, .string ⟨#[59]⟩, .string ⟨#[58]⟩, .string ⟨#[46]⟩, .string ⟨#[64]⟩] 9)) (.slice (some ⟨w.heap.size + 1, 0, none⟩) 9 9) sgnL) := Hd Q2
 go_enter Tryz.func201, Tryz.ntmps201
 go_wp2_with (first
  | (go_at_call 234; with_reducible refine (HS.out _).mono ?_; rintro e w1 ⟨rfl, rfl⟩)
  | (go_at_call 235; with_reducible refine (HG.out _).mono ?_; rintro e w1 ⟨rfl, rfl⟩)
  | (go_at_call 240; with_reducible refine (HD.out _).mono ?_; rintro e w1 ⟨rfl, rfl⟩)
  | (go_at_call 237; with_reducible refine (HIN.out _ _ HSL.out).mono ?_; rintro e w3 ⟨rfl, rfl⟩))
 all_goals
  have hB : Below w.heap.size w _ := below2X w (.cells #[.int .i64 0, .string ⟨#[]⟩, .int .i64 0, .int .i64 0] 159) (.cells #[.string ⟨#[61]⟩, .string ⟨#[124]⟩, .string ⟨#[40]⟩, .string ⟨#[41]⟩, .string ⟨#[44]⟩, .string ⟨#[59]⟩, .string ⟨#[58]⟩, .string ⟨#[46]⟩, .string ⟨#[64]⟩] 9)
  have k0 := hb_alloc (hb_new w (.cells #[.int .i64 0, .string ⟨#[]⟩, .int .i64 0, .int .i64 0] 159)) (.cells #[.string ⟨#[61]⟩, .string ⟨#[124]⟩, .string ⟨#[40]⟩, .string ⟨#[41]⟩, .string ⟨#[44]⟩, .string ⟨#[59]⟩, .string ⟨#[58]⟩, .string ⟨#[46]⟩, .string ⟨#[64]⟩] 9)
  have r0 := hb_at k0 0 rfl
  have r1 := hb_at k0 1 rfl
  have r2 := hb_at k0 2 rfl
  have r3 := hb_at k0 3 rfl
  exact bodyPost_ret (v := .tuple #[tk0.v 0, .int .i64 0]) Q38 rfl ⟨rfl, by first | exact hB | exact below2X w _ _ | exact (((hB.setCell (by simp) _).setCell (by simp) _).setCell (by simp) _).setCell (by simp) _⟩
theorem one_doc (s : ByteArray) (hm : s.size ≤ 4194304) (h0 : 0 < s.size) (w : World) :
 Calls Tryz.prog 201 #[.string s, .int .i64 0] w fun e w' => e = .returned (.tuple #[(oneT s.data.toList).1.v 0, .int .i64 (oneT s.data.toList).2]) ∧ Below w.heap.size w w' := by
 rw [oneT_at (at_list s 0 h0)]
 by_cases hc : (smB s[0] || grB s[0] || decide (s[0].toNat = 95)) = true
 · rw [if_pos hc]; exact one_name s hm h0 hc w
 rw [if_neg hc]
 simp only [Bool.not_eq_true, Bool.or_eq_false_iff, decide_eq_false_iff_not] at hc
 obtain ⟨⟨hS, hG⟩, n95⟩ := hc
 by_cases h39 : s[0].toNat = 39
 · rw [if_pos h39]; exact one_var s hm h0 h39 w
 rw [if_neg h39]
 by_cases h34 : s[0].toNat = 34
 · rw [if_pos h34]; exact one_text s hm h0 h34 w
 rw [if_neg h34]
 by_cases hp : s.data.toList.take 2 = [45, 62]
 · rw [if_pos hp]
   have h45 : s[0].toNat = 45 := by
    have h1 := take_head (n := 2) (at_list s 0 h0) (by omega)
    rw [hp] at h1
    have h2 : (45 : UInt8) = s[0] := by simpa using h1
    rw [← h2]; rfl
   exact one_arrow s hm h0 h45 hp w
 rw [if_neg hp]
 by_cases hd : dgB s[0] = true
 · by_cases hv : 0 < verD s.data.toList
   · rw [if_pos ⟨hd, hv⟩]; exact one_version s hm h0 hd hv w
   · obtain ⟨_, _, _, _, _, n45, _⟩ := dg_far hd
     rw [if_neg (fun h => hv h.2), if_pos (by rw [hd]; rfl), if_neg n45]
     exact one_int0 s hm h0 hd (by omega) w
 rw [if_neg (fun h => hd h.1)]
 rw [Bool.not_eq_true] at hd
 by_cases h45 : s[0].toNat = 45
 · rw [if_pos (by rw [h45]; simp), if_pos h45]
   exact one_int1 s hm h0 h45 hp w
 rw [if_neg (by rw [hd]; simp [h45])]
 by_cases h9 : isS9 s[0].toNat = true
 · rw [if_pos h9]; exact one_sign s hm h0 hS hG hd n95 h39 h34 h45 h9 w
 · rw [if_neg h9]
   rw [Bool.not_eq_true] at h9
   exact one_none s hm h0 hS hG hd n95 h39 h34 h45 h9 w
theorem txF_1000 (L : List UInt8) : ∀ (f i : Nat) (said r : List UInt8) (n : Nat), txF L f i said = some (r, n) → r.length ≤ 1000 := by
 intro f
 induction f with
 | zero => intro i said r n h; cases h
 | succ f ih =>
  intro i said r n h
  unfold txF at h
  split at h
  · cases h
  · rename_i h1000
    cases hc : L[i]? with
    | none => rw [hc] at h; cases h
    | some c =>
     rw [hc] at h
     simp only [] at h
     split at h
     · cases h; omega
     · split at h
       · cases h
       · split at h
         · cases hd : L[i + 1]? with
           | none => rw [hd] at h; cases h
           | some d =>
            rw [hd] at h
            simp only [] at h
            split at h
            · exact ih _ _ _ _ h
            · cases h
         · exact ih _ _ _ _ h
theorem int_range {l : List UInt8} (h : intM l ≠ 0) : -999999999999999999 ≤ intV l ∧ intV l ≤ 999999999999999999 := by
 cases hp : Lib.hasPrefix l [45]
 · obtain ⟨e1, e2, e3⟩ := intM_plain hp h
   obtain ⟨m, hm, hs⟩ := intD_dec e2 e3
   have hV : intV l = (m : Int) := by unfold intV; rw [hp, hm]; rfl
   have h2 := Lib.decFrom_lt18 (Lib.decNat_some hm).2 (by rw [intD_len]; exact e3)
   omega
 · obtain ⟨e1, e0, e2, e3⟩ := intM_neg hp h
   obtain ⟨m, hm, hs⟩ := intD_dec e2 e3
   have hV : intV l = -(m : Int) := by unfold intV; rw [hp, hm]; rfl
   have h2 := Lib.decFrom_lt18 (Lib.decNat_some hm).2 (by rw [intD_len]; exact e3)
   omega
def KindT (t : Tk) : Prop := 1 ≤ t.k ∧ t.k ≤ 8 ∧ t.s.size ≤ 1000 ∧ (-999999999999999999 ≤ t.n ∧ t.n ≤ 999999999999999999)
theorem kind_mk (k : Int) (s : ByteArray) (n : Int) (h1 : 1 ≤ k) (h2 : k ≤ 8) (h3 : s.size ≤ 1000) (h4 : -999999999999999999 ≤ n) (h5 : n ≤ 999999999999999999) : KindT ⟨k, s, n⟩ := ⟨h1, h2, h3, h4, h5⟩
theorem ofL_small {l : List UInt8} {n m : Nat} (h : n ≤ m) : (ofL (l.take n)).size ≤ m := by
 rw [ofL_size, List.length_take]; omega
theorem nameT_kind {kind : Int} {l : List UInt8} {t : Tk} {n : Nat} (hk : kind = 1 ∨ kind = 2) (h : nameT kind (ofL l) = (t, n)) (h0 : 0 < n) : KindT t := by
 rw [nameT_ofL] at h
 split at h
 · cases h; omega
 · rename_i h30
   cases h
   have hs : (ofL (l.take (cnt nmB l))).size ≤ 1000 := ofL_small (by omega)
   cases keyB (ofL (l.take (cnt nmB l)))
   · exact kind_mk _ _ _ Q69 Q69 hs (by omega) (by omega)
   · exact kind_mk _ _ _ (by simp) (by simp) hs (by omega) (by omega)
theorem first_kinds {l : List UInt8} {t : Tk} {n : Nat} (h : firstT (ofL l) = (t, n)) (h0 : 0 < n) : KindT t := by
 cases hc : l[0]? with
 | none => rw [firstT_none hc] at h; cases h; omega
 | some c =>
  rw [firstT_at hc] at h
  split at h
  · exact nameT_kind (.inl rfl) h h0
  · split at h
    · exact nameT_kind (.inr rfl) h h0
    · split at h
      · rw [varT_ofL] at h
        split at h
        · cases h; omega
        · rename_i hcond
          cases h
          exact kind_mk _ _ _ (by omega) (by omega) (ofL_small (by omega)) (by omega) (by omega)
      · split at h
        · obtain ⟨r, hr, rfl⟩ := textT_some h h0
          have := txF_1000 _ _ _ _ _ _ hr
          exact kind_mk _ _ _ (by omega) (by omega) (by rw [ofL_size]; exact this) (by omega) (by omega)
        · split at h
          · rw [numT_ofL] at h
            split at h
            · cases h
              have h20 := verF_le (ofL l) (min (ofL l).size 20)
              have hv : verM (ofL l) ≤ 20 := Nat.le_trans h20 (Nat.min_le_right _ _)
              exact kind_mk _ _ _ (by omega) (by omega) (ofL_small (by omega)) (by omega) (by omega)
            · split at h
              · cases h; omega
              · rename_i hi
                cases h
                have := int_range hi
                exact kind_mk _ _ _ (by omega) (by omega) (Nat.zero_le _) this.1 this.2
          · rw [signT_ofL] at h
            split at h
            · cases h; exact kind_mk _ _ _ (by omega) (by omega) (ofL_small (by omega)) (by omega) (by omega)
            · split at h
              · cases h; exact kind_mk _ _ _ (by omega) (by omega) (ofL_small (by omega)) (by omega) (by omega)
              · cases h; omega
theorem right_iff (t : Tk) : RightT t ↔ (1 ≤ t.k ∧ t.k ≤ 8 ∧ t.s.size ≤ 1000 ∧ (t.k = 4 → -999999999999999999 ≤ t.n ∧ t.n ≤ 999999999999999999) ∧ 0 < (tellT t).length ∧ oneT (tellT t) = (t, (tellT t).length)) := by
 constructor
 · rintro ⟨h0, h1⟩
   obtain ⟨k1, k2, k3, k4⟩ := first_kinds h1 h0
   exact ⟨k1, k2, k3, fun _ => k4, h0, (one_first h0).2 h1⟩
 · rintro ⟨_, _, _, _, h0, h1⟩
   exact ⟨h0, (one_first h0).1 h1⟩
theorem right_doc (t : Tk) (a : Int) (hm : t.s.size ≤ 1000000) (w : World) :
 Calls Tryz.prog 146 #[t.v a] w fun e w' => e = .returned (.bool (rightB t)) ∧ Below w.heap.size w w' := by
 have hI := right_iff t
 have HT0 := Hd (fun hf W => told_doc t a (by omega) hf W)
 have hlen := fun h1 h2 => tellT_len t h1 h2
 have hlen4 : t.k ≠ 4 → (tellT t).length ≤ 2 * t.s.size + 22 := by
  intro h4
  have hl := tellT_len ⟨t.k, t.s, 0⟩ (by simp) (by simp)
  have e : tellT ⟨t.k, t.s, 0⟩ = tellT t := by unfold tellT; simp only [if_neg h4]
  rw [e] at hl
  exact hl
 obtain ⟨L, hL⟩ : ∃ L, tellT t = L := ⟨_, rfl⟩
 rw [hL] at hI HT0 hlen hlen4
 obtain ⟨D, hD⟩ : ∃ D, ofL L = D := ⟨_, rfl⟩
 have hDs : D.size = L.length := by rw [← hD, ofL_size]
 have hDL : D.data.toList = L := by rw [← hD]
 rw [hD] at HT0
 rw [← hDL, len_list] at hI
 obtain ⟨k, s, n⟩ := t
 have hm' : s.size ≤ 1000000 := hm
 have hI' : RightT ⟨k, s, n⟩ ↔ (1 ≤ k ∧ k ≤ 8 ∧ s.size ≤ 1000 ∧ (k = 4 → -999999999999999999 ≤ n ∧ n ≤ 999999999999999999) ∧ 0 < D.size ∧ oneT D.data.toList = (⟨k, s, n⟩, D.size)) := hI
 have HT : RowKit.Hid ((k = 4 → -999999999999999999 ≤ n ∧ n ≤ 999999999999999999) → ∀ W, Calls Tryz.prog 147 #[.agg #[.int .i64 k, .string s, .int .i64 n, .int .i64 a]] W fun e w' => e = .returned (.string D) ∧ Below W.heap.size W w') := HT0
 have hlen' : -9223372036854775808 ≤ n → n ≤ 9223372036854775807 → L.length ≤ 2 * s.size + 22 := hlen
 have hlen4' : k ≠ 4 → L.length ≤ 2 * s.size + 22 := hlen4
 clear hI HT0 hlen hlen4 hL hD hm
 unfold Tk.v
 show Calls Tryz.prog 146 #[.agg #[.int .i64 k, .string s, .int .i64 n, .int .i64 a]] w _
 by_cases h1 : k < 1
 · have d1 : decide (k < 1) = true := by simpa using h1
   have HB := Hd (rightB_no (fun h => by have := (hI'.1 h).1; omega))
   clear hI' hDs hDL
   go_enter Tryz.func146, Tryz.ntmps146
   go_wp2
   go_ret
   exact ⟨ret_bool HB.out.symm, below_alloc w _⟩
 have d1 : decide (k < 1) = false := by simpa using h1
 by_cases h2 : 8 < k
 · have d2 : decide (8 < k) = true := by simpa using h2
   have HB := Hd (rightB_no (fun h => by have := (hI'.1 h).2.1; omega))
   clear hI' hDs hDL
   go_enter Tryz.func146, Tryz.ntmps146
   go_wp2
   go_ret
   exact ⟨ret_bool HB.out.symm, below_alloc w _⟩
 have d2 : decide (8 < k) = false := by simpa using h2
 by_cases h3 : 1000 < s.size
 · have d3 : decide ((1000 : Int) < (s.size : Int)) = true := by simp; omega
   have HB := Hd (rightB_no (fun h => by have := (hI'.1 h).2.2.1; omega))
   clear hI' hDs hDL
   go_enter Tryz.func146, Tryz.ntmps146
   go_wp2
   go_ret
   exact ⟨ret_bool HB.out.symm, below_alloc w _⟩
 have d3 : decide ((1000 : Int) < (s.size : Int)) = false := by simp; omega
 have hrange : (k = 4 ∧ (n < -999999999999999999 ∨ (¬ n < -999999999999999999 ∧ 999999999999999999 < n))) ∨ (k = 4 → -999999999999999999 ≤ n ∧ n ≤ 999999999999999999) := by omega
 rcases hrange with ⟨h4, h5⟩ | h4
 · have HB := Hd (rightB_no (fun h => by have := (hI'.1 h).2.2.2.1 h4; omega))
   subst h4
   clear hI' hDs hDL
   rcases h5 with h5 | ⟨h5, h6⟩
   · have d5 : decide (n < -999999999999999999) = true := by simpa using h5
     go_enter Tryz.func146, Tryz.ntmps146
     go_wp2
     go_ret
     exact ⟨ret_bool HB.out.symm, below_alloc w _⟩
   · have d5 : decide (n < -999999999999999999) = false := by simpa using h5
     have d6 : decide (999999999999999999 < n) = true := by simpa using h6
     go_enter Tryz.func146, Tryz.ntmps146
     go_wp2
     go_ret
     exact ⟨ret_bool HB.out.symm, below_alloc w _⟩
 have HTT := Hd (HT.out h4)
 have hLl : L.length ≤ 2 * s.size + 22 := by
   by_cases hk4 : k = 4
   · have := h4 hk4
     exact hlen' (by omega) (by omega)
   · exact hlen4' hk4
 have hDm : D.size ≤ 4194304 := by omega
 have G : (k = 4 ∧ (k == 4) = true ∧ decide (n < -999999999999999999) = false ∧ decide (999999999999999999 < n) = false) ∨ ((k == 4) = false) := by
   by_cases hk4 : k = 4
   · have := h4 hk4
     exact .inl ⟨hk4, by simpa using hk4, by simp; omega, by simp; omega⟩
   · exact .inr (by simpa using hk4)
 clear hlen' hlen4' HT hDs hDL hLl
 have HEAD : RowKit.Hid True := Hd trivial
 by_cases hz : D.size = 0
 · have hDe : (D.toList == []) = true := by
    rw [ByteArray.toList_eq, beq_iff_eq]
    apply List.eq_nil_of_length_eq_zero
    rw [len_list]; exact hz
   have HB := Hd (rightB_no (fun h => by have := (hI'.1 h).2.2.2.2.1; omega))
   clear hI' h4 hz
   rcases G with ⟨rfl, g1, g2, g3⟩ | g1
   all_goals
    go_enter Tryz.func146, Tryz.ntmps146
    go_wp2_with (go_at_call 147; with_reducible refine (HTT.out _).mono ?_; rintro e w1 ⟨rfl, hb⟩)
    go_ret
    exact ⟨ret_bool HB.out.symm, (below_alloc w _).trans (hb.mono (by simp))⟩
 have hDe : (D.toList == []) = false := by
   rw [beq_eq_false_iff_ne]
   intro e
   have := congrArg List.length e
   rw [ByteArray.toList_eq, len_list] at this
   exact hz this
 have HO := Hd (fun W => one_doc D hDm (by omega) W)
 obtain ⟨T, hT⟩ : ∃ T, oneT D.data.toList = T := ⟨_, rfl⟩
 rw [hT] at HO hI'
 obtain ⟨⟨uk, us, un⟩, m⟩ := T
 have HO2 : RowKit.Hid (∀ W, Calls Tryz.prog 201 #[.string D, .int .i64 0] W fun e w' => e = .returned (.tuple #[.agg #[.int .i64 uk, .string us, .int .i64 un, .int .i64 0], .int .i64 (m : Nat)]) ∧ Below W.heap.size W w') := HO
 clear HO hT
 have hI2 : RightT ⟨k, s, n⟩ ↔ (m = D.size ∧ uk = k ∧ us = s ∧ un = n) := by
   rw [hI']
   constructor
   · rintro ⟨_, _, _, _, _, h⟩
     cases h
     exact ⟨rfl, rfl, rfl, rfl⟩
   · rintro ⟨e1, e2, e3, e4⟩
     subst e1 e2 e3 e4
     exact ⟨by omega, by omega, by omega, h4, by omega, rfl⟩
 have HI2 := Hd hI2
 clear hI' hI2 h4 hz
 by_cases q1 : m = D.size
 rotate_left
 · have HB := Hd (rightB_no (fun h => q1 (HI2.out.1 h).1))
   have p1 : ((m : Int) == (D.size : Int)) = false := by rw [beq_eq_false_iff_ne]; omega
   clear q1
   rcases G with ⟨rfl, g1, g2, g3⟩ | g1
   all_goals
    go_enter Tryz.func146, Tryz.ntmps146
    go_wp2_with (first
     | (go_at_call 147; with_reducible refine (HTT.out _).mono ?_; rintro e w1 ⟨rfl, hb1⟩; have HB1 := Hd hb1; have z1 := hb1.size; rw [World.size_alloc] at z1; clear hb1)
     | (go_at_call 201; with_reducible refine (HO2.out _).mono ?_; rintro e w2 ⟨rfl, hb2⟩; have HB2 := Hd hb2; have z2 := hb2.size; have y2 : w.heap.size < w2.heap.size := (by omega); have k2 := hb_below (hb_below (hb_new w _) HB1.out (by simp)) hb2 (by omega); have r0 := hb_at k2 0 rfl; have r1 := hb_at k2 1 rfl; have r2 := hb_at k2 2 rfl; have r3 := hb_at k2 3 rfl; clear hb2 k2))
    have hB2 : Below w.heap.size w w2 := ((below_alloc w _).trans (HB1.out.mono (by simp))).trans (HB2.out.mono (by omega))
    have hB4 := hB2.alloc hB2.size (.cells #[.int .i64 uk, .string us, .int .i64 un, .int .i64 0] 159)
    go_ret
    exact ⟨ret_bool HB.out.symm, hB4⟩
 have p1 : ((m : Int) == (D.size : Int)) = true := by rw [beq_iff_eq]; omega
 by_cases q2 : uk = k
 rotate_left
 · have HB := Hd (rightB_no (fun h => q2 (HI2.out.1 h).2.1))
   have p2 : (uk == k) = false := by simpa using q2
   clear q1 q2
   rcases G with ⟨rfl, g1, g2, g3⟩ | g1
   all_goals
    go_enter Tryz.func146, Tryz.ntmps146
    go_wp2_with (first
     | (go_at_call 147; with_reducible refine (HTT.out _).mono ?_; rintro e w1 ⟨rfl, hb1⟩; have HB1 := Hd hb1; have z1 := hb1.size; rw [World.size_alloc] at z1; clear hb1)
     | (go_at_call 201; with_reducible refine (HO2.out _).mono ?_; rintro e w2 ⟨rfl, hb2⟩; have HB2 := Hd hb2; have z2 := hb2.size; have y2 : w.heap.size < w2.heap.size := (by omega); have k2 := hb_below (hb_below (hb_new w _) HB1.out (by simp)) hb2 (by omega); have r0 := hb_at k2 0 rfl; have r1 := hb_at k2 1 rfl; have r2 := hb_at k2 2 rfl; have r3 := hb_at k2 3 rfl; clear hb2 k2))
    have hB2 : Below w.heap.size w w2 := ((below_alloc w _).trans (HB1.out.mono (by simp))).trans (HB2.out.mono (by omega))
    have hB4 := hB2.alloc hB2.size (.cells #[.int .i64 uk, .string us, .int .i64 un, .int .i64 0] 159)
    go_ret
    exact ⟨ret_bool HB.out.symm, hB4⟩
 have p2 : (uk == k) = true := by simpa using q2
 by_cases q3 : us = s
 rotate_left
 · have HB := Hd (rightB_no (fun h => q3 (HI2.out.1 h).2.2.1))
   have p3 : (us.toList == s.toList) = false := by rw [beq_eq_false_iff_ne]; exact fun e => q3 (toList_injX e)
   clear q1 q2 q3
   rcases G with ⟨rfl, g1, g2, g3⟩ | g1
   all_goals
    go_enter Tryz.func146, Tryz.ntmps146
    go_wp2_with (first
     | (go_at_call 147; with_reducible refine (HTT.out _).mono ?_; rintro e w1 ⟨rfl, hb1⟩; have HB1 := Hd hb1; have z1 := hb1.size; rw [World.size_alloc] at z1; clear hb1)
     | (go_at_call 201; with_reducible refine (HO2.out _).mono ?_; rintro e w2 ⟨rfl, hb2⟩; have HB2 := Hd hb2; have z2 := hb2.size; have y2 : w.heap.size < w2.heap.size := (by omega); have k2 := hb_below (hb_below (hb_new w _) HB1.out (by simp)) hb2 (by omega); have r0 := hb_at k2 0 rfl; have r1 := hb_at k2 1 rfl; have r2 := hb_at k2 2 rfl; have r3 := hb_at k2 3 rfl; clear hb2 k2))
    have hB2 : Below w.heap.size w w2 := ((below_alloc w _).trans (HB1.out.mono (by simp))).trans (HB2.out.mono (by omega))
    have hB4 := hB2.alloc hB2.size (.cells #[.int .i64 uk, .string us, .int .i64 un, .int .i64 0] 159)
    go_ret
    exact ⟨ret_bool HB.out.symm, hB4⟩
 have p3 : (us.toList == s.toList) = true := by rw [q3]; simp
 by_cases q4 : un = n
 rotate_left
 · have HB := Hd (rightB_no (fun h => q4 (HI2.out.1 h).2.2.2))
   have p4 : (un == n) = false := by simpa using q4
   clear q1 q2 q3 q4
   rcases G with ⟨rfl, g1, g2, g3⟩ | g1
   all_goals
    go_enter Tryz.func146, Tryz.ntmps146
    go_wp2_with (first
     | (go_at_call 147; with_reducible refine (HTT.out _).mono ?_; rintro e w1 ⟨rfl, hb1⟩; have HB1 := Hd hb1; have z1 := hb1.size; rw [World.size_alloc] at z1; clear hb1)
     | (go_at_call 201; with_reducible refine (HO2.out _).mono ?_; rintro e w2 ⟨rfl, hb2⟩; have HB2 := Hd hb2; have z2 := hb2.size; have y2 : w.heap.size < w2.heap.size := (by omega); have k2 := hb_below (hb_below (hb_new w _) HB1.out (by simp)) hb2 (by omega); have r0 := hb_at k2 0 rfl; have r1 := hb_at k2 1 rfl; have r2 := hb_at k2 2 rfl; have r3 := hb_at k2 3 rfl; clear hb2 k2))
    have hB2 : Below w.heap.size w w2 := ((below_alloc w _).trans (HB1.out.mono (by simp))).trans (HB2.out.mono (by omega))
    have hB4 := hB2.alloc hB2.size (.cells #[.int .i64 uk, .string us, .int .i64 un, .int .i64 0] 159)
    go_ret
    exact ⟨ret_bool HB.out.symm, hB4⟩
 have p4 : (un == n) = true := by simpa using q4
 have HB := Hd (rightB_yes (HI2.out.2 ⟨q1, q2, q3, q4⟩))
 clear q1 q2 q3 q4
 rcases G with ⟨rfl, g1, g2, g3⟩ | g1
 all_goals
   go_enter Tryz.func146, Tryz.ntmps146
   go_wp2_with (first
    | (go_at_call 147; with_reducible refine (HTT.out _).mono ?_; rintro e w1 ⟨rfl, hb1⟩; have HB1 := Hd hb1; have z1 := hb1.size; rw [World.size_alloc] at z1; clear hb1)
    | (go_at_call 201; with_reducible refine (HO2.out _).mono ?_; rintro e w2 ⟨rfl, hb2⟩; have HB2 := Hd hb2; have z2 := hb2.size; have y2 : w.heap.size < w2.heap.size := (by omega); have k2 := hb_below (hb_below (hb_new w _) HB1.out (by simp)) hb2 (by omega); have r0 := hb_at k2 0 rfl; have r1 := hb_at k2 1 rfl; have r2 := hb_at k2 2 rfl; have r3 := hb_at k2 3 rfl; clear hb2 k2))
   have hB2 : Below w.heap.size w w2 := ((below_alloc w _).trans (HB1.out.mono (by simp))).trans (HB2.out.mono (by omega))
   have hB4 := hB2.alloc hB2.size (.cells #[.int .i64 uk, .string us, .int .i64 un, .int .i64 0] 159)
   go_ret
   exact ⟨ret_bool HB.out.symm, hB4⟩
theorem may_any (k : Int) (s : ByteArray) (n : Int) (hs : s.size ≤ 1000000) (w : World) : Calls Tryz.prog 90 #[.int .i64 k, .string s, .int .i64 n] w (Ans (rB k s n) w) := by
 have HR2 : RowKit.Hid (Calls Tryz.prog 146 #[.agg #[.int .i64 k, .string s, .int .i64 n, .int .i64 0]] w fun e w' => e = .returned (.bool (rB k s n)) ∧ Below w.heap.size w w') := Hd (right_doc ⟨k, s, n⟩ 0 hs w)
 go_enter Tryz.func90, Tryz.ntmps90
 go_wp2_with (go_at_call 146; ((with_reducible refine HR2.out.mono ?_); rintro e w1 ⟨rfl, hb⟩))
 go_ret
 exact ⟨rfl, hb⟩
theorem isVar_any (s : ByteArray) (hs : s.size ≤ 1000000) (w : World) : Calls Tryz.prog 83 #[.string s] w (Ans (rB 3 s 0) w) := by
 have HR := Hd (may_any 3 s 0 hs w)
 go_enter Tryz.func83, Tryz.ntmps83
 go_wp2_with (go_at_call 90; ((with_reducible refine HR.out.mono ?_); rintro e w1 ⟨rfl, hb⟩))
 go_ret
 exact ⟨rfl, hb⟩
theorem isLower_any (s : ByteArray) (hs : s.size ≤ 1000000) (w : World) : Calls Tryz.prog 63 #[.string s] w (Ans (rB 1 s 0) w) := by
 have HR := Hd (may_any 1 s 0 hs w)
 go_enter Tryz.func63, Tryz.ntmps63
 go_wp2_with (go_at_call 90; ((with_reducible refine HR.out.mono ?_); rintro e w1 ⟨rfl, hb⟩))
 go_ret
 exact ⟨rfl, hb⟩
theorem isUpper_any (s : ByteArray) (hs : s.size ≤ 1000000) (w : World) : Calls Tryz.prog 61 #[.string s] w (Ans (rB 2 s 0) w) := by
 have HR := Hd (may_any 2 s 0 hs w)
 go_enter Tryz.func61, Tryz.ntmps61
 go_wp2_with (go_at_call 90; ((with_reducible refine HR.out.mono ?_); rintro e w1 ⟨rfl, hb⟩))
 go_ret
 exact ⟨rfl, hb⟩
noncomputable def pkgB (s : ByteArray) : Bool := (s.toList == []) || rB 2 s 0
theorem pkg_any (s : ByteArray) (hs : s.size ≤ 1000000) (w : World) : Calls Tryz.prog 84 #[.string s] w (Ans (pkgB s) w) := by
 have HR := Hd (isUpper_any s hs w)
 unfold pkgB
 cases hp : (s.toList == [])
 all_goals
  go_enter Tryz.func84, Tryz.ntmps84
  go_wp2_with (go_at_call 61; ((with_reducible refine HR.out.mono ?_); rintro e w1 ⟨rfl, hb⟩))
  go_ret
  first
  | exact ⟨rfl, Below.refl _ _⟩
  | exact ⟨rfl, hb⟩
def hasB (s : ByteArray) (c : Int) (k : Nat) : Bool := (s.data.toList.take k).any fun x => ((x.toNat : Int) == c)
theorem take_nextJ {α : Type} {l : List α} {k : Nat} {x : α} (h : l[k]? = some x) : l.take (k + 1) = l.take k ++ [x] := by
 rw [List.take_add_one, h]; rfl
theorem hasB_next {s : ByteArray} {c : Int} {k : Nat} (h : k < s.size) : hasB s c (k + 1) = (hasB s c k || (((s[k]'h).toNat : Int) == c)) := by
 unfold hasB
 rw [take_nextJ (at_list s k h), List.any_append]
 simp
def onlyB (s p n : ByteArray) (N : Int) : Bool := (hasB s 112 s.size || (p.toList == [])) && ((hasB s 110 s.size || (n.toList == [])) && (hasB s 107 s.size || (N == 0)))
theorem only_any (k : Int) (p n : ByteArray) (N : Int) (q : Option Addr) (l c : Nat) (s : ByteArray) (hs : s.size ≤ 1000) (w : World) : Calls Tryz.prog 82 #[tv k p n N (.slice q l c), .string s] w (Ans (onlyB s p n N) w) := by
 unfold onlyB
 have hnew := Hd (hb_new w (.cells #[.int .i64 k, .string p, .string n, .int .i64 N, .slice q l c] 24))
 go_enter Tryz.func82, Tryz.ntmps82
 go_wp2
 go_loopw [5, 6, 7, 8] (fun a b d i wr => ∃ j : Nat, j ≤ s.size ∧ a = .bool (hasB s 112 j) ∧ b = .bool (hasB s 110 j) ∧ d = .bool (hasB s 107 j) ∧ i = .int .i64 j ∧ wr = w.alloc (.cells #[.int .i64 k, .string p, .string n, .int .i64 N, .slice q l c] 24)) (fun _ _ _ i _ => s.size - (intOf i).toNat)
 case atStart => exact ⟨0, Nat.zero_le _, rfl, rfl, rfl, rfl, rfl⟩
 case round =>
  obtain ⟨j, hj, rfl, rfl, rfl, rfl, rfl⟩ := hrel
  by_cases hlt : j < s.size
  · have hki : (j : Int) < (s.size : Int) := by omega
    have e1 := hasB_next (c := 112) hlt
    have e2 := hasB_next (c := 110) hlt
    have e3 := hasB_next (c := 107) hlt
    have E1 := Hd e1
    have E2 := Hd e2
    have E3 := Hd e3
    clear e1 e2 e3
    cases f1 : hasB s 112 j <;> cases f2 : hasB s 110 j <;> cases f3 : hasB s 107 j
    all_goals
     rw [f1] at E1
     rw [f2] at E2
     rw [f3] at E3
     go_wp2
     exact ⟨⟨j + 1, by omega, by rw [E1.out]; rfl, by rw [E2.out]; rfl, by rw [E3.out]; rfl, by first | rfl | trivial, by first | rfl | trivial⟩, by simp [intOf]; omega⟩
  · have hki : ¬ (j : Int) < (s.size : Int) := by omega
    obtain rfl : j = s.size := by omega
    have m1 := hb_at hnew.out 1 rfl
    have m2 := hb_at hnew.out 2 rfl
    have m3 := hb_at hnew.out 3 rfl
    generalize hasB s 112 s.size = f1 at *
    generalize hasB s 110 s.size = f2 at *
    generalize hasB s 107 s.size = f3 at *
    cases f1 <;> cases f2 <;> cases f3 <;> cases hp : (p.toList == []) <;> cases hn : (n.toList == [])
    all_goals
     go_wp2
     go_ret
     exact ⟨by first | rfl | simp, below_alloc w _⟩
end Go.Proofs.YtmkjalnlldpdcaaGreatDoor
