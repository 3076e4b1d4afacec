/- Texts in a row: T3 Lr Ls We. -/
import Derived.Test.YtmkjalnlldpdcaaGreatDoorZT9
import Derived.Deep.RegionHeld3
import Derived.Outline
import Derived.Test.YtmkjalnlldpdcaaGreatDoorZT11
import Derived.Test.YtmkjalnlldpdcaaGreatDoorZT2
set_option maxHeartbeats 16000000
set_option maxRecDepth 100000
namespace Go.Proofs.YtmkjalnlldpdcaaGreatDoor
open Go.RowKit
theorem toList_inj {a b : ByteArray} (h : a.toList = b.toList) : a = b := by
 rw [ByteArray.toList_eq, ByteArray.toList_eq] at h
 cases a; cases b
 simpa using h
end Go.Proofs.YtmkjalnlldpdcaaGreatDoor
namespace Go.Proofs.YtmkjalnlldpdcaaGreatDoor
open Go.RowKit
set_option linter.unusedSimpArgs false
set_option linter.unusedVariables false
noncomputable def rightB (t : Tk) : Bool := @decide (RightT t) (Classical.propDecidable _)
theorem rightB_yes {t : Tk} (h : RightT t) : rightB t = true := @decide_eq_true _ (Classical.propDecidable _) h
theorem rightB_no {t : Tk} (h : ¬ RightT t) : rightB t = false := @decide_eq_false _ (Classical.propDecidable _) h
theorem rightB_of {t : Tk} (h : rightB t = true) : RightT t := @of_decide_eq_true _ (Classical.propDecidable _) h
theorem right_any (t : Tk) (a : Int) (hm : t.s.size ≤ 1000000) (hf : Fits t) (w : World) (hw : LxW w) :
 Calls Tryz.prog 145 #[t.v a] w fun e w' => e = .returned (.bool (rightB t)) ∧ Below w.heap.size w w' := by
 have hlen := tellT_len t hf.1 hf.2
 have HT := Hd (fun W hW => tell_any t a (by omega) hf W hW)
 obtain ⟨L, hL⟩ : ∃ L, tellT t = L := ⟨_, rfl⟩
 rw [hL] at hlen HT
 obtain ⟨D, hD⟩ : ∃ D, ofL L = D := ⟨_, rfl⟩
 have hDs : D.size = L.length := by rw [← hD, ofL_size]
 rw [hD] at HT
 have HF := Hd (fun W hW => first_any D (by omega) W hW)
 have hR : RightT t ↔ (0 < D.size ∧ firstT D = (t, D.size)) := by
  unfold RightT
  rw [hL, hD, hDs]
 have HW := Hd hw
 rw [← hDs] at hlen
 clear hw hf hL hD hDs
 obtain ⟨T, hT⟩ : ∃ T, firstT D = T := ⟨_, rfl⟩
 rw [hT] at hR HF
 obtain ⟨⟨uk, us, un⟩, m⟩ := T
 obtain ⟨k, s, n⟩ := t
 have HT2 : RowKit.Hid (∀ W, LxW W → Calls Tryz.prog 200 #[.agg #[.int .i64 k, .string s, .int .i64 n, .int .i64 a]] W fun e w' => e = .returned (.string D) ∧ Below W.heap.size W w') := HT
 have HF2 : RowKit.Hid (∀ W, EscW W → Calls Tryz.prog 172 #[.string D] W fun e w' => e = .returned (.tuple #[.agg #[.int .i64 uk, .string us, .int .i64 un, .int .i64 0], .int .i64 (m : Nat)]) ∧ Below W.heap.size W w') := HF
 clear HT HF hT
 show Calls Tryz.prog 145 #[.agg #[.int .i64 k, .string s, .int .i64 n, .int .i64 a]] w _
 have hR' : RightT ⟨k, s, n⟩ ↔ (0 < m ∧ m = D.size ∧ (⟨uk, us, un⟩ : Tk) = ⟨k, s, n⟩) := by
  rw [hR]
  constructor
  · rintro ⟨h1, h2⟩
    rw [Prod.mk.injEq] at h2
    exact ⟨by omega, h2.2, h2.1⟩
  · rintro ⟨h1, h2, h3⟩
    exact ⟨by omega, by rw [h3, h2]⟩
 clear hR
 by_cases h0 : 0 < m
 rotate_left
 · have d0 : decide ((0 : Int) < (m : Int)) = false := by simp; omega
   have HB := Hd (rightB_no (fun h => h0 (hR'.1 h).1))
   clear hR' d0
   obtain rfl : m = 0 := by omega
   go_enter Tryz.func145, Tryz.ntmps145
   go_wp2_with (first
    | (go_at_call 200; refine (HT2.out _ (HW.out.below (below_alloc w _))).mono ?_; rintro e w1 ⟨rfl, hb1⟩; have HB1 := Hd hb1; have z1 := hb1.size; rw [World.size_alloc] at z1; clear hb1)
    | (go_at_call 172; refine (HF2.out _ ((HW.out.below (below_alloc w _)).below HB1.out).1).mono ?_; rintro e w2 ⟨rfl, hb2⟩; have HB2 := Hd hb2; have z2 := hb2.size; have y2 : w.heap.size < w2.heap.size := (by omega); have k2 := hb_below (hb_below (hb_new w (.cells #[.int .i64 k, .string s, .int .i64 n, .int .i64 a] 159)) HB1.out (by simp)) hb2 (by omega); have r0 := hb_at k2 0 rfl; have r1 := hb_at k2 1 rfl; have r2 := hb_at k2 2 rfl; have r3 := hb_at k2 3 rfl; have f0 := hb_free k2 0; have f1 := hb_free k2 1; have f2 := hb_free k2 2; have f3 := hb_free k2 3; clear hb2 k2))
   all_goals
    have hB2 : Below w.heap.size w w2 := ((below_alloc w _).trans (HB1.out.mono (by simp))).trans (HB2.out.mono (by omega))
    have hB3 := hB2.setCell (p := ⟨w.heap.size, 3, none⟩) (Nat.le_refl _) (.int .i64 0)
    have hB4 := hB3.alloc hB3.size (.cells #[.int .i64 uk, .string us, .int .i64 un, .int .i64 0] 159)
    go_ret
    exact ⟨ret_bool HB.out.symm, hB4⟩
 by_cases h1 : m = D.size
 rotate_left
 · have d1 : ((m : Int) == (D.size : Int)) = false := by rw [beq_eq_false_iff_ne]; omega
   have HB := Hd (rightB_no (fun h => h1 (hR'.1 h).2.1))
   clear hR' h1
   go_enter Tryz.func145, Tryz.ntmps145
   go_wp2_with (first
    | (go_at_call 200; refine (HT2.out _ (HW.out.below (below_alloc w _))).mono ?_; rintro e w1 ⟨rfl, hb1⟩; have HB1 := Hd hb1; have z1 := hb1.size; rw [World.size_alloc] at z1; clear hb1)
    | (go_at_call 172; refine (HF2.out _ ((HW.out.below (below_alloc w _)).below HB1.out).1).mono ?_; rintro e w2 ⟨rfl, hb2⟩; have HB2 := Hd hb2; have z2 := hb2.size; have y2 : w.heap.size < w2.heap.size := (by omega); have k2 := hb_below (hb_below (hb_new w (.cells #[.int .i64 k, .string s, .int .i64 n, .int .i64 a] 159)) HB1.out (by simp)) hb2 (by omega); have r0 := hb_at k2 0 rfl; have r1 := hb_at k2 1 rfl; have r2 := hb_at k2 2 rfl; have r3 := hb_at k2 3 rfl; have f0 := hb_free k2 0; have f1 := hb_free k2 1; have f2 := hb_free k2 2; have f3 := hb_free k2 3; clear hb2 k2))
   all_goals
    have hB2 : Below w.heap.size w w2 := ((below_alloc w _).trans (HB1.out.mono (by simp))).trans (HB2.out.mono (by omega))
    have hB3 := hB2.setCell (p := ⟨w.heap.size, 3, none⟩) (Nat.le_refl _) (.int .i64 0)
    have hB4 := hB3.alloc hB3.size (.cells #[.int .i64 uk, .string us, .int .i64 un, .int .i64 0] 159)
    go_ret
    exact ⟨ret_bool HB.out.symm, hB4⟩
 have d1 : ((m : Int) == (D.size : Int)) = true := by rw [beq_iff_eq]; omega
 by_cases h2 : (⟨uk, us, un⟩ : Tk) = ⟨k, s, n⟩
 · have HB := Hd (rightB_yes (hR'.2 ⟨h0, h1, h2⟩))
   cases h2
   clear hR'
   go_enter Tryz.func145, Tryz.ntmps145
   go_wp2_with (first
    | (go_at_call 200; refine (HT2.out _ (HW.out.below (below_alloc w _))).mono ?_; rintro e w1 ⟨rfl, hb1⟩; have HB1 := Hd hb1; have z1 := hb1.size; rw [World.size_alloc] at z1; clear hb1)
    | (go_at_call 172; refine (HF2.out _ ((HW.out.below (below_alloc w _)).below HB1.out).1).mono ?_; rintro e w2 ⟨rfl, hb2⟩; have HB2 := Hd hb2; have z2 := hb2.size; have y2 : w.heap.size < w2.heap.size := (by omega); have k2 := hb_below (hb_below (hb_new w (.cells #[.int .i64 uk, .string us, .int .i64 un, .int .i64 a] 159)) HB1.out (by simp)) hb2 (by omega); have r0 := hb_at k2 0 rfl; have r1 := hb_at k2 1 rfl; have r2 := hb_at k2 2 rfl; have r3 := hb_at k2 3 rfl; have f0 := hb_free k2 0; have f1 := hb_free k2 1; have f2 := hb_free k2 2; have f3 := hb_free k2 3; clear hb2 k2))
   all_goals
    have hB2 : Below w.heap.size w w2 := ((below_alloc w _).trans (HB1.out.mono (by simp))).trans (HB2.out.mono (by omega))
    have hB3 := hB2.setCell (p := ⟨w.heap.size, 3, none⟩) (Nat.le_refl _) (.int .i64 0)
    have hB4 := hB3.alloc hB3.size (.cells #[.int .i64 uk, .string us, .int .i64 un, .int .i64 0] 159)
    go_ret
    exact ⟨ret_bool HB.out.symm, hB4⟩
 · have HB := Hd (rightB_no (fun h => h2 (hR'.1 h).2.2))
   clear hR'
   by_cases e1 : uk = k
   rotate_left
   · clear h2
     go_enter Tryz.func145, Tryz.ntmps145
     go_wp2_with (first
      | (go_at_call 200; refine (HT2.out _ (HW.out.below (below_alloc w _))).mono ?_; rintro e w1 ⟨rfl, hb1⟩; have HB1 := Hd hb1; have z1 := hb1.size; rw [World.size_alloc] at z1; clear hb1)
      | (go_at_call 172; refine (HF2.out _ ((HW.out.below (below_alloc w _)).below HB1.out).1).mono ?_; rintro e w2 ⟨rfl, hb2⟩; have HB2 := Hd hb2; have z2 := hb2.size; have y2 : w.heap.size < w2.heap.size := (by omega); have k2 := hb_below (hb_below (hb_new w (.cells #[.int .i64 k, .string s, .int .i64 n, .int .i64 a] 159)) HB1.out (by simp)) hb2 (by omega); have r0 := hb_at k2 0 rfl; have r1 := hb_at k2 1 rfl; have r2 := hb_at k2 2 rfl; have r3 := hb_at k2 3 rfl; have f0 := hb_free k2 0; have f1 := hb_free k2 1; have f2 := hb_free k2 2; have f3 := hb_free k2 3; clear hb2 k2))
     all_goals
      have hB2 : Below w.heap.size w w2 := ((below_alloc w _).trans (HB1.out.mono (by simp))).trans (HB2.out.mono (by omega))
      have hB3 := hB2.setCell (p := ⟨w.heap.size, 3, none⟩) (Nat.le_refl _) (.int .i64 0)
      have hB4 := hB3.alloc hB3.size (.cells #[.int .i64 uk, .string us, .int .i64 un, .int .i64 0] 159)
      go_ret
      exact ⟨ret_bool HB.out.symm, hB4⟩
   subst e1
   by_cases e2 : us = s
   rotate_left
   · have e2' : ¬ us.toList = s.toList := fun e => e2 (toList_inj e)
     clear h2 e2
     go_enter Tryz.func145, Tryz.ntmps145
     go_wp2_with (first
      | (go_at_call 200; refine (HT2.out _ (HW.out.below (below_alloc w _))).mono ?_; rintro e w1 ⟨rfl, hb1⟩; have HB1 := Hd hb1; have z1 := hb1.size; rw [World.size_alloc] at z1; clear hb1)
      | (go_at_call 172; refine (HF2.out _ ((HW.out.below (below_alloc w _)).below HB1.out).1).mono ?_; rintro e w2 ⟨rfl, hb2⟩; have HB2 := Hd hb2; have z2 := hb2.size; have y2 : w.heap.size < w2.heap.size := (by omega); have k2 := hb_below (hb_below (hb_new w (.cells #[.int .i64 uk, .string s, .int .i64 n, .int .i64 a] 159)) HB1.out (by simp)) hb2 (by omega); have r0 := hb_at k2 0 rfl; have r1 := hb_at k2 1 rfl; have r2 := hb_at k2 2 rfl; have r3 := hb_at k2 3 rfl; have f0 := hb_free k2 0; have f1 := hb_free k2 1; have f2 := hb_free k2 2; have f3 := hb_free k2 3; clear hb2 k2))
     all_goals
      have hB2 : Below w.heap.size w w2 := ((below_alloc w _).trans (HB1.out.mono (by simp))).trans (HB2.out.mono (by omega))
      have hB3 := hB2.setCell (p := ⟨w.heap.size, 3, none⟩) (Nat.le_refl _) (.int .i64 0)
      have hB4 := hB3.alloc hB3.size (.cells #[.int .i64 uk, .string us, .int .i64 un, .int .i64 0] 159)
      go_ret
      exact ⟨ret_bool HB.out.symm, hB4⟩
   subst e2
   have e3 : ¬ un = n := fun e => h2 (by rw [e])
   clear h2
   go_enter Tryz.func145, Tryz.ntmps145
   go_wp2_with (first
     | (go_at_call 200; refine (HT2.out _ (HW.out.below (below_alloc w _))).mono ?_; rintro e w1 ⟨rfl, hb1⟩; have HB1 := Hd hb1; have z1 := hb1.size; rw [World.size_alloc] at z1; clear hb1)
     | (go_at_call 172; refine (HF2.out _ ((HW.out.below (below_alloc w _)).below HB1.out).1).mono ?_; rintro e w2 ⟨rfl, hb2⟩; have HB2 := Hd hb2; have z2 := hb2.size; have y2 : w.heap.size < w2.heap.size := (by omega); have k2 := hb_below (hb_below (hb_new w (.cells #[.int .i64 uk, .string us, .int .i64 n, .int .i64 a] 159)) HB1.out (by simp)) hb2 (by omega); have r0 := hb_at k2 0 rfl; have r1 := hb_at k2 1 rfl; have r2 := hb_at k2 2 rfl; have r3 := hb_at k2 3 rfl; have f0 := hb_free k2 0; have f1 := hb_free k2 1; have f2 := hb_free k2 2; have f3 := hb_free k2 3; clear hb2 k2))
   all_goals
     have hB2 : Below w.heap.size w w2 := ((below_alloc w _).trans (HB1.out.mono (by simp))).trans (HB2.out.mono (by omega))
     have hB3 := hB2.setCell (p := ⟨w.heap.size, 3, none⟩) (Nat.le_refl _) (.int .i64 0)
     have hB4 := hB3.alloc hB3.size (.cells #[.int .i64 uk, .string us, .int .i64 un, .int .i64 0] 159)
     go_ret
     exact ⟨ret_bool HB.out.symm, hB4⟩
theorem info9 : (Tryz.prog.info? 9).map (fun i => (i.zero, i.size, i.bytes)) = some (some (.string ⟨#[]⟩), 1, 16) := by kernel_rfl
theorem joinT_eq : ∀ ts : List Tk, joinT ts = Lib.join (ts.map tellT) [32] := by
 intro ts
 induction ts with
 | nil => rfl
 | cons t r ih =>
  cases r with
  | nil => simp [joinT, Lib.join_one]
  | cons u r =>
   rw [joinT, ih, List.map_cons, List.map_cons, List.map_cons, Lib.join, Lib.join, List.intercalate, List.intercalate]
   simp
def TxS (w : World) (v : Value) (ts : List ByteArray) (wr : World) : Prop := Below w.heap.size w wr ∧ wr.ownsRow w.heap.size 9 1 v ts.length (ts.map Value.string)
theorem TxS.below {w wr w2 : World} {v : Value} {ts : List ByteArray} (h : TxS w v ts wr) (hb : Below wr.heap.size wr w2) : TxS w v ts w2 := by
 refine ⟨h.1.trans (hb.mono h.1.size), ?_⟩
 have hg : wr.grownBy w2 none := ⟨hb.os, hb.tape, hb.output, hb.size, fun k hk _ => hb.block k hk⟩
 exact World.ownsRow.kept h.2 hg (by cases e : v.ownBlock <;> simp)
theorem TxS.grow {w wr w2 : World} {v v' : Value} {ts : List ByteArray} {s : ByteArray} (h : TxS w v ts wr) (ho : w2.ownsRow w.heap.size 9 1 v' (ts.length + 1) (ts.map Value.string ++ [.string s])) (hg : wr.grownBy w2 v.ownBlock) : TxS w v' (ts ++ [s]) w2 := by
 refine ⟨h.1.grown hg h.1.size fun k hk => (h.2.lt k hk).1, ?_⟩
 simpa using ho
theorem TxS.shape {w wr : World} {v : Value} {ts : List ByteArray} (h : TxS w v ts wr) : ∃ ao cap, v = .slice ao ts.length cap := by
 rcases h.2.2 with ⟨hv, h0⟩ | ⟨g, cap, cur, hv, _⟩
 · exact ⟨none, 0, by rw [hv, h0]⟩
 · exact ⟨_, _, hv⟩
theorem TxS.join {w wr : World} {v : Value} {ts : List ByteArray} (h : TxS w v ts wr) (hn : ts.length ≤ 140737488355328) (hl : (Lib.join (ts.map (·.data.toList)) [32]).length ≤ 140737488355328) :
 Calls Tryz.prog 152 #[v, .string ⟨#[32]⟩] wr fun e w' => e = .returned (.string (ofL (Lib.join (ts.map (·.data.toList)) [32]))) ∧ Below wr.heap.size wr w' := by
 rcases h.2.2 with ⟨hv, h0⟩ | ⟨g, cap, cur, hv, hb, hg, hc, r⟩
 · subst hv
   have := List.eq_nil_of_length_eq_zero h0
   subst this
   exact (Tryz.strings_Join_none none 0 ⟨#[32]⟩ wr).mono fun e w' ⟨h1, h2⟩ => ⟨h1, by rw [h2]; exact Below.refl _ _⟩
 · subst hv
   refine (Tryz.strings_Join g 0 cap ts ⟨#[32]⟩ wr ?_ (hb_lt hg) hn hc hl).mono fun e w' h => h
   intro j x hx
   have := h.2.cells (g := g) rfl j (.string x) (by rw [List.getElem?_map, hx]; rfl)
   rw [add_zero_none] at this
   rw [Nat.zero_add]
   exact this
def AllR (l : List (Tk × Int)) : Prop := ∀ x ∈ l, RightT x.1
def TellR (l : List (Tk × Int)) (w : World) (e : Ending) (w' : World) : Prop :=
 ((AllR l ∧ e = .returned (.tuple #[.string (ofL (joinT (l.map Prod.fst))), .int .i64 0])) ∨ (¬ AllR l ∧ e = .returned (.tuple #[.string ⟨#[]⟩, .int .i64 2]))) ∧ Below w.heap.size w w'
theorem joinT_len : ∀ (ts : List Tk) (m : Nat), (∀ t ∈ ts, (tellT t).length ≤ m) → (joinT ts).length ≤ ts.length * (m + 1) := by
 intro ts
 induction ts with
 | nil => intro m _; simp [joinT]
 | cons t r ih =>
  intro m h
  have h1 := h t (List.mem_cons_self ..)
  have h2 := ih m fun u hu => h u (List.mem_cons_of_mem _ hu)
  rw [joinT_cons, List.length_append, List.length_cons, Nat.add_mul]
  split
  · simp; omega
  · rw [List.length_cons]; omega
def ModL (l : List (Tk × Int)) : Prop := l.length ≤ 20000 ∧ ∀ x ∈ l, x.1.s.size ≤ 1000000 ∧ Fits x.1
theorem ModL.len {l : List (Tk × Int)} (h : ModL l) : (joinT (l.map Prod.fst)).length ≤ 40000460000 := by
 obtain ⟨m, hm⟩ : ∃ m, m = 2000022 := ⟨_, rfl⟩
 have h1 := joinT_len (l.map Prod.fst) m (by
  intro t ht
  obtain ⟨x, hx, rfl⟩ := List.mem_map.1 ht
  have h3 := h.2 x hx
  have h4 := tellT_len x.1 h3.2.1 h3.2.2
  omega)
 rw [List.length_map] at h1
 have h2 := Nat.mul_le_mul_right (m + 1) h.1
 have h5 : 20000 * (m + 1) = 40000460000 := by subst hm; rfl
 omega
theorem take_next {α : Type} {l : List α} {k : Nat} {x : α} (h : l[k]? = some x) : l.take (k + 1) = l.take k ++ [x] := by
 rw [List.take_add_one, h]; rfl
def txts (l : List (Tk × Int)) : List ByteArray := l.map fun x => ofL (tellT x.1)
theorem tellAll_any (v : Value) (l : List (Tk × Int)) (w : World) (hv : TksAt w v l) (hm : ModL l) (hw : LxW w) : Calls Tryz.prog 194 #[v] w (TellR l w) := by
 obtain ⟨q, c, rfl, hr⟩ := hv
 have hl := hm.1
 have hj := hm.len
 have HM := Hd hm.2
 have HR := Hd hr
 have HW := Hd hw
 clear hr hw hm
 obtain ⟨i0, hi, hz0, hz1, hz2⟩ := info_parts info9
 have HI := Hd hi
 have HZ0 := Hd hz0
 have HZ1 := Hd hz1
 have HZ2 := Hd hz2
 clear hi hz0 hz1 hz2
 go_enter Tryz.func194, Tryz.ntmps194
 go_wp2
 go_loopw [4, 9] (fun u i wr => ∃ k : Nat, i = .int .i64 k ∧ k ≤ l.length ∧ TxS w u (txts (l.take k)) wr ∧ AllR (l.take k)) (fun _ i _ => l.length - (intOf i).toNat)
 case atStart => exact ⟨0, rfl, Nat.zero_le _, ⟨Below.refl _ _, World.ownsRow_nil _ _ _ _⟩, fun x hx => by cases hx⟩
 case round =>
  obtain ⟨k, rfl, hk, hT, hA⟩ := hrel
  have HT := Hd hT
  have HA := Hd hA
  have hws := hT.1.size
  have HLW := Hd (HW.out.below hT.1)
  obtain ⟨ao, cap, hsh⟩ := hT.shape
  have hln : (txts (l.take k)).length = k := by unfold txts; rw [List.length_map, List.length_take]; omega
  rw [hln] at hsh
  subst hsh
  have HLN := Hd hln
  clear hT hA hln
  by_cases hlt : k < l.length
  · have hki : (k : Int) < (l.length : Int) := by omega
    have hx := List.getElem?_eq_getElem hlt
    generalize l[k] = x at *
    have hxm : x ∈ l := List.mem_of_getElem? hx
    obtain ⟨hs1, hs2⟩ := HM.out x hxm
    have HRT := Hd (fun W hW => right_any x.1 x.2 hs1 hs2 W hW)
    have HTL := Hd (fun W hW => tell_any x.1 x.2 (by omega) hs2 W hW)
    obtain ⟨b, o, rfl, ha⟩ := HR.out k x hx
    obtain ⟨x0, x1, x2, x3⟩ := ha.below HT.out.1
    have hN1 : txts (l.take (k + 1)) = txts (l.take k) ++ [ofL (tellT x.1)] := by unfold txts; rw [take_next hx]; simp
    have HN1 := Hd hN1
    have HX := Hd hx
    have HXM := Hd hxm
    clear ha hx hN1 hxm
    obtain ⟨⟨tk, ts, tn⟩, ta⟩ := x
    have HRT2 : RowKit.Hid (∀ W, LxW W → Calls Tryz.prog 145 #[.agg #[.int .i64 tk, .string ts, .int .i64 tn, .int .i64 ta]] W fun e w' => e = .returned (.bool (rightB ⟨tk, ts, tn⟩)) ∧ Below W.heap.size W w') := HRT
    have HTL2 : RowKit.Hid (∀ W, LxW W → Calls Tryz.prog 200 #[.agg #[.int .i64 tk, .string ts, .int .i64 tn, .int .i64 ta]] W fun e w' => e = .returned (.string (ofL (tellT ⟨tk, ts, tn⟩))) ∧ Below W.heap.size W w') := HTL
    clear HRT HTL
    simp only [] at x0 x1 x2 x3 hs1
    generalize hD : txts (l.take k) = D at *
    have HD := Hd hD
    clear hD
    rcases (Bool.eq_false_or_eq_true (rightB ⟨tk, ts, tn⟩)).symm with hb | hb
    · rw [hb] at HRT2
      have HNO : RowKit.Hid (¬ AllR l) := Hd (fun h => by
       have h1 := h _ HXM.out
       rw [rightB_yes h1] at hb
       cases hb)
      clear hb
      go_wp2_with (go_at_call 145; refine (HRT2.out _ (HLW.out.below (below_alloc wr _))).mono ?_; rintro e w1 ⟨rfl, hb1⟩; have HB1 := Hd hb1; clear hb1)
      go_ret2
      exact ⟨.inr ⟨HNO.out, rfl⟩, HT.out.1.trans (((below_alloc wr _).trans (HB1.out.mono (by simp))).mono hws)⟩
    · rw [hb] at HRT2
      have HYES := Hd (rightB_of hb)
      clear hb
      go_wp2_with (first
       | (go_at_call 145; refine (HRT2.out _ (HLW.out.below (below_alloc wr _))).mono ?_; rintro e w1 ⟨rfl, hb1⟩; have HB1 := Hd hb1; have z1 := hb1.size; rw [World.size_alloc] at z1; have k1 := hb_below (hb_new wr (.cells #[.int .i64 tk, .string ts, .int .i64 tn, .int .i64 ta] 159)) hb1 (by simp); have r0 := hb_at k1 0 rfl; have r1 := hb_at k1 1 rfl; have r2 := hb_at k1 2 rfl; have r3 := hb_at k1 3 rfl; clear hb1 k1)
       | (go_at_call 200; refine (HTL2.out _ ((HLW.out.below (below_alloc wr _)).below HB1.out)).mono ?_; rintro e w2 ⟨rfl, hb2⟩; have HB2 := Hd hb2; have z2 := hb2.size; clear hb2)
       | (at_builtin; refine (fun h : True → _ => h trivial) ?_))
      intro _
      have hT2 := ((HT.out.below (below_alloc wr (.cells #[.int .i64 tk, .string ts, .int .i64 tn, .int .i64 ta] 159))).below HB1.out).below HB2.out
      have hT3 := hT2.below (below_alloc w2 (.cells #[.string (ofL (tellT ⟨tk, ts, tn⟩))] 9))
      refine wpList_append_own_at _ rfl _ _ 57 rfl w.heap.size 9 i0 (.string ⟨#[]⟩) 1 16 Tryz.underlying57 HI.out HZ0.out HZ1.out HZ2.out rfl (by decide) _ _ _ rfl hT3.2 ⟨w2.heap.size, 0, none⟩ 1 1 [.string (ofL (tellT ⟨tk, ts, tn⟩))] rfl rfl (new_cells w2 #[.string (ofL (tellT ⟨tk, ts, tn⟩))] 9 _ rfl) Q64 (by have := HLN.out; unfold maxLen; omega) (by have := HLN.out; omega) (by have := hT3.1.size; omega) ?_
      intro v4 w4 ho4 hg4 _ _
      have hX4 := hT3.grow ho4 hg4
      have HX4 := Hd hX4
      clear ho4 hg4 hX4 hT2 hT3
      go_wp2
      exact ⟨⟨k + 1, rfl, by omega, by rw [HN1.out]; exact HX4.out, fun y hy => by
       rw [take_next HX.out] at hy
       rcases List.mem_append.1 hy with h | h
       · exact HA.out y h
       · rw [List.mem_singleton.1 h]; exact HYES.out⟩, by simp [intOf]; omega⟩
  · have hki : ¬ (k : Int) < (l.length : Int) := by omega
    obtain rfl : k = l.length := by omega
    have hfull : l.take l.length = l := List.take_length
    rw [hfull] at HT HA HLN
    have hmap : (txts l).map (·.data.toList) = (l.map Prod.fst).map tellT := by unfold txts; simp
    have HJ := Hd (HT.out.join (by have := HLN.out; omega) (by rw [hmap, ← joinT_eq]; omega))
    rw [hmap, ← joinT_eq] at HJ
    clear hmap hfull
    go_wp2_with (go_at_call 152; refine (HJ.out).mono ?_; rintro e w1 ⟨rfl, hb1⟩; have HB1 := Hd hb1; clear hb1)
    go_ret2
    exact ⟨.inl ⟨HA.out, rfl⟩, HT.out.1.trans (HB1.out.mono hws)⟩
structure Cx (w0 : World) (b : Nat) (l : List UInt8) (w : World) : Prop where
 bld : Lib.IsBuilder 76 5 w0.heap.size b (Lib.byteCells l) w
 bel : Below w0.heap.size w0 w
 lx : LxW w0
theorem Cx.size {w0 w : World} {b : Nat} {l : List UInt8} (h : Cx w0 b l w) : w0.heap.size ≤ w.heap.size := h.bel.size
theorem Cx.lxw {w0 w : World} {b : Nat} {l : List UInt8} (h : Cx w0 b l w) : LxW w := h.lx.below h.bel
theorem Cx.grow {w0 w w' : World} {b : Nat} {l : List UInt8} (h : Cx w0 b l w) (hb : Below w.heap.size w w') : Cx w0 b l w' := ⟨isT_below h.bld hb, h.bel.trans (hb.mono h.bel.size), h.lx⟩
theorem Cx.alloc {w0 w : World} {b : Nat} {l : List UInt8} (h : Cx w0 b l w) (o : Obj) : Cx w0 b l (w.alloc o) := h.grow (below_alloc w o)
theorem Cx.wr {w0 w w' : World} {b : Nat} {l x : List UInt8} (h : Cx w0 b l w) (k : Wr w0.heap.size b l x w w') : Cx w0 b (l ++ x) w' := ⟨k.1, h.bel.trans k.2.1, h.lx⟩
def Tells (w0 : World) (b : Nat) (l x : List UInt8) (w : World) (e : Ending) (w' : World) : Prop := e = .returned (.tuple #[]) ∧ Wr w0.heap.size b l x w w'
theorem Wr.open {w0 w : World} {b : Nat} {l : List UInt8} (h : Cx w0 b l w) : Wr w0.heap.size b l [] w w := Wr.refl h.bld
theorem Wr.next {B b : Nat} {l x y : List UInt8} {w w1 w2 w3 : World} (h : Wr B b l x w w1) (hB : B ≤ w.heap.size) (hb : Below w1.heap.size w1 w2) (k : Wr B b (l ++ x) y w2 w3) : Wr B b l (x ++ y) w w3 :=
 (h.grow (Nat.le_trans hB h.2.1.size) hb).trans k
theorem Wr.first {w0 w w1 w2 : World} {b : Nat} {l x : List UInt8} (h : Cx w0 b l w) (hb : Below w.heap.size w w1) (k : Wr w0.heap.size b l x w1 w2) : Wr w0.heap.size b l x w w2 := by
 have k' : Wr w0.heap.size b (l ++ []) x w1 w2 := by rw [List.append_nil]; exact k
 exact Wr.next (Wr.open h) h.size hb k'
def tyOf : Option Obj → Nat
 | some (.cells _ T _) => T
 | _ => 0
theorem adds_any {w0 : World} (b g c : Nat) (l : List UInt8) (ss : List ByteArray) (w : World) (fr : Nat × Nat) (h : Cx w0 b l w)
 (hg : w.heap[g]? = some (.cells (ss.map Value.string).toArray 9 fr)) (hl : l.length + (cat ss).length ≤ 1000000000) (hn : ss.length ≤ 1000) :
 Calls Tryz.prog 99 #[.pointer (some ⟨b, 0, none⟩), .slice (some ⟨g, 0, none⟩) ss.length c] w (Tells w0 b l (cat ss) w) := by
 have hgb : g ≠ b := by
  rintro rfl
  rcases h.bld with k | k
  · obtain ⟨_, v, hk, _⟩ := k
    exact absurd (show (76 : Nat) = 9 from congrArg tyOf (hk.symm.trans hg)) (by decide)
  · obtain ⟨_, v, hk, _⟩ := k
    exact absurd (show (76 : Nat) = 9 from congrArg tyOf (hk.symm.trans hg)) (by decide)
 exact add_any w0.heap.size b g c l ss w fr h.bld hg hgb hl hn h.size
theorem cat_one (s : ByteArray) : cat [s] = s.data.toList := by simp [cat]
theorem tk_new (w : World) (k n a : Int) (s : ByteArray) (g : Nat) (hg : g = w.heap.size) : TkAt (w.alloc (.cells #[.int .i64 k, .string s, .int .i64 n, .int .i64 a] 159)) g 0 ⟨k, s, n⟩ a := by
 subst hg
 have h := hb_new w (.cells #[.int .i64 k, .string s, .int .i64 n, .int .i64 a] 159)
 exact ⟨hb_at h 0 rfl, hb_at h 1 rfl, hb_at h 2 rfl, hb_at h 3 rfl⟩
theorem str_new (w : World) (s : ByteArray) (g : Nat) (hg : g = w.heap.size) : (w.alloc (.cells #[.string s] 9)).heap[g]? = some (.cells #[.string s] 9 (0, 0)) := by
 subst hg
 exact hb_new w (.cells #[.string s] 9)
theorem below_two (w : World) (o o2 : Obj) : Below w.heap.size w ((w.alloc o).alloc o2) := (below_alloc w o).trans ((below_alloc _ o2).mono (by simp))
theorem token_any {w0 : World} (b : Nat) (l : List UInt8) (t : Tk) (a : Int) (w : World) (h : Cx w0 b l w) (hr : RightT t) (hf : Fits t) (hs : t.s.size ≤ 1000000) (hl : l.length + (tellT t).length ≤ 1000000000) :
 Calls Tryz.prog 141 #[.pointer (some ⟨b, 0, none⟩), t.v a] w (Tells w0 b l (tellT t) w) := by
 have HH := Hd h
 have HT : RowKit.Hid (∀ W g, LxW W → TkAt W g 0 t a → Calls Tryz.prog 194 #[.slice (some ⟨g, 0, none⟩) 1 1] W fun e w' => e = .returned (.tuple #[.string (ofL (tellT t)), .int .i64 0]) ∧ Below W.heap.size W w') := Hd (by
  intro W g hW hg
  refine (tellAll_any (.slice (some ⟨g, 0, none⟩) 1 1) [(t, a)] W ⟨_, _, rfl, ?_⟩ ⟨by simp, ?_⟩ hW).mono ?_
  · intro i x hx
    cases i with
    | zero => simp at hx; subst hx; exact ⟨g, 0, rfl, hg⟩
    | succ i => simp at hx
  · intro x hx; simp at hx; subst hx; exact ⟨hs, hf⟩
  · rintro e w' ⟨h1 | h1, h2⟩
    · exact ⟨by rw [h1.2]; rfl, h2⟩
    · exact absurd (fun x hx => by simp at hx; subst hx; exact hr) h1.1)
 have hcat : cat [ofL (tellT t)] = tellT t := by rw [cat_one, ofL_list]
 have HA : RowKit.Hid (∀ W g, Cx w0 b l W → W.heap[g]? = some (.cells #[.string (ofL (tellT t))] 9 (0, 0)) → Calls Tryz.prog 99 #[.pointer (some ⟨b, 0, none⟩), .slice (some ⟨g, 0, none⟩) 1 1] W (Tells w0 b l (tellT t) W)) := Hd (by
  intro W g hW hg
  have := adds_any b g 1 l [ofL (tellT t)] W (0, 0) hW hg (by rw [hcat]; exact hl) (by simp)
  rwa [hcat] at this)
 clear h hr hf hs hcat hl
 generalize tellT t = D at *
 obtain ⟨tk, ts, tn⟩ := t
 show Calls Tryz.prog 141 #[.pointer (some ⟨b, 0, none⟩), .agg #[.int .i64 tk, .string ts, .int .i64 tn, .int .i64 a]] w _
 go_enter Tryz.func141, Tryz.ntmps141
 go_wp2_with (go_at_call 194; refine (HT.out _ _ (HH.out.grow (below_two w _ _)).lxw (tk_new _ tk tn a ts _ (by simp))).mono ?_; rintro e w1 ⟨rfl, hb1⟩; have HB1 := Hd hb1; clear hb1)
 go_wp2_with (go_at_call 99; refine (HA.out _ _ ((HH.out.grow ((below_two w _ _).trans (HB1.out.mono Q69))).alloc _) (str_new _ _ _ (by simp))).mono ?_; rintro e w2 ⟨rfl, h2⟩; have HW2 := Hd h2; clear h2)
 go_end0
 exact ⟨rfl, Wr.first HH.out (((below_two w _ _).trans (HB1.out.mono Q69)).trans ((below_alloc w1 _).mono (by have := HB1.out.size; simp at this; omega))) HW2.out⟩
theorem variable_any {w0 : World} (b : Nat) (l : List UInt8) (n : ByteArray) (w : World) (h : Cx w0 b l w) (hr : RightT ⟨3, n, 0⟩) (hs : n.size ≤ 1000000) (hl : l.length + (tellT ⟨3, n, 0⟩).length ≤ 1000000000) :
 Calls Tryz.prog 140 #[.pointer (some ⟨b, 0, none⟩), .string n] w (Tells w0 b l (tellT ⟨3, n, 0⟩) w) := by
 have HT := Hd (token_any b l ⟨3, n, 0⟩ 0 w h hr ⟨by show (-9223372036854775808 : Int) ≤ 0; decide, by show (0 : Int) ≤ 9223372036854775807; decide⟩ hs hl)
 have HT2 : RowKit.Hid (Calls Tryz.prog 141 #[.pointer (some ⟨b, 0, none⟩), .agg #[.int .i64 3, .string n, .int .i64 0, .int .i64 0]] w (Tells w0 b l (tellT ⟨3, n, 0⟩) w)) := HT
 clear h hr hs hl HT
 generalize tellT ⟨3, n, 0⟩ = D at *
 go_enter Tryz.func140, Tryz.ntmps140
 go_wp2_with (go_at_call 141; refine HT2.out.mono ?_; rintro e w1 ⟨rfl, h1⟩)
 go_end0
 exact ⟨rfl, h1⟩
end Go.Proofs.YtmkjalnlldpdcaaGreatDoor
