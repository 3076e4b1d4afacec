/- Texts in a row: Wr Wc Jb Na. -/
import Derived.Test.YtmkjalnlldpdcaaGreatDoorZT12
import Derived.Test.YtmkjalnlldpdcaaGreatDoorZT9
import Derived.Deep.RegionHeld3
import Derived.Deep.DeepCutAuto
import Derived.Outline
import Derived.Test.YtmkjalnlldpdcaaGreatDoorZT4
set_option maxHeartbeats 16000000
set_option maxRecDepth 100000
namespace Go.Proofs.YtmkjalnlldpdcaaGreatDoor
open Go.RowKit
set_option linter.unusedSimpArgs false
set_option linter.unusedVariables false
theorem str_any {B b : Nat} {l : List UInt8} {w : World} (h : Lib.IsBuilder 76 5 B b (Lib.byteCells l) w) (h0 : l ≠ []) (hm : l.length ≤ 1000000000) :
 Calls Tryz.prog 48 #[.pointer (some ⟨b, 0, none⟩)] w fun e w' => e = .returned (.string ⟨l.toArray⟩) ∧ Below B w w' := by
 obtain ⟨p, hB, v, hbk, hown, hne⟩ : ∃ p, Lib.BuilderAt 76 5 B b p (Lib.byteCells l) w := by
  rcases h with h | h
  · exact ⟨_, h⟩
  · exact ⟨_, h⟩
 have hlen : (Lib.byteCells l).length = l.length := Lib.byteCells_length l
 have hpos : 0 < l.length := by
  cases l with
  | nil => exact absurd rfl h0
  | cons x r => simp
 rcases hown.2 with ⟨hv, hn0⟩ | ⟨g, cap, cur, hv, hbg, hg, hnc, hcm, hcs, htake⟩
 · omega
 · rw [hlen] at hv hnc
   subst hv
   have c1 : w.drew.cell? ⟨b, 1, none⟩ = some (.slice (some ⟨g, 0, none⟩) l.length cap) := by
    have : w.drew.heap[b]? = some (.cells #[p, .slice (some ⟨g, 0, none⟩) l.length cap] 76 (0, 0)) := hbk
    rw [Lib.cell_of_heap this]; rfl
   have c0 : w.cell? ⟨b, 1, none⟩ = some (.slice (some ⟨g, 0, none⟩) l.length cap) := c1
   have hSD : (Builtin.unsafeSliceData_ #[72] 129 #[.slice (some ⟨g, 0, none⟩) l.length cap]).run Tryz.prog w.drew = .ok (.pointer (some ⟨g, 0, none⟩)) w.drew :=
    Lib.run_unsafeSliceData_row _ _ _ _ _ _ (by omega)
   have hUS : (Builtin.unsafeString_ #[129, 3] 9 #[.pointer (some ⟨g, 0, none⟩), .int .i64 l.length]).run Tryz.prog w.drew = .ok (.string ⟨l.toArray⟩) (w.drew.freeze ⟨g, 0, none⟩ l.length) := by
    refine Lib.run_unsafeString_row w.drew 129 3 9 5 Tryz.underlying129 Q70 g cur.size ?_ l h0 ?_ (by omega) ?_
    · have hg' : w.drew.heap[g]? = some (.cells cur 5 (0, 0)) := hg
      simp [World.shape?, hg']
    · have := congrArg List.length htake
      rw [List.length_take, Array.length_toList] at this
      have hl2 := hlen
      omega
    · intro j x hx
      have h2 := hown.cells (g := g) rfl j (.int .u8 x.toNat) (by unfold Lib.byteCells; rw [List.getElem?_map, hx]; rfl)
      exact h2
   have mixed : Tryz.prog.follows Departure.mixedOrders = true := by kernel_rfl
   clear hown htake hlen h
   go_enter Tryz.func48, Tryz.ntmps48
   go_wp2
   go_region_o
   all_goals
    go_wp2
    go_ret
    exact ⟨rfl, Lib.below_freeze (Below.drew (Below.refl B w)) hbg _⟩
end Go.Proofs.YtmkjalnlldpdcaaGreatDoor
namespace Go.Proofs.YtmkjalnlldpdcaaGreatDoor
open Go.RowKit
def mnJ (s : ByteArray) : Nat := if 100000 < s.size then 100000 else s.size
theorem mn_leJ (s : ByteArray) : mnJ s ≤ 100000 := by unfold mnJ; split <;> omega
theorem mn_ifJ (s : ByteArray) : (if (100000 : Int) < (s.size : Int) then (100000 : Int) else (s.size : Int)) = ((mnJ s : Nat) : Int) := by
 unfold mnJ
 by_cases h : 100000 < s.size
 · rw [if_pos h, if_pos (by omega)]; rfl
 · rw [if_neg h, if_neg (by omega)]
theorem mn_smallJ {s : ByteArray} (h : mnJ s ≤ 12040) : s.size ≤ 100000 := by unfold mnJ at h; split at h <;> omega
def Nm : Nat → Tm → Prop
 | 0, _ => True
 | d + 1, .mk _ p n _ kids => p.size ≤ 100000 ∧ n.size ≤ 100000 ∧ ∀ x ∈ kids, Nm d x
theorem mn_eqJ {s : ByteArray} (h : s.size ≤ 100000) : mnJ s = s.size := by unfold mnJ; split <;> omega
def tby : Nat → Tm → Nat
 | 0, _ => 0
 | d + 1, .mk _ p n _ kids => p.size + n.size + 1 + (kids.map (tby d)).sum
theorem IsT.spell {w : World} {d : Nat} {k : Int} {p n : ByteArray} {N : Int} {s : Value} {x : Tm} (h : IsT w d (tv k p n N s) x) : ∃ q l c, s = .slice q l c := by
 obtain ⟨d1, k1, p1, n1, N1, s1, l1, e1, rfl, e2, _, _, q, c, hs, _⟩ := h.open
 injection e2 with e2
 simp at e2
 obtain ⟨_, _, _, _, rfl⟩ := e2
 exact ⟨q, _, c, hs⟩
def SomeWJ (d : Nat) (t : Tm) (w : World) (e : Ending) (w' : World) : Prop := ∃ n : Int, e = .returned (.int .i64 n) ∧ 0 ≤ n ∧ n ≤ 100000 ∧ (n ≤ 600 → Nm d t ∧ ((tby d t : Nat) : Int) ≤ 20 * n) ∧ Below w.heap.size w w'
theorem weight3_any (d : Nat) : ∀ (va : Value) (ta : Tm) (deep : Int) (w : World), IsT w d va ta → Calls Tryz.prog 26 #[va, .int .i64 deep] w (SomeWJ d ta w) := by
 induction d with
 | zero => intro va ta deep w h; cases h
 | succ d ih =>
  intro va ta deep w ha
  obtain ⟨d1, k1, p1, n1, N1, s1, l1, e1, rfl, rfl, hp1, hn1, hk1⟩ := ha.open
  obtain rfl : d = d1 := by omega
  obtain ⟨q1, c1, hs1, hm1, hr1⟩ := hk1
  subst hs1
  have HR1 := Hd hr1
  clear ha e1 hr1
  unfold maxLen at hm1 hp1 hn1
  have HIH := Hd ih
  clear ih
  by_cases hd : 90 < deep
  · go_enter Tryz.func26, Tryz.ntmps26
    go_wp2
    go_ret
    exact ⟨_, rfl, by decide, by decide, fun h => by omega, below_alloc w _⟩
  by_cases hl : (300 : Int) < (l1.length : Int)
  · go_enter Tryz.func26, Tryz.ntmps26
    go_wp2
    go_ret
    exact ⟨_, rfl, by decide, by decide, fun h => by omega, below_alloc w _⟩
  have hd' : deep ≤ 90 := by omega
  have hl' : (l1.length : Int) ≤ 300 := by omega
  have hd2 : decide (90 < deep) = false := by simpa using hd'
  have hl2 : decide ((300 : Int) < (l1.length : Int)) = false := by simpa using hl'
  clear hd hl
  have q1m := mn_ifJ p1
  have q2m := mn_ifJ n1
  have q1l := mn_leJ p1
  have q2l := mn_leJ n1
  have q1s := mn_smallJ (s := p1)
  have q1e := mn_eqJ (s := p1)
  have q2e := mn_eqJ (s := n1)
  have q2s := mn_smallJ (s := n1)
  generalize mnJ p1 = u1 at *
  generalize mnJ n1 = u2 at *
  have hnew := Hd (hb_new w (.cells #[.int .i64 k1, .string p1, .string n1, .int .i64 N1, .slice q1 l1.length c1] 24))
  go_enter Tryz.func26, Tryz.ntmps26
  go_upto_region 3 with (fail)
  generalize hW1 : w.alloc (.cells #[.int .i64 k1, .string p1, .string n1, .int .i64 N1, .slice q1 l1.length c1] 24) = W1 at *
  have hBW : Below w.heap.size w W1 := by rw [← hW1]; exact below_alloc w _
  have HBW := Hd hBW
  have hzw : w.heap.size + 1 ≤ W1.heap.size := by rw [← hW1]; simp
  have m1 := hb_at hnew.out 1 rfl
  have m2 := hb_at hnew.out 2 rfl
  have m4 := hb_at hnew.out 4 rfl
  clear hW1 hBW
  go_cut [5] (fun v wx => (∃ m : Int, v = .int .i64 m ∧ 1 ≤ m ∧ m ≤ 20000 ∧ (m ≤ 600 → u1 ≤ 12040 ∧ u2 ≤ 12040) ∧ ((u1 + u2 + 1 : Nat) : Int) ≤ 20 * m) ∧ wx = W1)
  case first =>
    go_wp2_with fail
    all_goals
     go_meet
     exact ⟨⟨_, rfl, by omega, by omega, by omega, by omega⟩, rfl⟩
  case rest =>
    obtain ⟨⟨m0, rfl, hm0, hm0', hmN, hmE⟩, rfl⟩ := hcut
    have HMN := Hd (fun h => (⟨q1s (hmN h).1, q2s (hmN h).2, by rw [← q1e (q1s (hmN h).1), ← q2e (q2s (hmN h).2)]; exact hmE⟩ : p1.size ≤ 100000 ∧ n1.size ≤ 100000 ∧ ((p1.size + n1.size + 1 : Nat) : Int) ≤ 20 * m0))
    clear q1s q2s hmN hmE q1e q2e
    go_wp2
    have M4 : RowKit.Hid (wc.cell? ⟨w.heap.size, 4, none⟩ = some (.slice q1 l1.length c1)) := Hd m4
    clear m1 m2 m4
    go_loopw [5, 29] (fun n i wr => ∃ k : Nat, k ≤ l1.length ∧ i = .int .i64 k ∧ (∃ m : Int, n = .int .i64 m ∧ 1 ≤ m ∧ m ≤ 200000 ∧ m0 ≤ m ∧ (m ≤ 600 → (∀ x ∈ l1.take k, Nm d x) ∧ 20 * m0 + ((((l1.take k).map (tby d)).sum : Nat) : Int) ≤ 20 * m)) ∧ Below wc.heap.size wc wr) (fun _ i _ => l1.length - (intOf i).toNat)
    case atStart => exact ⟨0, Nat.zero_le _, rfl, ⟨_, rfl, hm0, by omega, by omega, fun _ => ⟨fun x hx => by simp at hx, by simp⟩⟩, Below.refl _ _⟩
    case round =>
     obtain ⟨k, hk, rfl, ⟨m, rfl, hm1', hm2', hm3', hmI⟩, hB⟩ := hrel
     have HMI := Hd hmI
     clear hmI
     have hzr := hB.size
     have HB := Hd hB
     by_cases hlt : k < l1.length
     · have hx1 := List.getElem?_eq_getElem hlt
       have htk := List.take_succ_eq_append_getElem hlt
       have HTK := Hd htk
       clear htk
       generalize l1[k] = x at *
       obtain ⟨b1, o1, k1', p1', n1', N1', s1', hq1, ha1, ht1⟩ := HR1.out k x hx1
       subst hq1
       have hBR : Below w.heap.size w wr := HBW.out.trans (hB.mono (by omega))
       obtain ⟨x0, x1, x2, x3, x4⟩ := ha1.below hBR ha1.lt
       have m4 : wr.cell? ⟨w.heap.size, 4, none⟩ = some (.slice (some ⟨b1, o1, none⟩) l1.length c1) := (hB.cell (p := ⟨w.heap.size, 4, none⟩) Q69).trans M4.out
       have HC : RowKit.Hid (∀ deep, Calls Tryz.prog 26 #[tv k1' p1' n1' N1' s1', .int .i64 deep] wr (SomeWJ d x wr)) :=
        Hd fun deep => HIH.out _ _ deep wr (ht1.below hBR)
       clear hx1 ht1 ha1 hB hBR
       by_cases hm : m < 100000
       · go_wp2_with (go_at_call 26; ((with_reducible refine (HC.out _).mono ?_); rintro e w3 ⟨m3, rfl, hg1, hg2, hg3, hb⟩; have HG := Hd hg3; clear hg3))
         have HQ := Hd (HB.out.trans (hb.mono hzr))
         go_roundw
         case rel =>
          refine ⟨k + 1, by omega, by go_num, ⟨m + m3, by go_num, by omega, by omega, by omega, fun h6 => ⟨fun y hy => ?_, ?_⟩⟩, HQ.out⟩
          · rw [HTK.out] at hy
            rcases List.mem_append.1 hy with hy | hy
            · exact (HMI.out (by omega)).1 y hy
            · obtain rfl := List.mem_singleton.1 hy; exact (HG.out (by omega)).1
          · have i1 := (HMI.out (by omega)).2
            have i2 := (HG.out (by omega)).2
            rw [HTK.out]
            simp only [List.map_append, List.sum_append, List.map_cons, List.map_nil, List.sum_cons, List.sum_nil]
            omega
         case measure => simp [intOf]; omega
       · go_wp2
         go_roundw
         case rel => exact ⟨k + 1, by omega, by go_num, ⟨m, rfl, by omega, by omega, by omega, fun h6 => by omega⟩, HB.out⟩
         case measure => simp [intOf]; omega
     · obtain rfl : k = l1.length := by omega
       rw [List.take_length] at HMI
       go_wp2
       all_goals
        go_ret
        refine ⟨_, rfl, by omega, by omega, fun h6 => ?_, HBW.out.trans (HB.out.mono (by omega))⟩
        obtain ⟨i1, j1⟩ := HMI.out (by omega)
        obtain ⟨i2, i3, i4⟩ := HMN.out (by omega)
        exact ⟨⟨i2, i3, i1⟩, by show ((p1.size + n1.size + 1 + (l1.map (tby d)).sum : Nat) : Int) ≤ _; omega⟩
def SomeFJ (d : Nat) (t : Tm) (w : World) (e : Ending) (w' : World) : Prop := ∃ r : Bool, e = .returned (.bool r) ∧ (r = true → Nm d t ∧ tby d t ≤ 12000) ∧ Below w.heap.size w w'
theorem few3_any (d : Nat) (va : Value) (ta : Tm) (w : World) (h : IsT w d va ta) : Calls Tryz.prog 7 #[va] w (SomeFJ d ta w) := by
 have HT := Hd h
 obtain ⟨d1, k1, p1, n1, N1, s1, l1, e1, rfl, e2, _, _, _⟩ := h.open
 subst e2
 clear h e1
 have HC := Hd (weight3_any d _ _ 0 _ (HT.out.below (below_alloc w (.cells #[.int .i64 k1, .string p1, .string n1, .int .i64 N1, s1] 24))))
 go_enter Tryz.func7, Tryz.ntmps7
 go_wp2_with (go_at_call 26; ((with_reducible refine HC.out.mono ?_); rintro e w3 ⟨m3, rfl, g1, g2, g3, hb⟩; have HG := Hd g3; clear g3))
 go_ret
 refine ⟨_, rfl, fun hr => ?_, (below_alloc w _).trans (hb.mono (by simp))⟩
 have h6 : m3 ≤ 600 := by simpa using hr
 have h7 := HG.out h6
 exact ⟨h7.1, by have := h7.2; omega⟩
end Go.Proofs.YtmkjalnlldpdcaaGreatDoor
namespace Go.Proofs.YtmkjalnlldpdcaaGreatDoor
open Go.RowKit
set_option linter.unusedSimpArgs false
set_option linter.unusedVariables false
noncomputable def rB (k : Int) (s : ByteArray) (n : Int) : Bool := rightB ⟨k, s, n⟩
def bareB (p n : ByteArray) (N : Int) : Bool := (p.toList == []) && ((n.toList == []) && (N == 0))
noncomputable def qualB (kind : Int) (p n : ByteArray) (N : Int) : Bool := (N == 0) && (rB kind n 0 && ((p.toList == []) || rB 2 p 0))
noncomputable def namedB (kind : Int) (p n : ByteArray) (N : Int) : Bool := (p.toList == []) && qualB kind p n N
noncomputable def numB (p n : ByteArray) (N : Int) : Bool := (p.toList == []) && ((n.toList == []) && rB 4 ⟨#[]⟩ N)
def Ans (b : Bool) (w : World) (e : Ending) (w' : World) : Prop := e = .returned (.bool b) ∧ Below w.heap.size w w'
theorem Ans.eq {a b : Bool} {w : World} {e : Ending} {w' : World} (h : Ans a w e w') (he : a = b) : Ans b w e w' := he ▸ h
theorem isToken_any (k : Int) (s : ByteArray) (hs : s.size ≤ 1000000) (w : World) (hw : LxW w) : Calls Tryz.prog 144 #[.int .i64 k, .string s] w (Ans (rB k s 0) w) := by
 have HR := Hd (right_any ⟨k, s, 0⟩ 0 hs (by unfold Fits; simp) w hw)
 have HR2 : RowKit.Hid (Calls Tryz.prog 145 #[.agg #[.int .i64 k, .string s, .int .i64 0, .int .i64 0]] w fun e w' => e = .returned (.bool (rB k s 0)) ∧ Below w.heap.size w w') := HR
 clear HR
 go_enter Tryz.func144, Tryz.ntmps144
 go_wp2_with (go_at_call 145; ((with_reducible refine HR2.out.mono ?_); rintro e w1 ⟨rfl, hb⟩))
 go_ret
 exact ⟨rfl, hb⟩
theorem LxW.under {w w' : World} {n : Nat} (h : LxW w) (hn : n = w.heap.size) (hb : Below n w w') : LxW w' := h.below (hn ▸ hb)
theorem bare_any (k : Int) (p n : ByteArray) (N : Int) (q : Option Addr) (l c : Nat) (w : World) : Calls Tryz.prog 80 #[tv k p n N (.slice q l c)] w (Ans (bareB p n N) w) := by
 unfold bareB
 cases hp : (p.toList == []) <;> cases hn : (n.toList == [])
 all_goals
  go_enter Tryz.func80, Tryz.ntmps80
  go_wp2
  go_ret
  exact ⟨rfl, below_alloc w _⟩
theorem isNumber_any (k : Int) (p n : ByteArray) (N : Int) (hN : Fits ⟨4, ⟨#[]⟩, N⟩) (q : Option Addr) (l c : Nat) (w : World) (hw : LxW w) : Calls Tryz.prog 89 #[tv k p n N (.slice q l c)] w (Ans (numB p n N) w) := by
 unfold numB
 have HR2 : RowKit.Hid (∀ W, LxW W → Calls Tryz.prog 145 #[.agg #[.int .i64 4, .string ⟨#[]⟩, .int .i64 N, .int .i64 0]] W fun e w' => e = .returned (.bool (rB 4 ⟨#[]⟩ N)) ∧ Below W.heap.size W w') := Hd fun W hW => right_any ⟨4, ⟨#[]⟩, N⟩ 0 (Nat.zero_le _) hN W hW
 have HW := Hd hw
 clear hw hN
 cases hp : (p.toList == []) <;> cases hn : (n.toList == [])
 all_goals
  go_enter Tryz.func89, Tryz.ntmps89
  go_wp2_with (go_at_call 145; ((with_reducible refine (HR2.out _ (HW.out.under rfl (below_alloc _ _))).mono ?_); rintro e w1 ⟨rfl, hb⟩))
  go_ret
  first
  | exact ⟨rfl, below_alloc w _⟩
  | exact ⟨rfl, (below_alloc w _).trans (hb.mono (by simp))⟩
theorem qualified_any (kind k : Int) (p n : ByteArray) (N : Int) (hp' : p.size ≤ 1000000) (hn' : n.size ≤ 1000000) (q : Option Addr) (l c : Nat) (w : World) (hw : LxW w) : Calls Tryz.prog 78 #[tv k p n N (.slice q l c), .int .i64 kind] w (Ans (qualB kind p n N) w) := by
 unfold qualB
 have HT := Hd (fun W hW => isToken_any kind n hn' W hW)
 have HP := Hd (fun W hW => isToken_any 2 p hp' W hW)
 have HW := Hd hw
 clear hw hp' hn'
 generalize rB kind n 0 = b1 at *
 generalize rB 2 p 0 = b2 at *
 cases hN : (N == 0)
 · go_enter Tryz.func78, Tryz.ntmps78
   go_wp2
   go_ret
   exact ⟨rfl, below_alloc w _⟩
 cases b1
 · go_enter Tryz.func78, Tryz.ntmps78
   go_wp2_with (go_at_call 144; ((with_reducible refine (HT.out _ (HW.out.under rfl (below_alloc _ _))).mono ?_); rintro e w1 ⟨rfl, hb⟩; obtain ⟨hc, hf⟩ := bcell hb; have z1 := hb.size; rw [World.size_alloc] at z1; have y1 : w.heap.size < w1.heap.size := (by omega)))
   go_ret
   exact ⟨rfl, (below_alloc w _).trans (hb.mono (by simp))⟩
 cases hp : (p.toList == [])
 · go_enter Tryz.func78, Tryz.ntmps78
   go_wp2_with (first
    | (go_at_call 144; ((with_reducible refine (HT.out _ (HW.out.under rfl (below_alloc _ _))).mono ?_); rintro e w1 ⟨rfl, hb⟩; have HB := Hd hb; obtain ⟨hc, hf⟩ := bcell hb; have z1 := hb.size; rw [World.size_alloc] at z1; have y1 : w.heap.size < w1.heap.size := (by omega); clear hb))
    | (go_at_call 144; ((with_reducible refine (HP.out _ ((HW.out.under rfl (below_alloc _ _)).under rfl HB.out)).mono ?_); rintro e w2 ⟨rfl, hb⟩)))
   go_ret
   exact ⟨rfl, (below_alloc w _).trans ((HB.out.trans (hb.mono HB.out.size)).mono (by simp))⟩
 · go_enter Tryz.func78, Tryz.ntmps78
   go_wp2_with (go_at_call 144; ((with_reducible refine (HT.out _ (HW.out.under rfl (below_alloc _ _))).mono ?_); rintro e w1 ⟨rfl, hb⟩; obtain ⟨hc, hf⟩ := bcell hb; have z1 := hb.size; rw [World.size_alloc] at z1; have y1 : w.heap.size < w1.heap.size := (by omega)))
   go_ret
   exact ⟨rfl, (below_alloc w _).trans (hb.mono (by simp))⟩
theorem named_any (kind k : Int) (p n : ByteArray) (N : Int) (hp' : p.size ≤ 1000000) (hn' : n.size ≤ 1000000) (q : Option Addr) (l c : Nat) (w : World) (hw : LxW w) : Calls Tryz.prog 76 #[tv k p n N (.slice q l c), .int .i64 kind] w (Ans (namedB kind p n N) w) := by
 unfold namedB
 have HT := Hd (fun W hW => qualified_any kind k p n N hp' hn' q l c W hW)
 have HW := Hd hw
 clear hw hp' hn'
 generalize qualB kind p n N = b1 at *
 cases hp : (p.toList == [])
 all_goals
  go_enter Tryz.func76, Tryz.ntmps76
  go_wp2_with (go_at_call 78; ((with_reducible refine (HT.out _ (HW.out.under rfl (below_alloc _ _))).mono ?_); rintro e w1 ⟨rfl, hb⟩))
  go_ret
  first
  | exact ⟨rfl, below_alloc w _⟩
  | exact ⟨rfl, (below_alloc w _).trans (hb.mono (by simp))⟩
theorem smD_any (c : UInt8) (w : World) : Calls Tryz.prog 234 #[.int .u8 (c.toNat : Nat)] w fun e w' => e = .returned (.bool (smB c)) ∧ w = w' := by
 have hc : c.toNat < 256 := c.toNat_lt
 have hp : smB c = (decide (97 ≤ c.toNat) && decide (c.toNat ≤ 122)) := rfl
 rw [hp]
 clear hp
 generalize c.toNat = n at *
 by_cases h1 : 97 ≤ n
 · have d1 : decide ((97 : Int) ≤ (n : Int)) = true := by simp; omega
   have e1 : decide (97 ≤ n) = true := by simpa using h1
   by_cases h2 : n ≤ 122
   · have d2 : decide ((n : Int) ≤ 122) = true := by simp; omega
     have e2 : decide (n ≤ 122) = true := by simpa using h2
     rw [e1, e2]
     clear e1 e2
     go_enter Tryz.func234, Tryz.ntmps234
     go_wp2
     go_ret
     exact ⟨rfl, rfl⟩
   · have d2 : decide ((n : Int) ≤ 122) = false := by simp; omega
     have e2 : decide (n ≤ 122) = false := by simpa using h2
     rw [e1, e2]
     clear e1 e2
     go_enter Tryz.func234, Tryz.ntmps234
     go_wp2
     go_ret
     exact ⟨rfl, rfl⟩
 · have d1 : decide ((97 : Int) ≤ (n : Int)) = false := by simp; omega
   have e1 : decide (97 ≤ n) = false := by simpa using h1
   rw [e1, Bool.false_and]
   clear e1
   go_enter Tryz.func234, Tryz.ntmps234
   go_wp2
   go_ret
   exact ⟨rfl, rfl⟩
theorem grD_any (c : UInt8) (w : World) : Calls Tryz.prog 235 #[.int .u8 (c.toNat : Nat)] w fun e w' => e = .returned (.bool (grB c)) ∧ w = w' := by
 have hc : c.toNat < 256 := c.toNat_lt
 have hp : grB c = (decide (65 ≤ c.toNat) && decide (c.toNat ≤ 90)) := rfl
 rw [hp]
 clear hp
 generalize c.toNat = n at *
 by_cases h1 : 65 ≤ n
 · have d1 : decide ((65 : Int) ≤ (n : Int)) = true := by simp; omega
   have e1 : decide (65 ≤ n) = true := by simpa using h1
   by_cases h2 : n ≤ 90
   · have d2 : decide ((n : Int) ≤ 90) = true := by simp; omega
     have e2 : decide (n ≤ 90) = true := by simpa using h2
     rw [e1, e2]
     clear e1 e2
     go_enter Tryz.func235, Tryz.ntmps235
     go_wp2
     go_ret
     exact ⟨rfl, rfl⟩
   · have d2 : decide ((n : Int) ≤ 90) = false := by simp; omega
     have e2 : decide (n ≤ 90) = false := by simpa using h2
     rw [e1, e2]
     clear e1 e2
     go_enter Tryz.func235, Tryz.ntmps235
     go_wp2
     go_ret
     exact ⟨rfl, rfl⟩
 · have d1 : decide ((65 : Int) ≤ (n : Int)) = false := by simp; omega
   have e1 : decide (65 ≤ n) = false := by simpa using h1
   rw [e1, Bool.false_and]
   clear e1
   go_enter Tryz.func235, Tryz.ntmps235
   go_wp2
   go_ret
   exact ⟨rfl, rfl⟩
theorem digD_any (c : UInt8) (w : World) : Calls Tryz.prog 240 #[.int .u8 (c.toNat : Nat)] w fun e w' => e = .returned (.bool (dgB c)) ∧ w = w' := by
 have hc : c.toNat < 256 := c.toNat_lt
 have hp : dgB c = (decide (48 ≤ c.toNat) && decide (c.toNat ≤ 57)) := rfl
 rw [hp]
 clear hp
 generalize c.toNat = n at *
 by_cases h1 : 48 ≤ n
 · have d1 : decide ((48 : Int) ≤ (n : Int)) = true := by simp; omega
   have e1 : decide (48 ≤ n) = true := by simpa using h1
   by_cases h2 : n ≤ 57
   · have d2 : decide ((n : Int) ≤ 57) = true := by simp; omega
     have e2 : decide (n ≤ 57) = true := by simpa using h2
     rw [e1, e2]
     clear e1 e2
     go_enter Tryz.func240, Tryz.ntmps240
     go_wp2
     go_ret
     exact ⟨rfl, rfl⟩
   · have d2 : decide ((n : Int) ≤ 57) = false := by simp; omega
     have e2 : decide (n ≤ 57) = false := by simpa using h2
     rw [e1, e2]
     clear e1 e2
     go_enter Tryz.func240, Tryz.ntmps240
     go_wp2
     go_ret
     exact ⟨rfl, rfl⟩
 · have d1 : decide ((48 : Int) ≤ (n : Int)) = false := by simp; omega
   have e1 : decide (48 ≤ n) = false := by simpa using h1
   rw [e1, Bool.false_and]
   clear e1
   go_enter Tryz.func240, Tryz.ntmps240
   go_wp2
   go_ret
   exact ⟨rfl, rfl⟩
theorem digits_any (s : ByteArray) (hm : s.size ≤ 4194304) (i : Nat) (hi : i ≤ s.size) (w : World) : Calls Tryz.prog 242 #[.string s, .int .i64 i] w fun e w' => e = .returned (.int .i64 (cnt dgB (s.data.toList.drop i) : Nat)) ∧ w = w' := by
 go_enter Tryz.func242, Tryz.ntmps242
 go_wp2
 go_loop [5] (fun n => ∃ k : Nat, i + k ≤ s.size ∧ n = .int .i64 k ∧ ∀ j c, j < k → (s.data.toList.drop i)[j]? = some c → dgB c = true) (fun n => s.size - (intOf n).toNat)
 case atStart => exact ⟨0, hi, rfl, fun j c h => absurd h (by omega)⟩
 case round =>
  obtain ⟨k, hk, rfl, hp⟩ := hrel
  have HP := Hd hp
  clear hp
  by_cases hlt : i + k < s.size
  · have HX := Hd (at_list s (i + k) hlt)
    have hki : (i : Int) + (k : Int) < (s.size : Int) := by omega
    have HC := Hd (fun w => digD_any s[i + k] w)
    cases hb : dgB s[i + k]
    · have HB := Hd hb
      clear hb
      go_wp2_with (go_at_call 240; refine (HC.out _).mono ?_; rintro e w' ⟨rfl, rfl⟩; rw [HB.out])
      go_ret
      exact ⟨ret_int Q28, rfl⟩
    · have HB := Hd hb
      clear hb
      go_wp2_with (go_at_call 240; refine (HC.out _).mono ?_; rintro e w' ⟨rfl, rfl⟩; rw [HB.out])
      go_round
      case rel =>
       refine ⟨k + 1, by omega, by go_num, fun j c hj hc => ?_⟩
       by_cases h : j < k
       · exact HP.out j c h hc
       · obtain rfl : j = k := by omega
         rw [List.getElem?_drop, HX.out] at hc
         cases hc
         exact HB.out
      case measure => simp [intOf]; omega
  · have hki : ¬ (i : Int) + (k : Int) < (s.size : Int) := by omega
    go_wp2
    go_ret
    exact ⟨ret_int Q24, rfl⟩
theorem bytes_far' (c : UInt8) : (smB c = true → grB c = false ∧ dgB c = false ∧ nmB c = true ∧ vrB c = true) ∧ (grB c = true → dgB c = false ∧ nmB c = true ∧ vrB c = true) ∧ (dgB c = true → nmB c = true ∧ vrB c = true) ∧ True := by
 refine ⟨fun h => ?_, fun h => ?_, fun h => ?_, trivial⟩
 · have h' := h
   unfold smB at h
   simp at h
   exact ⟨by unfold grB; simp; omega, by unfold dgB; simp; omega, by unfold nmB; rw [h']; rfl, by unfold vrB nmB; rw [h']; simp; omega⟩
 · have h' := h
   unfold grB at h
   simp at h
   exact ⟨by unfold dgB; simp; omega, by unfold nmB; rw [h']; simp, by unfold vrB nmB; rw [h']; simp; omega⟩
 · have h' := h
   unfold dgB at h
   simp at h
   exact ⟨by unfold nmB; rw [h']; simp, by unfold vrB nmB; rw [h']; simp; omega⟩
theorem namedQ_any (s : ByteArray) (hm : s.size ≤ 4194304) (i : Nat) (hi : i ≤ s.size) (w : World) : Calls Tryz.prog 236 #[.string s, .int .i64 i, .bool true] w fun e w' => e = .returned (.int .i64 (cnt nmB (s.data.toList.drop i) : Nat)) ∧ w = w' := by
 go_enter Tryz.func236, Tryz.ntmps236
 go_wp2
 go_loop [7] (fun n => ∃ k : Nat, i + k ≤ s.size ∧ n = .int .i64 k ∧ ∀ j c, j < k → (s.data.toList.drop i)[j]? = some c → nmB c = true) (fun n => s.size - (intOf n).toNat)
 case atStart => exact ⟨0, hi, rfl, fun j c h => absurd h (by omega)⟩
 case round =>
  obtain ⟨k, hk, rfl, hp⟩ := hrel
  have HP := Hd hp
  clear hp
  by_cases hlt : i + k < s.size
  · have HX := Hd (at_list s (i + k) hlt)
    have hki : (i : Int) + (k : Int) < (s.size : Int) := by omega
    have HS := Hd (fun w => smD_any s[i + k] w)
    have HG := Hd (fun w => grD_any s[i + k] w)
    have HD := Hd (fun w => digD_any s[i + k] w)
    have hfar := bytes_far' s[i + k]
    rcases (Bool.eq_false_or_eq_true (smB s[i + k])) with hs | hs
    · have HSB := Hd hs
      have HGB := Hd (hfar.1 hs).1
      have HDB := Hd (hfar.1 hs).2.1
      have HB : RowKit.Hid (nmB s[i + k] = true) := Hd ((hfar.1 hs).2.2.1)
      clear hs hfar
      go_wp2_with (first
       | (go_at_call 234; refine (HS.out _).mono ?_; rintro e w' ⟨rfl, rfl⟩; rw [HSB.out])
       | (go_at_call 235; refine (HG.out _).mono ?_; rintro e w' ⟨rfl, rfl⟩; rw [HGB.out])
       | (go_at_call 240; refine (HD.out _).mono ?_; rintro e w' ⟨rfl, rfl⟩; rw [HDB.out]))
      go_round
      case rel =>
       refine ⟨k + 1, by omega, by go_num, fun j c hj hc => ?_⟩
       by_cases h : j < k
       · exact HP.out j c h hc
       · obtain rfl : j = k := by omega
         rw [List.getElem?_drop, HX.out] at hc
         cases hc
         exact HB.out
      case measure => simp [intOf]; omega
    rcases (Bool.eq_false_or_eq_true (grB s[i + k])) with hg | hg
    · have HSB := Hd hs
      have HGB := Hd hg
      have HDB := Hd (hfar.2.1 hg).1
      have HB : RowKit.Hid (nmB s[i + k] = true) := Hd ((hfar.2.1 hg).2.1)
      clear hs hg hfar
      go_wp2_with (first
       | (go_at_call 234; refine (HS.out _).mono ?_; rintro e w' ⟨rfl, rfl⟩; rw [HSB.out])
       | (go_at_call 235; refine (HG.out _).mono ?_; rintro e w' ⟨rfl, rfl⟩; rw [HGB.out])
       | (go_at_call 240; refine (HD.out _).mono ?_; rintro e w' ⟨rfl, rfl⟩; rw [HDB.out]))
      go_round
      case rel =>
       refine ⟨k + 1, by omega, by go_num, fun j c hj hc => ?_⟩
       by_cases h : j < k
       · exact HP.out j c h hc
       · obtain rfl : j = k := by omega
         rw [List.getElem?_drop, HX.out] at hc
         cases hc
         exact HB.out
      case measure => simp [intOf]; omega
    rcases (Bool.eq_false_or_eq_true (dgB s[i + k])) with hd | hd
    · have HSB := Hd hs
      have HGB := Hd hg
      have HDB := Hd hd
      have HB : RowKit.Hid (nmB s[i + k] = true) := Hd ((hfar.2.2.1 hd).1)
      clear hs hg hd hfar
      go_wp2_with (first
       | (go_at_call 234; refine (HS.out _).mono ?_; rintro e w' ⟨rfl, rfl⟩; rw [HSB.out])
       | (go_at_call 235; refine (HG.out _).mono ?_; rintro e w' ⟨rfl, rfl⟩; rw [HGB.out])
       | (go_at_call 240; refine (HD.out _).mono ?_; rintro e w' ⟨rfl, rfl⟩; rw [HDB.out]))
      go_round
      case rel =>
       refine ⟨k + 1, by omega, by go_num, fun j c hj hc => ?_⟩
       by_cases h : j < k
       · exact HP.out j c h hc
       · obtain rfl : j = k := by omega
         rw [List.getElem?_drop, HX.out] at hc
         cases hc
         exact HB.out
      case measure => simp [intOf]; omega
    have HSB := Hd hs
    have HGB := Hd hg
    have HDB := Hd hd
    by_cases h95 : s[i + k].toNat = 95
    · have d95 : ((s[i + k].toNat : Int) == 95) = true := by rw [h95]; rfl
      have HB : RowKit.Hid (nmB s[i + k] = true) := Hd (by unfold nmB; rw [h95]; simp)
      clear hs hg hd hfar h95
      go_wp2_with (first
       | (go_at_call 234; refine (HS.out _).mono ?_; rintro e w' ⟨rfl, rfl⟩; rw [HSB.out])
       | (go_at_call 235; refine (HG.out _).mono ?_; rintro e w' ⟨rfl, rfl⟩; rw [HGB.out])
       | (go_at_call 240; refine (HD.out _).mono ?_; rintro e w' ⟨rfl, rfl⟩; rw [HDB.out]))
      go_round
      case rel =>
       refine ⟨k + 1, by omega, by go_num, fun j c hj hc => ?_⟩
       by_cases h : j < k
       · exact HP.out j c h hc
       · obtain rfl : j = k := by omega
         rw [List.getElem?_drop, HX.out] at hc
         cases hc
         exact HB.out
      case measure => simp [intOf]; omega
    have d95 : ((s[i + k].toNat : Int) == 95) = false := by rw [beq_eq_false_iff_ne]; omega
    by_cases h39 : s[i + k].toNat = 39
    · have d39 : ((s[i + k].toNat : Int) == 39) = true := by rw [h39]; rfl
      have HB : RowKit.Hid (nmB s[i + k] = true) := Hd (by unfold nmB; rw [h39]; simp)
      clear hs hg hd hfar h95 h39
      go_wp2_with (first
       | (go_at_call 234; refine (HS.out _).mono ?_; rintro e w' ⟨rfl, rfl⟩; rw [HSB.out])
       | (go_at_call 235; refine (HG.out _).mono ?_; rintro e w' ⟨rfl, rfl⟩; rw [HGB.out])
       | (go_at_call 240; refine (HD.out _).mono ?_; rintro e w' ⟨rfl, rfl⟩; rw [HDB.out]))
      go_round
      case rel =>
       refine ⟨k + 1, by omega, by go_num, fun j c hj hc => ?_⟩
       by_cases h : j < k
       · exact HP.out j c h hc
       · obtain rfl : j = k := by omega
         rw [List.getElem?_drop, HX.out] at hc
         cases hc
         exact HB.out
      case measure => simp [intOf]; omega
    have d39 : ((s[i + k].toNat : Int) == 39) = false := by rw [beq_eq_false_iff_ne]; omega
    have HB : RowKit.Hid (nmB s[i + k] = false) := Hd (by unfold nmB; rw [hs, hg, hd]; simp [h95, h39])
    clear hs hg hd hfar h95 h39
    go_wp2_with (first
      | (go_at_call 234; refine (HS.out _).mono ?_; rintro e w' ⟨rfl, rfl⟩; rw [HSB.out])
      | (go_at_call 235; refine (HG.out _).mono ?_; rintro e w' ⟨rfl, rfl⟩; rw [HGB.out])
      | (go_at_call 240; refine (HD.out _).mono ?_; rintro e w' ⟨rfl, rfl⟩; rw [HDB.out]))
    go_ret
    exact ⟨ret_int Q28, rfl⟩
  · have hki : ¬ (i : Int) + (k : Int) < (s.size : Int) := by omega
    go_wp2
    go_ret
    exact ⟨ret_int Q24, rfl⟩
theorem namedN_any (s : ByteArray) (hm : s.size ≤ 4194304) (i : Nat) (hi : i ≤ s.size) (w : World) : Calls Tryz.prog 236 #[.string s, .int .i64 i, .bool false] w fun e w' => e = .returned (.int .i64 (cnt vrB (s.data.toList.drop i) : Nat)) ∧ w = w' := by
 go_enter Tryz.func236, Tryz.ntmps236
 go_wp2
 go_loop [7] (fun n => ∃ k : Nat, i + k ≤ s.size ∧ n = .int .i64 k ∧ ∀ j c, j < k → (s.data.toList.drop i)[j]? = some c → vrB c = true) (fun n => s.size - (intOf n).toNat)
 case atStart => exact ⟨0, hi, rfl, fun j c h => absurd h (by omega)⟩
 case round =>
  obtain ⟨k, hk, rfl, hp⟩ := hrel
  have HP := Hd hp
  clear hp
  by_cases hlt : i + k < s.size
  · have HX := Hd (at_list s (i + k) hlt)
    have hki : (i : Int) + (k : Int) < (s.size : Int) := by omega
    have HS := Hd (fun w => smD_any s[i + k] w)
    have HG := Hd (fun w => grD_any s[i + k] w)
    have HD := Hd (fun w => digD_any s[i + k] w)
    have hfar := bytes_far' s[i + k]
    rcases (Bool.eq_false_or_eq_true (smB s[i + k])) with hs | hs
    · have HSB := Hd hs
      have HGB := Hd (hfar.1 hs).1
      have HDB := Hd (hfar.1 hs).2.1
      have HB : RowKit.Hid (vrB s[i + k] = true) := Hd ((hfar.1 hs).2.2.2)
      clear hs hfar
      go_wp2_with (first
       | (go_at_call 234; refine (HS.out _).mono ?_; rintro e w' ⟨rfl, rfl⟩; rw [HSB.out])
       | (go_at_call 235; refine (HG.out _).mono ?_; rintro e w' ⟨rfl, rfl⟩; rw [HGB.out])
       | (go_at_call 240; refine (HD.out _).mono ?_; rintro e w' ⟨rfl, rfl⟩; rw [HDB.out]))
      go_round
      case rel =>
       refine ⟨k + 1, by omega, by go_num, fun j c hj hc => ?_⟩
       by_cases h : j < k
       · exact HP.out j c h hc
       · obtain rfl : j = k := by omega
         rw [List.getElem?_drop, HX.out] at hc
         cases hc
         exact HB.out
      case measure => simp [intOf]; omega
    rcases (Bool.eq_false_or_eq_true (grB s[i + k])) with hg | hg
    · have HSB := Hd hs
      have HGB := Hd hg
      have HDB := Hd (hfar.2.1 hg).1
      have HB : RowKit.Hid (vrB s[i + k] = true) := Hd ((hfar.2.1 hg).2.2)
      clear hs hg hfar
      go_wp2_with (first
       | (go_at_call 234; refine (HS.out _).mono ?_; rintro e w' ⟨rfl, rfl⟩; rw [HSB.out])
       | (go_at_call 235; refine (HG.out _).mono ?_; rintro e w' ⟨rfl, rfl⟩; rw [HGB.out])
       | (go_at_call 240; refine (HD.out _).mono ?_; rintro e w' ⟨rfl, rfl⟩; rw [HDB.out]))
      go_round
      case rel =>
       refine ⟨k + 1, by omega, by go_num, fun j c hj hc => ?_⟩
       by_cases h : j < k
       · exact HP.out j c h hc
       · obtain rfl : j = k := by omega
         rw [List.getElem?_drop, HX.out] at hc
         cases hc
         exact HB.out
      case measure => simp [intOf]; omega
    rcases (Bool.eq_false_or_eq_true (dgB s[i + k])) with hd | hd
    · have HSB := Hd hs
      have HGB := Hd hg
      have HDB := Hd hd
      have HB : RowKit.Hid (vrB s[i + k] = true) := Hd ((hfar.2.2.1 hd).2)
      clear hs hg hd hfar
      go_wp2_with (first
       | (go_at_call 234; refine (HS.out _).mono ?_; rintro e w' ⟨rfl, rfl⟩; rw [HSB.out])
       | (go_at_call 235; refine (HG.out _).mono ?_; rintro e w' ⟨rfl, rfl⟩; rw [HGB.out])
       | (go_at_call 240; refine (HD.out _).mono ?_; rintro e w' ⟨rfl, rfl⟩; rw [HDB.out]))
      go_round
      case rel =>
       refine ⟨k + 1, by omega, by go_num, fun j c hj hc => ?_⟩
       by_cases h : j < k
       · exact HP.out j c h hc
       · obtain rfl : j = k := by omega
         rw [List.getElem?_drop, HX.out] at hc
         cases hc
         exact HB.out
      case measure => simp [intOf]; omega
    have HSB := Hd hs
    have HGB := Hd hg
    have HDB := Hd hd
    by_cases h95 : s[i + k].toNat = 95
    · have d95 : ((s[i + k].toNat : Int) == 95) = true := by rw [h95]; rfl
      have HB : RowKit.Hid (vrB s[i + k] = true) := Hd (by unfold vrB nmB; rw [h95]; simp)
      clear hs hg hd hfar h95
      go_wp2_with (first
       | (go_at_call 234; refine (HS.out _).mono ?_; rintro e w' ⟨rfl, rfl⟩; rw [HSB.out])
       | (go_at_call 235; refine (HG.out _).mono ?_; rintro e w' ⟨rfl, rfl⟩; rw [HGB.out])
       | (go_at_call 240; refine (HD.out _).mono ?_; rintro e w' ⟨rfl, rfl⟩; rw [HDB.out]))
      go_round
      case rel =>
       refine ⟨k + 1, by omega, by go_num, fun j c hj hc => ?_⟩
       by_cases h : j < k
       · exact HP.out j c h hc
       · obtain rfl : j = k := by omega
         rw [List.getElem?_drop, HX.out] at hc
         cases hc
         exact HB.out
      case measure => simp [intOf]; omega
    have d95 : ((s[i + k].toNat : Int) == 95) = false := by rw [beq_eq_false_iff_ne]; omega
    have HB : RowKit.Hid (vrB s[i + k] = false) := Hd (by unfold vrB nmB; rw [hs, hg, hd]; simp [h95])
    clear hs hg hd hfar h95
    go_wp2_with (first
      | (go_at_call 234; refine (HS.out _).mono ?_; rintro e w' ⟨rfl, rfl⟩; rw [HSB.out])
      | (go_at_call 235; refine (HG.out _).mono ?_; rintro e w' ⟨rfl, rfl⟩; rw [HGB.out])
      | (go_at_call 240; refine (HD.out _).mono ?_; rintro e w' ⟨rfl, rfl⟩; rw [HDB.out]))
    go_ret
    exact ⟨ret_int Q28, rfl⟩
  · have hki : ¬ (i : Int) + (k : Int) < (s.size : Int) := by omega
    go_wp2
    go_ret
    exact ⟨ret_int Q24, rfl⟩
end Go.Proofs.YtmkjalnlldpdcaaGreatDoor
