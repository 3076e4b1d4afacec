
/- A text, as it is told. -/
import Derived.Test.YtpedmkdpbdhenaaGreatDoorMc
namespace Go.Proofs.YtpedmkdpbdhenaaGreatDoor
open Go.RowKit
set_option linter.unusedSimpArgs false
set_option linter.unusedVariables false
/-- Bytes in a row of one's own. -/
def TxB (w : World) (v : Value) (l : List UInt8) (wr : World) : Prop := Below w.heap.size w wr ∧ wr.ownsRow w.heap.size 5 1 v l.length (Lib.byteCells l)
theorem TxB.alloc {w wr : World} {v : Value} {l : List UInt8} (h : TxB w v l wr) (o : Obj) : TxB w v l (wr.alloc o) := ⟨h.1.alloc h.1.size _, h.2.alloc _⟩
theorem TxB.drew {w wr : World} {v : Value} {l : List UInt8} (h : TxB w v l wr) : TxB w v l wr.drew := ⟨h.1.drew, h.2⟩
theorem byteCells_snoc (l : List UInt8) (c : UInt8) : Lib.byteCells (l ++ [c]) = Lib.byteCells l ++ [.int .u8 (c.toNat : Nat)] := by simp [Lib.byteCells]
theorem TxB.grow {w wr w2 : World} {v v' : Value} {l : List UInt8} {z : Int} (h : TxB w v l wr) (c : UInt8) (hz : z = (c.toNat : Nat)) (ho : w2.ownsRow w.heap.size 5 1 v' (l.length + 1) (Lib.byteCells l ++ [.int .u8 z])) (hg : wr.grownBy w2 v.ownBlock) : TxB w v' (l ++ [c]) w2 := by
  subst hz
  refine ⟨h.1.grown hg h.1.size fun k hk => (h.2.lt k hk).1, ?_⟩
  rw [byteCells_snoc]
  simpa using ho
theorem TxB.shape {w wr : World} {v : Value} {l : List UInt8} (h : TxB w v l wr) : ∃ ao cap, v = .slice ao l.length cap := by
  rcases h.2.2 with ⟨hv, h0⟩ | ⟨g, cap, cur, hv, _⟩
  · exact ⟨none, 0, by rw [hv, h0]⟩
  · exact ⟨_, _, hv⟩
theorem TxB.conv {w wr : World} {v : Value} {l : List UInt8} (h : TxB w v l wr) (hl : l ≠ []) : (convert 50 9 v).run Tryz.prog wr = .ok (.string (ofL l)) wr := by
  rcases h.2.2 with ⟨hv, h0⟩ | ⟨g, cap, cur, hv, hb, hg, r⟩
  · exact absurd (List.eq_nil_of_length_eq_zero h0) hl
  · subst hv
    refine run_convert_bytes_back wr 50 9 5 ⟨g, 0, none⟩ cap l Tryz.underlying50 Tryz.underlying5 Tryz.underlying9 ?_
    intro j hj
    have hc := h.2.cells (g := g) rfl j (.int .u8 (l[j].toNat : Nat)) (by simp [Lib.byteCells, hj])
    exact hc
theorem TxB.esc {w wr : World} {v : Value} {l : List UInt8} (h : TxB w v l wr) (hw : EscW w) : EscW wr := by
  exact hw.below h.1 hw.pos
set_option maxHeartbeats 8000000 in
set_option maxRecDepth 100000 in
theorem tellText_any (s : ByteArray) (hm : s.size ≤ 4194304) (w : World) (hw : EscW w) :
    Calls Tryz.prog 22 #[.string s] w fun e w' => e = .returned (.string (ofL (telL s.data.toList))) ∧ Below w.heap.size w w' := by
  have HE := Lib.hid hw
  have i0 := fun W => esc_i0 W
  have i1 := fun W => esc_i1 W
  have i2 := fun W => esc_i2 W
  have i3 := fun W => esc_i3 W
  clear hw
  obtain ⟨j0, hi, hz0, hz1, hz2⟩ := info_parts Tryz.Builder_Extra_169.infoByte
  have HI := Lib.hid hi
  have HZ0 := Lib.hid hz0
  have HZ1 := Lib.hid hz1
  have HZ2 := Lib.hid hz2
  clear hi hz0 hz1 hz2
  go_enter Tryz.func22, Tryz.ntmps22
  go_wp2
  go_loopw [3, 11] (fun v i wr => ∃ k : Nat, i = .int .i64 k ∧ k ≤ s.size ∧ TxB w v (34 :: (s.data.toList.take k).flatMap escE) wr) (fun _ i _ => s.size - (intOf i).toNat)
  case atStart =>
    refine ⟨0, rfl, Nat.zero_le _, below_alloc w _, ?_⟩
    exact World.ownsRow_lit w #[.int .u8 34] 1 (Nat.le_refl _) (by unfold maxLen; omega) rfl
  case round =>
    obtain ⟨k, rfl, hk, hT⟩ := hrel
    have HT := Lib.hid hT
    obtain ⟨ao, cap, rfl⟩ := hT.shape
    clear hT
    have hwz := HT.out.1.size
    generalize hD : (34 :: (s.data.toList.take k).flatMap escE) = D at *
    have hDl : D.length ≤ 9000000 := by
      rw [← hD, List.length_cons]
      have : ((s.data.toList.take k).flatMap escE).length ≤ 2 * (s.data.toList.take k).length := by
        have := telL_len (s.data.toList.take k)
        unfold telL at this
        rw [List.length_cons, List.length_append, List.length_cons, List.length_nil] at this
        omega
      rw [List.length_take, len_list] at this
      omega
    have HD := Lib.hid hD
    clear hD
    by_cases hlt : k < s.size
    · have hki : (k : Int) < (s.size : Int) := by omega
      have hN : s.data.toList.take (k + 1) = s.data.toList.take k ++ [s[k]] := take_one (at_list s k hlt)
      have HN : RowKit.Hid (34 :: (s.data.toList.take (k + 1)).flatMap escE = D ++ escE s[k]) := Lib.hid (by rw [hN, ← HD.out, List.flatMap_append]; simp)
      clear hN
      have hE := HT.out.esc HE.out
      obtain ⟨tt, hE⟩ := hE
      have c0 := hb_at hE 0 rfl
      have c1 := hb_at hE 1 rfl
      have c2 := hb_at hE 2 rfl
      have c3 := hb_at hE 3 rfl
      have c4 := hb_at hE 4 rfl
      have c5 := hb_at hE 5 rfl
      have c6 := hb_at hE 6 rfl
      have c7 := hb_at hE 7 rfl
      clear hE
      go_wp2
      clear c0 c1 c2 c3 c4 c5 c6 c7
      generalize hwq : wr = wq at *
      clear hwq
      go_loopw [3, 5, 18] (fun v c i wr => ∃ q : Nat, i = .int .i64 q ∧ v = .slice ao D.length cap ∧ c = .int .u8 (s[k].toNat : Nat) ∧ q ≤ 4 ∧ TxB w (.slice ao D.length cap) D wr ∧ (1 ≤ q → s[k].toNat ≠ 92) ∧ (2 ≤ q → s[k].toNat ≠ 34) ∧ (3 ≤ q → s[k].toNat ≠ 10) ∧ (4 ≤ q → s[k].toNat ≠ 9)) (fun _ _ i _ => 4 - (intOf i).toNat)
      case atStart => exact ⟨0, rfl, rfl, rfl, by omega, HT.out, by omega, by omega, by omega, by omega⟩
      case round =>
        obtain ⟨q, rfl, rfl, rfl, hq, hT2, n0, n1, n2, n3⟩ := hrel
        have HT2 := Lib.hid hT2
        have hws := hT2.1.size
        have H0 := Lib.hid n0
        have H1 := Lib.hid n1
        have H2 := Lib.hid n2
        have H3 := Lib.hid n3
        clear hT2 n0 n1 n2 n3
        have hc : q = 0 ∨ q = 1 ∨ q = 2 ∨ q = 3 ∨ q = 4 := by omega
        rcases hc with rfl | rfl | rfl | rfl | rfl
        · by_cases hx : s[k].toNat = 92
          · have hd : ((s[k].toNat : Int) == 92) = true := by rw [hx]; rfl
            have he : escE s[k] = [92, 92] := by unfold escE; rw [if_pos hx]
            have HX := Lib.hid he
            clear he hx
            go_wp2_with (at_builtin; refine (fun h : True → _ => h trivial) ?_)
            have hX2 := (HT2.out.alloc (.cells #[.int .u8 92, .int .u8 92] 64)).alloc (.cells #[.int .u8 92] 5)
            have k2 := hb_alloc (hb_new wr (.cells #[.int .u8 92, .int .u8 92] 64)) (.cells #[.int .u8 92] 5)
            intro _
            refine wpList_append_own_at _ rfl _ _ 50 rfl w.heap.size 5 j0 (.int .u8 0) 1 1 Tryz.underlying50 HI.out HZ0.out HZ1.out HZ2.out rfl (by decide) _ _ _ rfl hX2.2 ⟨wr.heap.size + 1, 0, none⟩ 1 1 [.int .u8 92] rfl rfl (by have h := new_cells (wr.alloc (.cells #[.int .u8 92, .int .u8 92] 64)) #[.int .u8 92] 5 [.int .u8 92] rfl; rw [World.size_alloc] at h; exact h) (by simp [Value.oneCell']) (by unfold maxLen; omega) (by omega) (by have := hX2.1.size; omega) ?_
            intro v4 w4 ho4 hg4 _ _
            have hX4 := hX2.grow 92 rfl ho4 hg4
            have k4 := hb_grown k2 hg4 (own_ne hX2.2 k2 (by intro cs f e; cases e))
            have r0 := hb_at k4 0 rfl
            clear ho4 hg4 hX2 k2 k4
            generalize hE4 : D ++ [92] = E4 at hX4
            have hl4 : E4.length ≤ 9000001 := by rw [← hE4, List.length_append, List.length_singleton]; omega
            have HE4 := Lib.hid hE4
            have HX4 := Lib.hid hX4
            obtain ⟨ao4, cap4, rfl⟩ := hX4.shape
            clear hX4 hE4
            go_wp2_with (at_builtin; refine (fun h : True → _ => h trivial) ?_)
            have hX5 := HX4.out.alloc (.cells #[.int .u8 92] 5)
            intro _
            refine wpList_append_own_at _ rfl _ _ 50 rfl w.heap.size 5 j0 (.int .u8 0) 1 1 Tryz.underlying50 HI.out HZ0.out HZ1.out HZ2.out rfl (by decide) _ _ _ rfl hX5.2 ⟨w4.heap.size, 0, none⟩ 1 1 [.int .u8 92] rfl rfl (by have h := new_cells w4 #[.int .u8 92] 5 [.int .u8 92] rfl; exact h) (by simp [Value.oneCell']) (by unfold maxLen; omega) (by omega) (by have := hX5.1.size; omega) ?_
            intro v6 w6 ho6 hg6 _ _
            have hX6 := hX5.grow 92 rfl ho6 hg6
            rw [← HE4.out, List.append_assoc] at hX6
            have HX6 := Lib.hid hX6
            clear ho6 hg6 hX5 hX6
            go_wp2
            exact ⟨⟨k + 1, rfl, by omega, by rw [HN.out, HX.out]; exact HX6.out⟩, by simp [intOf]; omega⟩
          · have hd : ((s[k].toNat : Int) == 92) = false := by rw [beq_eq_false_iff_ne]; omega
            have HX := Lib.hid hx
            clear hx
            go_wp2
            exact ⟨⟨1, rfl, rfl, rfl, by omega, HT2.out.alloc _, fun _ => HX.out, by omega, by omega, by omega⟩, by simp [intOf]⟩
        · by_cases hx : s[k].toNat = 34
          · have hd : ((s[k].toNat : Int) == 34) = true := by rw [hx]; rfl
            have he : escE s[k] = [92, 34] := by unfold escE; rw [if_neg (H0.out (by omega))]; rw [if_pos hx]
            have HX := Lib.hid he
            clear he hx
            go_wp2_with (at_builtin; refine (fun h : True → _ => h trivial) ?_)
            have hX2 := (HT2.out.alloc (.cells #[.int .u8 34, .int .u8 34] 64)).alloc (.cells #[.int .u8 92] 5)
            have k2 := hb_alloc (hb_new wr (.cells #[.int .u8 34, .int .u8 34] 64)) (.cells #[.int .u8 92] 5)
            intro _
            refine wpList_append_own_at _ rfl _ _ 50 rfl w.heap.size 5 j0 (.int .u8 0) 1 1 Tryz.underlying50 HI.out HZ0.out HZ1.out HZ2.out rfl (by decide) _ _ _ rfl hX2.2 ⟨wr.heap.size + 1, 0, none⟩ 1 1 [.int .u8 92] rfl rfl (by have h := new_cells (wr.alloc (.cells #[.int .u8 34, .int .u8 34] 64)) #[.int .u8 92] 5 [.int .u8 92] rfl; rw [World.size_alloc] at h; exact h) (by simp [Value.oneCell']) (by unfold maxLen; omega) (by omega) (by have := hX2.1.size; omega) ?_
            intro v4 w4 ho4 hg4 _ _
            have hX4 := hX2.grow 92 rfl ho4 hg4
            have k4 := hb_grown k2 hg4 (own_ne hX2.2 k2 (by intro cs f e; cases e))
            have r0 := hb_at k4 0 rfl
            clear ho4 hg4 hX2 k2 k4
            generalize hE4 : D ++ [92] = E4 at hX4
            have hl4 : E4.length ≤ 9000001 := by rw [← hE4, List.length_append, List.length_singleton]; omega
            have HE4 := Lib.hid hE4
            have HX4 := Lib.hid hX4
            obtain ⟨ao4, cap4, rfl⟩ := hX4.shape
            clear hX4 hE4
            go_wp2_with (at_builtin; refine (fun h : True → _ => h trivial) ?_)
            have hX5 := HX4.out.alloc (.cells #[.int .u8 34] 5)
            intro _
            refine wpList_append_own_at _ rfl _ _ 50 rfl w.heap.size 5 j0 (.int .u8 0) 1 1 Tryz.underlying50 HI.out HZ0.out HZ1.out HZ2.out rfl (by decide) _ _ _ rfl hX5.2 ⟨w4.heap.size, 0, none⟩ 1 1 [.int .u8 34] rfl rfl (by have h := new_cells w4 #[.int .u8 34] 5 [.int .u8 34] rfl; exact h) (by simp [Value.oneCell']) (by unfold maxLen; omega) (by omega) (by have := hX5.1.size; omega) ?_
            intro v6 w6 ho6 hg6 _ _
            have hX6 := hX5.grow 34 rfl ho6 hg6
            rw [← HE4.out, List.append_assoc] at hX6
            have HX6 := Lib.hid hX6
            clear ho6 hg6 hX5 hX6
            go_wp2
            exact ⟨⟨k + 1, rfl, by omega, by rw [HN.out, HX.out]; exact HX6.out⟩, by simp [intOf]; omega⟩
          · have hd : ((s[k].toNat : Int) == 34) = false := by rw [beq_eq_false_iff_ne]; omega
            have HX := Lib.hid hx
            clear hx
            go_wp2
            exact ⟨⟨2, rfl, rfl, rfl, by omega, HT2.out.alloc _, fun _ => H0.out (by omega), fun _ => HX.out, by omega, by omega⟩, by simp [intOf]⟩
        · by_cases hx : s[k].toNat = 10
          · have hd : ((s[k].toNat : Int) == 10) = true := by rw [hx]; rfl
            have he : escE s[k] = [92, 110] := by unfold escE; rw [if_neg (H0.out (by omega))]; rw [if_neg (H1.out (by omega))]; rw [if_pos hx]
            have HX := Lib.hid he
            clear he hx
            go_wp2_with (at_builtin; refine (fun h : True → _ => h trivial) ?_)
            have hX2 := (HT2.out.alloc (.cells #[.int .u8 110, .int .u8 10] 64)).alloc (.cells #[.int .u8 92] 5)
            have k2 := hb_alloc (hb_new wr (.cells #[.int .u8 110, .int .u8 10] 64)) (.cells #[.int .u8 92] 5)
            intro _
            refine wpList_append_own_at _ rfl _ _ 50 rfl w.heap.size 5 j0 (.int .u8 0) 1 1 Tryz.underlying50 HI.out HZ0.out HZ1.out HZ2.out rfl (by decide) _ _ _ rfl hX2.2 ⟨wr.heap.size + 1, 0, none⟩ 1 1 [.int .u8 92] rfl rfl (by have h := new_cells (wr.alloc (.cells #[.int .u8 110, .int .u8 10] 64)) #[.int .u8 92] 5 [.int .u8 92] rfl; rw [World.size_alloc] at h; exact h) (by simp [Value.oneCell']) (by unfold maxLen; omega) (by omega) (by have := hX2.1.size; omega) ?_
            intro v4 w4 ho4 hg4 _ _
            have hX4 := hX2.grow 92 rfl ho4 hg4
            have k4 := hb_grown k2 hg4 (own_ne hX2.2 k2 (by intro cs f e; cases e))
            have r0 := hb_at k4 0 rfl
            clear ho4 hg4 hX2 k2 k4
            generalize hE4 : D ++ [92] = E4 at hX4
            have hl4 : E4.length ≤ 9000001 := by rw [← hE4, List.length_append, List.length_singleton]; omega
            have HE4 := Lib.hid hE4
            have HX4 := Lib.hid hX4
            obtain ⟨ao4, cap4, rfl⟩ := hX4.shape
            clear hX4 hE4
            go_wp2_with (at_builtin; refine (fun h : True → _ => h trivial) ?_)
            have hX5 := HX4.out.alloc (.cells #[.int .u8 110] 5)
            intro _
            refine wpList_append_own_at _ rfl _ _ 50 rfl w.heap.size 5 j0 (.int .u8 0) 1 1 Tryz.underlying50 HI.out HZ0.out HZ1.out HZ2.out rfl (by decide) _ _ _ rfl hX5.2 ⟨w4.heap.size, 0, none⟩ 1 1 [.int .u8 110] rfl rfl (by have h := new_cells w4 #[.int .u8 110] 5 [.int .u8 110] rfl; exact h) (by simp [Value.oneCell']) (by unfold maxLen; omega) (by omega) (by have := hX5.1.size; omega) ?_
            intro v6 w6 ho6 hg6 _ _
            have hX6 := hX5.grow 110 rfl ho6 hg6
            rw [← HE4.out, List.append_assoc] at hX6
            have HX6 := Lib.hid hX6
            clear ho6 hg6 hX5 hX6
            go_wp2
            exact ⟨⟨k + 1, rfl, by omega, by rw [HN.out, HX.out]; exact HX6.out⟩, by simp [intOf]; omega⟩
          · have hd : ((s[k].toNat : Int) == 10) = false := by rw [beq_eq_false_iff_ne]; omega
            have HX := Lib.hid hx
            clear hx
            go_wp2
            exact ⟨⟨3, rfl, rfl, rfl, by omega, HT2.out.alloc _, fun _ => H0.out (by omega), fun _ => H1.out (by omega), fun _ => HX.out, by omega⟩, by simp [intOf]⟩
        · by_cases hx : s[k].toNat = 9
          · have hd : ((s[k].toNat : Int) == 9) = true := by rw [hx]; rfl
            have he : escE s[k] = [92, 116] := by unfold escE; rw [if_neg (H0.out (by omega))]; rw [if_neg (H1.out (by omega))]; rw [if_neg (H2.out (by omega))]; rw [if_pos hx]
            have HX := Lib.hid he
            clear he hx
            go_wp2_with (at_builtin; refine (fun h : True → _ => h trivial) ?_)
            have hX2 := (HT2.out.alloc (.cells #[.int .u8 116, .int .u8 9] 64)).alloc (.cells #[.int .u8 92] 5)
            have k2 := hb_alloc (hb_new wr (.cells #[.int .u8 116, .int .u8 9] 64)) (.cells #[.int .u8 92] 5)
            intro _
            refine wpList_append_own_at _ rfl _ _ 50 rfl w.heap.size 5 j0 (.int .u8 0) 1 1 Tryz.underlying50 HI.out HZ0.out HZ1.out HZ2.out rfl (by decide) _ _ _ rfl hX2.2 ⟨wr.heap.size + 1, 0, none⟩ 1 1 [.int .u8 92] rfl rfl (by have h := new_cells (wr.alloc (.cells #[.int .u8 116, .int .u8 9] 64)) #[.int .u8 92] 5 [.int .u8 92] rfl; rw [World.size_alloc] at h; exact h) (by simp [Value.oneCell']) (by unfold maxLen; omega) (by omega) (by have := hX2.1.size; omega) ?_
            intro v4 w4 ho4 hg4 _ _
            have hX4 := hX2.grow 92 rfl ho4 hg4
            have k4 := hb_grown k2 hg4 (own_ne hX2.2 k2 (by intro cs f e; cases e))
            have r0 := hb_at k4 0 rfl
            clear ho4 hg4 hX2 k2 k4
            generalize hE4 : D ++ [92] = E4 at hX4
            have hl4 : E4.length ≤ 9000001 := by rw [← hE4, List.length_append, List.length_singleton]; omega
            have HE4 := Lib.hid hE4
            have HX4 := Lib.hid hX4
            obtain ⟨ao4, cap4, rfl⟩ := hX4.shape
            clear hX4 hE4
            go_wp2_with (at_builtin; refine (fun h : True → _ => h trivial) ?_)
            have hX5 := HX4.out.alloc (.cells #[.int .u8 116] 5)
            intro _
            refine wpList_append_own_at _ rfl _ _ 50 rfl w.heap.size 5 j0 (.int .u8 0) 1 1 Tryz.underlying50 HI.out HZ0.out HZ1.out HZ2.out rfl (by decide) _ _ _ rfl hX5.2 ⟨w4.heap.size, 0, none⟩ 1 1 [.int .u8 116] rfl rfl (by have h := new_cells w4 #[.int .u8 116] 5 [.int .u8 116] rfl; exact h) (by simp [Value.oneCell']) (by unfold maxLen; omega) (by omega) (by have := hX5.1.size; omega) ?_
            intro v6 w6 ho6 hg6 _ _
            have hX6 := hX5.grow 116 rfl ho6 hg6
            rw [← HE4.out, List.append_assoc] at hX6
            have HX6 := Lib.hid hX6
            clear ho6 hg6 hX5 hX6
            go_wp2
            exact ⟨⟨k + 1, rfl, by omega, by rw [HN.out, HX.out]; exact HX6.out⟩, by simp [intOf]; omega⟩
          · have hd : ((s[k].toNat : Int) == 9) = false := by rw [beq_eq_false_iff_ne]; omega
            have HX := Lib.hid hx
            clear hx
            go_wp2
            exact ⟨⟨4, rfl, rfl, rfl, by omega, HT2.out.alloc _, fun _ => H0.out (by omega), fun _ => H1.out (by omega), fun _ => H2.out (by omega), fun _ => HX.out⟩, by simp [intOf]⟩
        · have he : escE s[k] = [s[k]] := by unfold escE; rw [if_neg (H0.out (by omega)), if_neg (H1.out (by omega)), if_neg (H2.out (by omega)), if_neg (H3.out (by omega))]
          have HX := Lib.hid he
          clear he
          go_wp2_with (at_builtin; refine (fun h : True → _ => h trivial) ?_)
          have hX5 := HT2.out.alloc (.cells #[.int .u8 (s[k].toNat : Nat)] 5)
          intro _
          refine wpList_append_own_at _ rfl _ _ 50 rfl w.heap.size 5 j0 (.int .u8 0) 1 1 Tryz.underlying50 HI.out HZ0.out HZ1.out HZ2.out rfl (by decide) _ _ _ rfl hX5.2 ⟨wr.heap.size, 0, none⟩ 1 1 [.int .u8 (s[k].toNat : Nat)] rfl rfl (by have h := new_cells wr #[.int .u8 (s[k].toNat : Nat)] 5 [.int .u8 (s[k].toNat : Nat)] rfl; exact h) (by simp [Value.oneCell']) (by unfold maxLen; omega) (by omega) (by have := hX5.1.size; omega) ?_
          intro v6 w6 ho6 hg6 _ _
          have hX6 := hX5.grow s[k] rfl ho6 hg6
          have HX6 := Lib.hid hX6
          clear ho6 hg6 hX5 hX6
          go_wp2
          exact ⟨⟨k + 1, rfl, by omega, by rw [HN.out, HX.out]; exact HX6.out⟩, by simp [intOf]; omega⟩
    · have hki : ¬ (k : Int) < (s.size : Int) := by omega
      go_wp2_with (at_builtin; refine (fun h : True → _ => h trivial) ?_)
      have hX5 := HT.out.alloc (.cells #[.int .u8 34] 5)
      intro _
      refine wpList_append_own_at _ rfl _ _ 50 rfl w.heap.size 5 j0 (.int .u8 0) 1 1 Tryz.underlying50 HI.out HZ0.out HZ1.out HZ2.out rfl (by decide) _ _ _ rfl hX5.2 ⟨wr.heap.size, 0, none⟩ 1 1 [.int .u8 34] rfl rfl (by have h := new_cells wr #[.int .u8 34] 5 [.int .u8 34] rfl; exact h) (by simp [Value.oneCell']) (by unfold maxLen; omega) (by omega) (by have := hX5.1.size; omega) ?_
      intro v6 w6 ho6 hg6 _ _
      have hX6 := hX5.grow 34 rfl ho6 hg6
      have hcv := hX6.conv (by simp)
      have HX6 := Lib.hid hX6
      clear ho6 hg6 hX5 hX6
      go_wp2
      go_ret
      have hf : telL s.data.toList = D ++ [34] := by
        rw [← HD.out, List.take_of_length_le (by rw [len_list]; omega)]
        rfl
      exact ⟨by rw [hf]; rfl, HX6.out.1⟩
end Go.Proofs.YtpedmkdpbdhenaaGreatDoor
