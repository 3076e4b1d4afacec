/- Texts in a row: Lp Lq Lr. -/
import Derived.Test.YthcpmdgdbceeiaaGreatDoorZ16
import Derived.Lib.AppendIntMem
/- A text, as it is told. -/
namespace Go.Proofs.YthcpmdgdbceeiaaGreatDoor
open Go.RowKit
set_option linter.unusedSimpArgs false
set_option linter.unusedVariables false
/-- Bytes in a row of one's own. -/
def TxB (w : World) (v : Value) (l : List UInt8) (wr : World) : Prop := Below w.heap.size w wr ∧ wr.ownsRow w.heap.size 5 1 v l.length (Lib.byteCells l)
theorem TxB.alloc {w wr : World} {v : Value} {l : List UInt8} (h : TxB w v l wr) (o : Obj) : TxB w v l (wr.alloc o) := ⟨h.1.alloc h.1.size _, h.2.alloc _⟩
theorem TxB.drew {w wr : World} {v : Value} {l : List UInt8} (h : TxB w v l wr) : TxB w v l wr.drew := ⟨h.1.drew, h.2⟩
theorem byteCells_snoc (l : List UInt8) (c : UInt8) : Lib.byteCells (l ++ [c]) = Lib.byteCells l ++ [.int .u8 (c.toNat : Nat)] := by simp [Lib.byteCells]
theorem TxB.grow {w wr w2 : World} {v v' : Value} {l : List UInt8} {z : Int} (h : TxB w v l wr) (c : UInt8) (hz : z = (c.toNat : Nat)) (ho : w2.ownsRow w.heap.size 5 1 v' (l.length + 1) (Lib.byteCells l ++ [.int .u8 z])) (hg : wr.grownBy w2 v.ownBlock) : TxB w v' (l ++ [c]) w2 := by
  subst hz
  refine ⟨h.1.grown hg h.1.size fun k hk => (h.2.lt k hk).1, ?_⟩
  rw [byteCells_snoc]
  simpa using ho
theorem TxB.shape {w wr : World} {v : Value} {l : List UInt8} (h : TxB w v l wr) : ∃ ao cap, v = .slice ao l.length cap := by
  rcases h.2.2 with ⟨hv, h0⟩ | ⟨g, cap, cur, hv, _⟩
  · exact ⟨none, 0, by rw [hv, h0]⟩
  · exact ⟨_, _, hv⟩
theorem TxB.conv {w wr : World} {v : Value} {l : List UInt8} (h : TxB w v l wr) (hl : l ≠ []) : (convert 97 9 v).run Tryz.prog wr = .ok (.string (ofL l)) wr := by
  rcases h.2.2 with ⟨hv, h0⟩ | ⟨g, cap, cur, hv, hb, hg, r⟩
  · exact absurd (List.eq_nil_of_length_eq_zero h0) hl
  · subst hv
    refine run_convert_bytes_back wr 97 9 5 ⟨g, 0, none⟩ cap l Tryz.underlying97 Tryz.underlying5 Tryz.underlying9 ?_
    intro j hj
    have hc := h.2.cells (g := g) rfl j (.int .u8 (l[j].toNat : Nat)) (by simp [Lib.byteCells, hj])
    exact hc
theorem TxB.esc {w wr : World} {v : Value} {l : List UInt8} (h : TxB w v l wr) (hw : EscW w) : EscW wr := by
  exact hw.below h.1 hw.pos
set_option maxHeartbeats 8000000 in
set_option maxRecDepth 100000 in
theorem tellText_any (s : ByteArray) (hm : s.size ≤ 4194304) (w : World) (hw : EscW w) :
    Calls Tryz.prog 73 #[.string s] w fun e w' => e = .returned (.string (ofL (telL s.data.toList))) ∧ Below w.heap.size w w' := by
  have HE := Lib.hid hw
  have i0 := fun W => esc_i0 W
  have i1 := fun W => esc_i1 W
  have i2 := fun W => esc_i2 W
  have i3 := fun W => esc_i3 W
  clear hw
  obtain ⟨j0, hi, hz0, hz1, hz2⟩ := info_parts Tryz.Builder_Extra_169.infoByte
  have HI := Lib.hid hi
  have HZ0 := Lib.hid hz0
  have HZ1 := Lib.hid hz1
  have HZ2 := Lib.hid hz2
  clear hi hz0 hz1 hz2
  go_enter Tryz.func73, Tryz.ntmps73
  go_wp2
  go_loopw [3, 11] (fun v i wr => ∃ k : Nat, i = .int .i64 k ∧ k ≤ s.size ∧ TxB w v (34 :: (s.data.toList.take k).flatMap escE) wr) (fun _ i _ => s.size - (intOf i).toNat)
  case atStart =>
    refine ⟨0, rfl, Nat.zero_le _, below_alloc w _, ?_⟩
    exact World.ownsRow_lit w #[.int .u8 34] 1 (Nat.le_refl _) (by unfold maxLen; omega) rfl
  case round =>
    obtain ⟨k, rfl, hk, hT⟩ := hrel
    have HT := Lib.hid hT
    obtain ⟨ao, cap, rfl⟩ := hT.shape
    clear hT
    have hwz := HT.out.1.size
    generalize hD : (34 :: (s.data.toList.take k).flatMap escE) = D at *
    have hDl : D.length ≤ 9000000 := by
      rw [← hD, List.length_cons]
      have : ((s.data.toList.take k).flatMap escE).length ≤ 2 * (s.data.toList.take k).length := by
        have := telL_len (s.data.toList.take k)
        unfold telL at this
        rw [List.length_cons, List.length_append, List.length_cons, List.length_nil] at this
        omega
      rw [List.length_take, len_list] at this
      omega
    have HD := Lib.hid hD
    clear hD
    by_cases hlt : k < s.size
    · have hki : (k : Int) < (s.size : Int) := by omega
      have hN : s.data.toList.take (k + 1) = s.data.toList.take k ++ [s[k]] := take_one (at_list s k hlt)
      have HN : RowKit.Hid (34 :: (s.data.toList.take (k + 1)).flatMap escE = D ++ escE s[k]) := Lib.hid (by rw [hN, ← HD.out, List.flatMap_append]; simp)
      clear hN
      have hE := HT.out.esc HE.out
      obtain ⟨tt, hE⟩ := hE
      have c0 := hb_at hE 0 rfl
      have c1 := hb_at hE 1 rfl
      have c2 := hb_at hE 2 rfl
      have c3 := hb_at hE 3 rfl
      have c4 := hb_at hE 4 rfl
      have c5 := hb_at hE 5 rfl
      have c6 := hb_at hE 6 rfl
      have c7 := hb_at hE 7 rfl
      clear hE
      go_wp2
      clear c0 c1 c2 c3 c4 c5 c6 c7
      generalize hwq : wr = wq at *
      clear hwq
      go_loopw [3, 5, 18] (fun v c i wr => ∃ q : Nat, i = .int .i64 q ∧ v = .slice ao D.length cap ∧ c = .int .u8 (s[k].toNat : Nat) ∧ q ≤ 4 ∧ TxB w (.slice ao D.length cap) D wr ∧ (1 ≤ q → s[k].toNat ≠ 92) ∧ (2 ≤ q → s[k].toNat ≠ 34) ∧ (3 ≤ q → s[k].toNat ≠ 10) ∧ (4 ≤ q → s[k].toNat ≠ 9)) (fun _ _ i _ => 4 - (intOf i).toNat)
      case atStart => exact ⟨0, rfl, rfl, rfl, by omega, HT.out, by omega, by omega, by omega, by omega⟩
      case round =>
        obtain ⟨q, rfl, rfl, rfl, hq, hT2, n0, n1, n2, n3⟩ := hrel
        have HT2 := Lib.hid hT2
        have hws := hT2.1.size
        have H0 := Lib.hid n0
        have H1 := Lib.hid n1
        have H2 := Lib.hid n2
        have H3 := Lib.hid n3
        clear hT2 n0 n1 n2 n3
        have hc : q = 0 ∨ q = 1 ∨ q = 2 ∨ q = 3 ∨ q = 4 := by omega
        rcases hc with rfl | rfl | rfl | rfl | rfl
        · by_cases hx : s[k].toNat = 92
          · have hd : ((s[k].toNat : Int) == 92) = true := by rw [hx]; rfl
            have he : escE s[k] = [92, 92] := by unfold escE; rw [if_pos hx]
            have HX := Lib.hid he
            clear he hx
            go_wp2_with (at_builtin; refine (fun h : True → _ => h trivial) ?_)
            have hX2 := (HT2.out.alloc (.cells #[.int .u8 92, .int .u8 92] 98)).alloc (.cells #[.int .u8 92] 5)
            have k2 := hb_alloc (hb_new wr (.cells #[.int .u8 92, .int .u8 92] 98)) (.cells #[.int .u8 92] 5)
            intro _
            refine wpList_append_own_at _ rfl _ _ 97 rfl w.heap.size 5 j0 (.int .u8 0) 1 1 Tryz.underlying97 HI.out HZ0.out HZ1.out HZ2.out rfl (by decide) _ _ _ rfl hX2.2 ⟨wr.heap.size + 1, 0, none⟩ 1 1 [.int .u8 92] rfl rfl (by have h := new_cells (wr.alloc (.cells #[.int .u8 92, .int .u8 92] 98)) #[.int .u8 92] 5 [.int .u8 92] rfl; rw [World.size_alloc] at h; exact h) (by simp [Value.oneCell']) (by unfold maxLen; omega) (by omega) (by have := hX2.1.size; omega) ?_
            intro v4 w4 ho4 hg4 _ _
            have hX4 := hX2.grow 92 rfl ho4 hg4
            have k4 := hb_grown k2 hg4 (own_ne hX2.2 k2 (by intro cs f e; cases e))
            have r0 := hb_at k4 0 rfl
            clear ho4 hg4 hX2 k2 k4
            generalize hE4 : D ++ [92] = E4 at hX4
            have hl4 : E4.length ≤ 9000001 := by rw [← hE4, List.length_append, List.length_singleton]; omega
            have HE4 := Lib.hid hE4
            have HX4 := Lib.hid hX4
            obtain ⟨ao4, cap4, rfl⟩ := hX4.shape
            clear hX4 hE4
            go_wp2_with (at_builtin; refine (fun h : True → _ => h trivial) ?_)
            have hX5 := HX4.out.alloc (.cells #[.int .u8 92] 5)
            intro _
            refine wpList_append_own_at _ rfl _ _ 97 rfl w.heap.size 5 j0 (.int .u8 0) 1 1 Tryz.underlying97 HI.out HZ0.out HZ1.out HZ2.out rfl (by decide) _ _ _ rfl hX5.2 ⟨w4.heap.size, 0, none⟩ 1 1 [.int .u8 92] rfl rfl (by have h := new_cells w4 #[.int .u8 92] 5 [.int .u8 92] rfl; exact h) (by simp [Value.oneCell']) (by unfold maxLen; omega) (by omega) (by have := hX5.1.size; omega) ?_
            intro v6 w6 ho6 hg6 _ _
            have hX6 := hX5.grow 92 rfl ho6 hg6
            rw [← HE4.out, List.append_assoc] at hX6
            have HX6 := Lib.hid hX6
            clear ho6 hg6 hX5 hX6
            go_wp2
            exact ⟨⟨k + 1, rfl, by omega, by rw [HN.out, HX.out]; exact HX6.out⟩, by simp [intOf]; omega⟩
          · have hd : ((s[k].toNat : Int) == 92) = false := by rw [beq_eq_false_iff_ne]; omega
            have HX := Lib.hid hx
            clear hx
            go_wp2
            exact ⟨⟨1, rfl, rfl, rfl, by omega, HT2.out.alloc _, fun _ => HX.out, by omega, by omega, by omega⟩, by simp [intOf]⟩
        · by_cases hx : s[k].toNat = 34
          · have hd : ((s[k].toNat : Int) == 34) = true := by rw [hx]; rfl
            have he : escE s[k] = [92, 34] := by unfold escE; rw [if_neg (H0.out (by omega))]; rw [if_pos hx]
            have HX := Lib.hid he
            clear he hx
            go_wp2_with (at_builtin; refine (fun h : True → _ => h trivial) ?_)
            have hX2 := (HT2.out.alloc (.cells #[.int .u8 34, .int .u8 34] 98)).alloc (.cells #[.int .u8 92] 5)
            have k2 := hb_alloc (hb_new wr (.cells #[.int .u8 34, .int .u8 34] 98)) (.cells #[.int .u8 92] 5)
            intro _
            refine wpList_append_own_at _ rfl _ _ 97 rfl w.heap.size 5 j0 (.int .u8 0) 1 1 Tryz.underlying97 HI.out HZ0.out HZ1.out HZ2.out rfl (by decide) _ _ _ rfl hX2.2 ⟨wr.heap.size + 1, 0, none⟩ 1 1 [.int .u8 92] rfl rfl (by have h := new_cells (wr.alloc (.cells #[.int .u8 34, .int .u8 34] 98)) #[.int .u8 92] 5 [.int .u8 92] rfl; rw [World.size_alloc] at h; exact h) (by simp [Value.oneCell']) (by unfold maxLen; omega) (by omega) (by have := hX2.1.size; omega) ?_
            intro v4 w4 ho4 hg4 _ _
            have hX4 := hX2.grow 92 rfl ho4 hg4
            have k4 := hb_grown k2 hg4 (own_ne hX2.2 k2 (by intro cs f e; cases e))
            have r0 := hb_at k4 0 rfl
            clear ho4 hg4 hX2 k2 k4
            generalize hE4 : D ++ [92] = E4 at hX4
            have hl4 : E4.length ≤ 9000001 := by rw [← hE4, List.length_append, List.length_singleton]; omega
            have HE4 := Lib.hid hE4
            have HX4 := Lib.hid hX4
            obtain ⟨ao4, cap4, rfl⟩ := hX4.shape
            clear hX4 hE4
            go_wp2_with (at_builtin; refine (fun h : True → _ => h trivial) ?_)
            have hX5 := HX4.out.alloc (.cells #[.int .u8 34] 5)
            intro _
            refine wpList_append_own_at _ rfl _ _ 97 rfl w.heap.size 5 j0 (.int .u8 0) 1 1 Tryz.underlying97 HI.out HZ0.out HZ1.out HZ2.out rfl (by decide) _ _ _ rfl hX5.2 ⟨w4.heap.size, 0, none⟩ 1 1 [.int .u8 34] rfl rfl (by have h := new_cells w4 #[.int .u8 34] 5 [.int .u8 34] rfl; exact h) (by simp [Value.oneCell']) (by unfold maxLen; omega) (by omega) (by have := hX5.1.size; omega) ?_
            intro v6 w6 ho6 hg6 _ _
            have hX6 := hX5.grow 34 rfl ho6 hg6
            rw [← HE4.out, List.append_assoc] at hX6
            have HX6 := Lib.hid hX6
            clear ho6 hg6 hX5 hX6
            go_wp2
            exact ⟨⟨k + 1, rfl, by omega, by rw [HN.out, HX.out]; exact HX6.out⟩, by simp [intOf]; omega⟩
          · have hd : ((s[k].toNat : Int) == 34) = false := by rw [beq_eq_false_iff_ne]; omega
            have HX := Lib.hid hx
            clear hx
            go_wp2
            exact ⟨⟨2, rfl, rfl, rfl, by omega, HT2.out.alloc _, fun _ => H0.out (by omega), fun _ => HX.out, by omega, by omega⟩, by simp [intOf]⟩
        · by_cases hx : s[k].toNat = 10
          · have hd : ((s[k].toNat : Int) == 10) = true := by rw [hx]; rfl
            have he : escE s[k] = [92, 110] := by unfold escE; rw [if_neg (H0.out (by omega))]; rw [if_neg (H1.out (by omega))]; rw [if_pos hx]
            have HX := Lib.hid he
            clear he hx
            go_wp2_with (at_builtin; refine (fun h : True → _ => h trivial) ?_)
            have hX2 := (HT2.out.alloc (.cells #[.int .u8 110, .int .u8 10] 98)).alloc (.cells #[.int .u8 92] 5)
            have k2 := hb_alloc (hb_new wr (.cells #[.int .u8 110, .int .u8 10] 98)) (.cells #[.int .u8 92] 5)
            intro _
            refine wpList_append_own_at _ rfl _ _ 97 rfl w.heap.size 5 j0 (.int .u8 0) 1 1 Tryz.underlying97 HI.out HZ0.out HZ1.out HZ2.out rfl (by decide) _ _ _ rfl hX2.2 ⟨wr.heap.size + 1, 0, none⟩ 1 1 [.int .u8 92] rfl rfl (by have h := new_cells (wr.alloc (.cells #[.int .u8 110, .int .u8 10] 98)) #[.int .u8 92] 5 [.int .u8 92] rfl; rw [World.size_alloc] at h; exact h) (by simp [Value.oneCell']) (by unfold maxLen; omega) (by omega) (by have := hX2.1.size; omega) ?_
            intro v4 w4 ho4 hg4 _ _
            have hX4 := hX2.grow 92 rfl ho4 hg4
            have k4 := hb_grown k2 hg4 (own_ne hX2.2 k2 (by intro cs f e; cases e))
            have r0 := hb_at k4 0 rfl
            clear ho4 hg4 hX2 k2 k4
            generalize hE4 : D ++ [92] = E4 at hX4
            have hl4 : E4.length ≤ 9000001 := by rw [← hE4, List.length_append, List.length_singleton]; omega
            have HE4 := Lib.hid hE4
            have HX4 := Lib.hid hX4
            obtain ⟨ao4, cap4, rfl⟩ := hX4.shape
            clear hX4 hE4
            go_wp2_with (at_builtin; refine (fun h : True → _ => h trivial) ?_)
            have hX5 := HX4.out.alloc (.cells #[.int .u8 110] 5)
            intro _
            refine wpList_append_own_at _ rfl _ _ 97 rfl w.heap.size 5 j0 (.int .u8 0) 1 1 Tryz.underlying97 HI.out HZ0.out HZ1.out HZ2.out rfl (by decide) _ _ _ rfl hX5.2 ⟨w4.heap.size, 0, none⟩ 1 1 [.int .u8 110] rfl rfl (by have h := new_cells w4 #[.int .u8 110] 5 [.int .u8 110] rfl; exact h) (by simp [Value.oneCell']) (by unfold maxLen; omega) (by omega) (by have := hX5.1.size; omega) ?_
            intro v6 w6 ho6 hg6 _ _
            have hX6 := hX5.grow 110 rfl ho6 hg6
            rw [← HE4.out, List.append_assoc] at hX6
            have HX6 := Lib.hid hX6
            clear ho6 hg6 hX5 hX6
            go_wp2
            exact ⟨⟨k + 1, rfl, by omega, by rw [HN.out, HX.out]; exact HX6.out⟩, by simp [intOf]; omega⟩
          · have hd : ((s[k].toNat : Int) == 10) = false := by rw [beq_eq_false_iff_ne]; omega
            have HX := Lib.hid hx
            clear hx
            go_wp2
            exact ⟨⟨3, rfl, rfl, rfl, by omega, HT2.out.alloc _, fun _ => H0.out (by omega), fun _ => H1.out (by omega), fun _ => HX.out, by omega⟩, by simp [intOf]⟩
        · by_cases hx : s[k].toNat = 9
          · have hd : ((s[k].toNat : Int) == 9) = true := by rw [hx]; rfl
            have he : escE s[k] = [92, 116] := by unfold escE; rw [if_neg (H0.out (by omega))]; rw [if_neg (H1.out (by omega))]; rw [if_neg (H2.out (by omega))]; rw [if_pos hx]
            have HX := Lib.hid he
            clear he hx
            go_wp2_with (at_builtin; refine (fun h : True → _ => h trivial) ?_)
            have hX2 := (HT2.out.alloc (.cells #[.int .u8 116, .int .u8 9] 98)).alloc (.cells #[.int .u8 92] 5)
            have k2 := hb_alloc (hb_new wr (.cells #[.int .u8 116, .int .u8 9] 98)) (.cells #[.int .u8 92] 5)
            intro _
            refine wpList_append_own_at _ rfl _ _ 97 rfl w.heap.size 5 j0 (.int .u8 0) 1 1 Tryz.underlying97 HI.out HZ0.out HZ1.out HZ2.out rfl (by decide) _ _ _ rfl hX2.2 ⟨wr.heap.size + 1, 0, none⟩ 1 1 [.int .u8 92] rfl rfl (by have h := new_cells (wr.alloc (.cells #[.int .u8 116, .int .u8 9] 98)) #[.int .u8 92] 5 [.int .u8 92] rfl; rw [World.size_alloc] at h; exact h) (by simp [Value.oneCell']) (by unfold maxLen; omega) (by omega) (by have := hX2.1.size; omega) ?_
            intro v4 w4 ho4 hg4 _ _
            have hX4 := hX2.grow 92 rfl ho4 hg4
            have k4 := hb_grown k2 hg4 (own_ne hX2.2 k2 (by intro cs f e; cases e))
            have r0 := hb_at k4 0 rfl
            clear ho4 hg4 hX2 k2 k4
            generalize hE4 : D ++ [92] = E4 at hX4
            have hl4 : E4.length ≤ 9000001 := by rw [← hE4, List.length_append, List.length_singleton]; omega
            have HE4 := Lib.hid hE4
            have HX4 := Lib.hid hX4
            obtain ⟨ao4, cap4, rfl⟩ := hX4.shape
            clear hX4 hE4
            go_wp2_with (at_builtin; refine (fun h : True → _ => h trivial) ?_)
            have hX5 := HX4.out.alloc (.cells #[.int .u8 116] 5)
            intro _
            refine wpList_append_own_at _ rfl _ _ 97 rfl w.heap.size 5 j0 (.int .u8 0) 1 1 Tryz.underlying97 HI.out HZ0.out HZ1.out HZ2.out rfl (by decide) _ _ _ rfl hX5.2 ⟨w4.heap.size, 0, none⟩ 1 1 [.int .u8 116] rfl rfl (by have h := new_cells w4 #[.int .u8 116] 5 [.int .u8 116] rfl; exact h) (by simp [Value.oneCell']) (by unfold maxLen; omega) (by omega) (by have := hX5.1.size; omega) ?_
            intro v6 w6 ho6 hg6 _ _
            have hX6 := hX5.grow 116 rfl ho6 hg6
            rw [← HE4.out, List.append_assoc] at hX6
            have HX6 := Lib.hid hX6
            clear ho6 hg6 hX5 hX6
            go_wp2
            exact ⟨⟨k + 1, rfl, by omega, by rw [HN.out, HX.out]; exact HX6.out⟩, by simp [intOf]; omega⟩
          · have hd : ((s[k].toNat : Int) == 9) = false := by rw [beq_eq_false_iff_ne]; omega
            have HX := Lib.hid hx
            clear hx
            go_wp2
            exact ⟨⟨4, rfl, rfl, rfl, by omega, HT2.out.alloc _, fun _ => H0.out (by omega), fun _ => H1.out (by omega), fun _ => H2.out (by omega), fun _ => HX.out⟩, by simp [intOf]⟩
        · have he : escE s[k] = [s[k]] := by unfold escE; rw [if_neg (H0.out (by omega)), if_neg (H1.out (by omega)), if_neg (H2.out (by omega)), if_neg (H3.out (by omega))]
          have HX := Lib.hid he
          clear he
          go_wp2_with (at_builtin; refine (fun h : True → _ => h trivial) ?_)
          have hX5 := HT2.out.alloc (.cells #[.int .u8 (s[k].toNat : Nat)] 5)
          intro _
          refine wpList_append_own_at _ rfl _ _ 97 rfl w.heap.size 5 j0 (.int .u8 0) 1 1 Tryz.underlying97 HI.out HZ0.out HZ1.out HZ2.out rfl (by decide) _ _ _ rfl hX5.2 ⟨wr.heap.size, 0, none⟩ 1 1 [.int .u8 (s[k].toNat : Nat)] rfl rfl (by have h := new_cells wr #[.int .u8 (s[k].toNat : Nat)] 5 [.int .u8 (s[k].toNat : Nat)] rfl; exact h) (by simp [Value.oneCell']) (by unfold maxLen; omega) (by omega) (by have := hX5.1.size; omega) ?_
          intro v6 w6 ho6 hg6 _ _
          have hX6 := hX5.grow s[k] rfl ho6 hg6
          have HX6 := Lib.hid hX6
          clear ho6 hg6 hX5 hX6
          go_wp2
          exact ⟨⟨k + 1, rfl, by omega, by rw [HN.out, HX.out]; exact HX6.out⟩, by simp [intOf]; omega⟩
    · have hki : ¬ (k : Int) < (s.size : Int) := by omega
      go_wp2_with (at_builtin; refine (fun h : True → _ => h trivial) ?_)
      have hX5 := HT.out.alloc (.cells #[.int .u8 34] 5)
      intro _
      refine wpList_append_own_at _ rfl _ _ 97 rfl w.heap.size 5 j0 (.int .u8 0) 1 1 Tryz.underlying97 HI.out HZ0.out HZ1.out HZ2.out rfl (by decide) _ _ _ rfl hX5.2 ⟨wr.heap.size, 0, none⟩ 1 1 [.int .u8 34] rfl rfl (by have h := new_cells wr #[.int .u8 34] 5 [.int .u8 34] rfl; exact h) (by simp [Value.oneCell']) (by unfold maxLen; omega) (by omega) (by have := hX5.1.size; omega) ?_
      intro v6 w6 ho6 hg6 _ _
      have hX6 := hX5.grow 34 rfl ho6 hg6
      have hcv := hX6.conv (by simp)
      have HX6 := Lib.hid hX6
      clear ho6 hg6 hX5 hX6
      go_wp2
      go_ret
      have hf : telL s.data.toList = D ++ [34] := by
        rw [← HD.out, List.take_of_length_le (by rw [len_list]; omega)]
        rfl
      exact ⟨by rw [hf]; rfl, HX6.out.1⟩
end Go.Proofs.YthcpmdgdbceeiaaGreatDoor
/- Tokens in memory; a token, as it is told. -/
namespace Go.Proofs.YthcpmdgdbceeiaaGreatDoor
open Go.RowKit
set_option linter.unusedSimpArgs false
set_option linter.unusedVariables false
abbrev Tab (w : World) : Prop := Lib.TabBelow Tryz.prog w.heap.size w "internal/strconv.uint64pow10" .u64 Lib.pow10Tab
theorem Tab.on {w w' : World} (h : Tab w) (hb : Below w.heap.size w w') : Tab w' := fun u hu => h u (hb.trans (hu.mono hb.size))
/-- The tables that the lexer looks at. -/
def LxW (w : World) : Prop := EscW w ∧ Tab w
theorem LxW.below {w w' : World} (h : LxW w) (hb : Below w.heap.size w w') : LxW w' := by
  exact ⟨h.1.below hb h.1.pos, h.2.on hb⟩
/-- A number that an int may be. -/
def Fits (t : Tk) : Prop := -9223372036854775808 ≤ t.n ∧ t.n ≤ 9223372036854775807
theorem itoaT_any (n : Int) (h0 : -9223372036854775808 ≤ n) (h : n ≤ 9223372036854775807) (w : World) (ht : Tab w) : Calls Tryz.prog 72 #[.int .i64 n] w fun e w' => e = .returned (.string (ofL (Lib.itoa n))) ∧ Below w.heap.size w w' :=
  (Tryz.strconv_Itoa n h0 h w (Lib.TabBelow.here ht)).mono fun e w' ⟨he, k, os, hw⟩ => ⟨he, by rw [hw]; exact Lib.below_grow _ w (Nat.le_refl _) k os⟩
theorem str_add (a b : ByteArray) : a ++ b = ofL (a.data.toList ++ b.data.toList) := by
  apply ByteArray.ext
  simp [ofL]
set_option maxHeartbeats 4000000 in
theorem tell_any (t : Tk) (a : Int) (hm : t.s.size ≤ 4194304) (hf : Fits t) (w : World) (hw : LxW w) :
    Calls Tryz.prog 64 #[t.v a] w fun e w' => e = .returned (.string (ofL (tellT t))) ∧ Below w.heap.size w w' := by
  obtain ⟨k, s, n⟩ := t
  have hm' : s.size ≤ 4194304 := hm
  have hf0 : -9223372036854775808 ≤ n := hf.1
  have hf1 : n ≤ 9223372036854775807 := hf.2
  have HW := Lib.hid hw
  clear hw hm hf
  unfold Tk.v
  show Calls Tryz.prog 64 #[.agg #[.int .i64 k, .string s, .int .i64 n, .int .i64 a]] w _
  by_cases h3 : k = 3
  · subst h3
    have he : tellT ⟨3, s, n⟩ = 39 :: s.data.toList := rfl
    have hs : (⟨#[39]⟩ : ByteArray) ++ s = ofL (39 :: s.data.toList) := str_add _ _
    rw [he]
    go_enter Tryz.func64, Tryz.ntmps64
    go_wp2
    go_ret
    exact ⟨rfl, below_alloc w _⟩
  by_cases h4 : k = 4
  · subst h4
    have he : tellT ⟨4, s, n⟩ = Lib.itoa n := rfl
    rw [he]
    have HI := Lib.hid (fun W hW => itoaT_any n hf0 hf1 W hW)
    go_enter Tryz.func64, Tryz.ntmps64
    go_wp2_with (go_at_call 72; refine (HI.out _ (HW.out.below (below_alloc w _)).2).mono ?_; rintro e w1 ⟨rfl, hb⟩)
    go_ret
    exact ⟨rfl, (below_alloc w _).trans (hb.mono (by simp))⟩
  by_cases h5 : k = 5
  · subst h5
    have he : tellT ⟨5, s, n⟩ = telL s.data.toList := rfl
    rw [he]
    have HI := Lib.hid (fun W hW => tellText_any s hm' W hW)
    go_enter Tryz.func64, Tryz.ntmps64
    go_wp2_with (go_at_call 73; refine (HI.out _ (HW.out.below (below_alloc w _)).1).mono ?_; rintro e w1 ⟨rfl, hb⟩)
    go_ret
    exact ⟨rfl, (below_alloc w _).trans (hb.mono (by simp))⟩
  have he : ofL (tellT ⟨k, s, n⟩) = s := by
    unfold tellT
    rw [if_neg h3, if_neg h4, if_neg h5]
  rw [he]
  clear he
  have d3 : (k == 3) = false := by rw [beq_eq_false_iff_ne]; exact h3
  have d4 : (k == 4) = false := by rw [beq_eq_false_iff_ne]; exact h4
  have d5 : (k == 5) = false := by rw [beq_eq_false_iff_ne]; exact h5
  go_enter Tryz.func64, Tryz.ntmps64
  go_wp2
  go_ret
  exact ⟨rfl, below_alloc w _⟩
/-- A token in memory. -/
def TkAt (w : World) (b o : Nat) (t : Tk) (a : Int) : Prop :=
  w.cell? ⟨b, o, none⟩ = some (.int .i64 t.k) ∧ w.cell? ⟨b, o + 1, none⟩ = some (.string t.s) ∧ w.cell? ⟨b, o + 2, none⟩ = some (.int .i64 t.n) ∧ w.cell? ⟨b, o + 3, none⟩ = some (.int .i64 a)
theorem TkAt.below {w w' : World} {b o : Nat} {t : Tk} {a : Int} (h : TkAt w b o t a) (hb : Below w.heap.size w w') : TkAt w' b o t a := by
  have hlt : b < w.heap.size := block_lt_of_cell h.1
  have hk : ∀ j, w'.cell? ⟨b, j, none⟩ = w.cell? ⟨b, j, none⟩ := fun j => hb.cell (p := ⟨b, j, none⟩) hlt
  exact ⟨by rw [hk, h.1], by rw [hk, h.2.1], by rw [hk, h.2.2.1], by rw [hk, h.2.2.2]⟩
/-- A slice of tokens, each with its place. -/
def TksAt (w : World) (v : Value) (l : List (Tk × Int)) : Prop := ∃ q c, v = .slice q l.length c ∧ ∀ i x, l[i]? = some x → ∃ b o, q = some ⟨b, o, none⟩ ∧ TkAt w b (o + i * 4) x.1 x.2
theorem TksAt.below {w w' : World} {v : Value} {l : List (Tk × Int)} (h : TksAt w v l) (hb : Below w.heap.size w w') : TksAt w' v l := by
  obtain ⟨q, c, h1, h2⟩ := h
  refine ⟨q, c, h1, fun i x hx => ?_⟩
  obtain ⟨b, o, e, ha⟩ := h2 i x hx
  exact ⟨b, o, e, ha.below hb⟩
/-- Two lists of tokens, the same but for their places. -/
def Agr (k : Nat) (l m : List (Tk × Int)) : Prop := ∀ (j : Nat) x y, j < k → l[j]? = some x → m[j]? = some y → x.1 = y.1
theorem agr_next {k : Nat} {l m : List (Tk × Int)} {x y : Tk × Int} (h : Agr k l m) (hx : l[k]? = some x) (hy : m[k]? = some y) (he : x.1 = y.1) : Agr (k + 1) l m := by
  intro j u v hj hu hv
  by_cases e : j = k
  · subst e
    rw [hx] at hu
    rw [hy] at hv
    cases hu
    cases hv
    exact he
  · exact h j u v (by omega) hu hv
theorem agr_not {k : Nat} {l m : List (Tk × Int)} {x y : Tk × Int} (hx : l[k]? = some x) (hy : m[k]? = some y) (he : x.1 ≠ y.1) : l.map Prod.fst ≠ m.map Prod.fst := by
  intro e
  have h := congrArg (fun l => l[k]?) e
  simp only [List.getElem?_map, hx, hy, Option.map_some, Option.some.injEq] at h
  exact he h
noncomputable def sameB (l m : List (Tk × Int)) : Bool := @decide (l.map Prod.fst = m.map Prod.fst) (Classical.propDecidable _)
theorem sameB_yes {l m : List (Tk × Int)} (h : l.map Prod.fst = m.map Prod.fst) : sameB l m = true := @decide_eq_true _ (Classical.propDecidable _) h
theorem sameB_no {l m : List (Tk × Int)} (h : l.map Prod.fst ≠ m.map Prod.fst) : sameB l m = false := @decide_eq_false _ (Classical.propDecidable _) h
theorem agr_all {l m : List (Tk × Int)} (hl : l.length = m.length) (h : Agr l.length l m) : l.map Prod.fst = m.map Prod.fst := by
  apply List.ext_getElem?
  intro j
  rw [List.getElem?_map, List.getElem?_map]
  rcases Nat.lt_or_ge j l.length with hj | hj
  · have h1 := List.getElem?_eq_getElem hj
    have h2 := List.getElem?_eq_getElem (l := m) (by omega : j < m.length)
    rw [h1, h2]
    exact congrArg some (h j _ _ hj h1 h2)
  · rw [List.getElem?_eq_none hj, List.getElem?_eq_none (by omega)]
end Go.Proofs.YthcpmdgdbceeiaaGreatDoor
/- Which tokens may be; tokens, as they are told. -/
namespace Go.Proofs.YthcpmdgdbceeiaaGreatDoor
open Go.RowKit
set_option linter.unusedSimpArgs false
set_option linter.unusedVariables false
theorem tol_eq (a b : ByteArray) : a.toList = b.toList ↔ a = b := ⟨toList_injX, fun h => by rw [h]⟩
theorem eqT_yes (k n : Int) (s : ByteArray) (w : World) : (binOp .eql 67 (.agg #[.int .i64 k, .string s, .int .i64 n, .int .i64 0]) (.agg #[.int .i64 k, .string s, .int .i64 n, .int .i64 0])).run Tryz.prog w = .ok (.bool true) w := by
  go_simp
theorem eqT_no (k n k' n' : Int) (s s' : ByteArray) (h : (⟨k, s, n⟩ : Tk) ≠ ⟨k', s', n'⟩) (w : World) : (binOp .eql 67 (.agg #[.int .i64 k, .string s, .int .i64 n, .int .i64 0]) (.agg #[.int .i64 k', .string s', .int .i64 n', .int .i64 0])).run Tryz.prog w = .ok (.bool false) w := by
  by_cases h1 : k = k'
  · subst h1
    by_cases h2 : s = s'
    · subst h2
      have h3 : n ≠ n' := fun e => h (by rw [e])
      go_simp
      try simp [h3]
    · have h2' : ¬ s.toList = s'.toList := fun e => h2 (toList_injX e)
      go_simp
      try simp [h2']
  · go_simp
    try simp [h1]
noncomputable def rightB (t : Tk) : Bool := @decide (RightT t) (Classical.propDecidable _)
theorem rightB_yes {t : Tk} (h : RightT t) : rightB t = true := @decide_eq_true _ (Classical.propDecidable _) h
theorem rightB_no {t : Tk} (h : ¬ RightT t) : rightB t = false := @decide_eq_false _ (Classical.propDecidable _) h
theorem rightB_of {t : Tk} (h : rightB t = true) : RightT t := @of_decide_eq_true _ (Classical.propDecidable _) h
set_option maxHeartbeats 4000000 in
set_option maxRecDepth 100000 in
theorem right_any (t : Tk) (a : Int) (hm : t.s.size ≤ 1000000) (hf : Fits t) (w : World) (hw : LxW w) :
    Calls Tryz.prog 58 #[t.v a] w fun e w' => e = .returned (.bool (rightB t)) ∧ Below w.heap.size w w' := by
  have hlen := tellT_len t hf.1 hf.2
  have HT := Lib.hid (fun W hW => tell_any t a (by omega) hf W hW)
  obtain ⟨L, hL⟩ : ∃ L, tellT t = L := ⟨_, rfl⟩
  rw [hL] at hlen HT
  obtain ⟨D, hD⟩ : ∃ D, ofL L = D := ⟨_, rfl⟩
  have hDs : D.size = L.length := by rw [← hD, ofL_size]
  rw [hD] at HT
  have HF := Lib.hid (fun W hW => first_any D (by omega) W hW)
  have hR : RightT t ↔ (0 < D.size ∧ firstT D = (t, D.size)) := by
    unfold RightT
    rw [hL, hD, hDs]
  have HW := Lib.hid hw
  rw [← hDs] at hlen
  clear hw hf hL hD hDs
  obtain ⟨T, hT⟩ : ∃ T, firstT D = T := ⟨_, rfl⟩
  rw [hT] at hR HF
  obtain ⟨⟨uk, us, un⟩, m⟩ := T
  obtain ⟨k, s, n⟩ := t
  have HT2 : RowKit.Hid (∀ W, LxW W → Calls Tryz.prog 64 #[.agg #[.int .i64 k, .string s, .int .i64 n, .int .i64 a]] W fun e w' => e = .returned (.string D) ∧ Below W.heap.size W w') := HT
  have HF2 : RowKit.Hid (∀ W, EscW W → Calls Tryz.prog 65 #[.string D] W fun e w' => e = .returned (.tuple #[.agg #[.int .i64 uk, .string us, .int .i64 un, .int .i64 0], .int .i64 (m : Nat)]) ∧ Below W.heap.size W w') := HF
  clear HT HF hT
  show Calls Tryz.prog 58 #[.agg #[.int .i64 k, .string s, .int .i64 n, .int .i64 a]] w _
  have hR' : RightT ⟨k, s, n⟩ ↔ (0 < m ∧ m = D.size ∧ (⟨uk, us, un⟩ : Tk) = ⟨k, s, n⟩) := by
    rw [hR]
    constructor
    · rintro ⟨h1, h2⟩
      rw [Prod.mk.injEq] at h2
      exact ⟨by omega, h2.2, h2.1⟩
    · rintro ⟨h1, h2, h3⟩
      exact ⟨by omega, by rw [h3, h2]⟩
  clear hR
  by_cases h0 : 0 < m
  rotate_left
  · have d0 : decide ((0 : Int) < (m : Int)) = false := by simp; omega
    have HB := Lib.hid (rightB_no (fun h => h0 (hR'.1 h).1))
    clear hR' d0
    obtain rfl : m = 0 := by omega
    go_enter Tryz.func58, Tryz.ntmps58
    go_wp2_with (first
      | (go_at_call 64; refine (HT2.out _ (HW.out.below (below_alloc w _))).mono ?_; rintro e w1 ⟨rfl, hb1⟩; have HB1 := Lib.hid hb1; have z1 := hb1.size; rw [World.size_alloc] at z1; clear hb1)
      | (go_at_call 65; refine (HF2.out _ ((HW.out.below (below_alloc w _)).below HB1.out).1).mono ?_; rintro e w2 ⟨rfl, hb2⟩; have HB2 := Lib.hid hb2; have z2 := hb2.size; have y2 : w.heap.size < w2.heap.size := (by omega); have k2 := hb_below (hb_below (hb_new w (.cells #[.int .i64 k, .string s, .int .i64 n, .int .i64 a] 67)) HB1.out (by simp)) hb2 (by omega); have r0 := hb_at k2 0 rfl; have r1 := hb_at k2 1 rfl; have r2 := hb_at k2 2 rfl; have r3 := hb_at k2 3 rfl; have f0 := hb_free k2 0; have f1 := hb_free k2 1; have f2 := hb_free k2 2; have f3 := hb_free k2 3; clear hb2 k2))
    all_goals
      have hB2 : Below w.heap.size w w2 := ((below_alloc w _).trans (HB1.out.mono (by simp))).trans (HB2.out.mono (by omega))
      have hB3 := hB2.setCell (p := ⟨w.heap.size, 3, none⟩) (Nat.le_refl _) (.int .i64 0)
      have hB4 := hB3.alloc hB3.size (.cells #[.int .i64 uk, .string us, .int .i64 un, .int .i64 0] 67)
      go_ret
      exact ⟨ret_bool HB.out.symm, hB4⟩
  by_cases h1 : m = D.size
  rotate_left
  · have d1 : ((m : Int) == (D.size : Int)) = false := by rw [beq_eq_false_iff_ne]; omega
    have HB := Lib.hid (rightB_no (fun h => h1 (hR'.1 h).2.1))
    clear hR' h1
    go_enter Tryz.func58, Tryz.ntmps58
    go_wp2_with (first
      | (go_at_call 64; refine (HT2.out _ (HW.out.below (below_alloc w _))).mono ?_; rintro e w1 ⟨rfl, hb1⟩; have HB1 := Lib.hid hb1; have z1 := hb1.size; rw [World.size_alloc] at z1; clear hb1)
      | (go_at_call 65; refine (HF2.out _ ((HW.out.below (below_alloc w _)).below HB1.out).1).mono ?_; rintro e w2 ⟨rfl, hb2⟩; have HB2 := Lib.hid hb2; have z2 := hb2.size; have y2 : w.heap.size < w2.heap.size := (by omega); have k2 := hb_below (hb_below (hb_new w (.cells #[.int .i64 k, .string s, .int .i64 n, .int .i64 a] 67)) HB1.out (by simp)) hb2 (by omega); have r0 := hb_at k2 0 rfl; have r1 := hb_at k2 1 rfl; have r2 := hb_at k2 2 rfl; have r3 := hb_at k2 3 rfl; have f0 := hb_free k2 0; have f1 := hb_free k2 1; have f2 := hb_free k2 2; have f3 := hb_free k2 3; clear hb2 k2))
    all_goals
      have hB2 : Below w.heap.size w w2 := ((below_alloc w _).trans (HB1.out.mono (by simp))).trans (HB2.out.mono (by omega))
      have hB3 := hB2.setCell (p := ⟨w.heap.size, 3, none⟩) (Nat.le_refl _) (.int .i64 0)
      have hB4 := hB3.alloc hB3.size (.cells #[.int .i64 uk, .string us, .int .i64 un, .int .i64 0] 67)
      go_ret
      exact ⟨ret_bool HB.out.symm, hB4⟩
  have d1 : ((m : Int) == (D.size : Int)) = true := by rw [beq_iff_eq]; omega
  by_cases h2 : (⟨uk, us, un⟩ : Tk) = ⟨k, s, n⟩
  · have HB := Lib.hid (rightB_yes (hR'.2 ⟨h0, h1, h2⟩))
    cases h2
    clear hR'
    go_enter Tryz.func58, Tryz.ntmps58
    go_wp2_with (first
      | (go_at_call 64; refine (HT2.out _ (HW.out.below (below_alloc w _))).mono ?_; rintro e w1 ⟨rfl, hb1⟩; have HB1 := Lib.hid hb1; have z1 := hb1.size; rw [World.size_alloc] at z1; clear hb1)
      | (go_at_call 65; refine (HF2.out _ ((HW.out.below (below_alloc w _)).below HB1.out).1).mono ?_; rintro e w2 ⟨rfl, hb2⟩; have HB2 := Lib.hid hb2; have z2 := hb2.size; have y2 : w.heap.size < w2.heap.size := (by omega); have k2 := hb_below (hb_below (hb_new w (.cells #[.int .i64 uk, .string us, .int .i64 un, .int .i64 a] 67)) HB1.out (by simp)) hb2 (by omega); have r0 := hb_at k2 0 rfl; have r1 := hb_at k2 1 rfl; have r2 := hb_at k2 2 rfl; have r3 := hb_at k2 3 rfl; have f0 := hb_free k2 0; have f1 := hb_free k2 1; have f2 := hb_free k2 2; have f3 := hb_free k2 3; clear hb2 k2))
    all_goals
      have hB2 : Below w.heap.size w w2 := ((below_alloc w _).trans (HB1.out.mono (by simp))).trans (HB2.out.mono (by omega))
      have hB3 := hB2.setCell (p := ⟨w.heap.size, 3, none⟩) (Nat.le_refl _) (.int .i64 0)
      have hB4 := hB3.alloc hB3.size (.cells #[.int .i64 uk, .string us, .int .i64 un, .int .i64 0] 67)
      go_ret
      exact ⟨ret_bool HB.out.symm, hB4⟩
  · have HB := Lib.hid (rightB_no (fun h => h2 (hR'.1 h).2.2))
    clear hR'
    by_cases e1 : uk = k
    rotate_left
    · clear h2
      go_enter Tryz.func58, Tryz.ntmps58
      go_wp2_with (first
        | (go_at_call 64; refine (HT2.out _ (HW.out.below (below_alloc w _))).mono ?_; rintro e w1 ⟨rfl, hb1⟩; have HB1 := Lib.hid hb1; have z1 := hb1.size; rw [World.size_alloc] at z1; clear hb1)
        | (go_at_call 65; refine (HF2.out _ ((HW.out.below (below_alloc w _)).below HB1.out).1).mono ?_; rintro e w2 ⟨rfl, hb2⟩; have HB2 := Lib.hid hb2; have z2 := hb2.size; have y2 : w.heap.size < w2.heap.size := (by omega); have k2 := hb_below (hb_below (hb_new w (.cells #[.int .i64 k, .string s, .int .i64 n, .int .i64 a] 67)) HB1.out (by simp)) hb2 (by omega); have r0 := hb_at k2 0 rfl; have r1 := hb_at k2 1 rfl; have r2 := hb_at k2 2 rfl; have r3 := hb_at k2 3 rfl; have f0 := hb_free k2 0; have f1 := hb_free k2 1; have f2 := hb_free k2 2; have f3 := hb_free k2 3; clear hb2 k2))
      all_goals
        have hB2 : Below w.heap.size w w2 := ((below_alloc w _).trans (HB1.out.mono (by simp))).trans (HB2.out.mono (by omega))
        have hB3 := hB2.setCell (p := ⟨w.heap.size, 3, none⟩) (Nat.le_refl _) (.int .i64 0)
        have hB4 := hB3.alloc hB3.size (.cells #[.int .i64 uk, .string us, .int .i64 un, .int .i64 0] 67)
        go_ret
        exact ⟨ret_bool HB.out.symm, hB4⟩
    subst e1
    by_cases e2 : us = s
    rotate_left
    · have e2' : ¬ us.toList = s.toList := fun e => e2 (toList_injX e)
      clear h2 e2
      go_enter Tryz.func58, Tryz.ntmps58
      go_wp2_with (first
        | (go_at_call 64; refine (HT2.out _ (HW.out.below (below_alloc w _))).mono ?_; rintro e w1 ⟨rfl, hb1⟩; have HB1 := Lib.hid hb1; have z1 := hb1.size; rw [World.size_alloc] at z1; clear hb1)
        | (go_at_call 65; refine (HF2.out _ ((HW.out.below (below_alloc w _)).below HB1.out).1).mono ?_; rintro e w2 ⟨rfl, hb2⟩; have HB2 := Lib.hid hb2; have z2 := hb2.size; have y2 : w.heap.size < w2.heap.size := (by omega); have k2 := hb_below (hb_below (hb_new w (.cells #[.int .i64 uk, .string s, .int .i64 n, .int .i64 a] 67)) HB1.out (by simp)) hb2 (by omega); have r0 := hb_at k2 0 rfl; have r1 := hb_at k2 1 rfl; have r2 := hb_at k2 2 rfl; have r3 := hb_at k2 3 rfl; have f0 := hb_free k2 0; have f1 := hb_free k2 1; have f2 := hb_free k2 2; have f3 := hb_free k2 3; clear hb2 k2))
      all_goals
        have hB2 : Below w.heap.size w w2 := ((below_alloc w _).trans (HB1.out.mono (by simp))).trans (HB2.out.mono (by omega))
        have hB3 := hB2.setCell (p := ⟨w.heap.size, 3, none⟩) (Nat.le_refl _) (.int .i64 0)
        have hB4 := hB3.alloc hB3.size (.cells #[.int .i64 uk, .string us, .int .i64 un, .int .i64 0] 67)
        go_ret
        exact ⟨ret_bool HB.out.symm, hB4⟩
    subst e2
    have e3 : ¬ un = n := fun e => h2 (by rw [e])
    clear h2
    go_enter Tryz.func58, Tryz.ntmps58
    go_wp2_with (first
      | (go_at_call 64; refine (HT2.out _ (HW.out.below (below_alloc w _))).mono ?_; rintro e w1 ⟨rfl, hb1⟩; have HB1 := Lib.hid hb1; have z1 := hb1.size; rw [World.size_alloc] at z1; clear hb1)
      | (go_at_call 65; refine (HF2.out _ ((HW.out.below (below_alloc w _)).below HB1.out).1).mono ?_; rintro e w2 ⟨rfl, hb2⟩; have HB2 := Lib.hid hb2; have z2 := hb2.size; have y2 : w.heap.size < w2.heap.size := (by omega); have k2 := hb_below (hb_below (hb_new w (.cells #[.int .i64 uk, .string us, .int .i64 n, .int .i64 a] 67)) HB1.out (by simp)) hb2 (by omega); have r0 := hb_at k2 0 rfl; have r1 := hb_at k2 1 rfl; have r2 := hb_at k2 2 rfl; have r3 := hb_at k2 3 rfl; have f0 := hb_free k2 0; have f1 := hb_free k2 1; have f2 := hb_free k2 2; have f3 := hb_free k2 3; clear hb2 k2))
    all_goals
      have hB2 : Below w.heap.size w w2 := ((below_alloc w _).trans (HB1.out.mono (by simp))).trans (HB2.out.mono (by omega))
      have hB3 := hB2.setCell (p := ⟨w.heap.size, 3, none⟩) (Nat.le_refl _) (.int .i64 0)
      have hB4 := hB3.alloc hB3.size (.cells #[.int .i64 uk, .string us, .int .i64 un, .int .i64 0] 67)
      go_ret
      exact ⟨ret_bool HB.out.symm, hB4⟩
end Go.Proofs.YthcpmdgdbceeiaaGreatDoor
