/- Texts in a row: Mc Lp T1 Pa. -/
import Derived.Test.YtmkjalnlldpdcaaGreatDoorZT8
import Derived.Test.YtmkjalnlldpdcaaGreatDoorZT1
import Derived.Deep.Slices
import Derived.Deep.Fields
import Derived.ChangeSame
import Derived.Test.YtmkjalnlldpdcaaGreatDoorZT4
set_option maxHeartbeats 16000000
set_option maxRecDepth 100000
namespace Go.Proofs.YtmkjalnlldpdcaaGreatDoor
open Go.RowKit
set_option linter.unusedSimpArgs false
set_option linter.unusedVariables false
theorem first_le {l : List UInt8} {t : Tk} {n : Nat} (h : firstT (ofL l) = (t, n)) : n ≤ l.length := by
 have := firstT_le (ofL l)
 rw [h, ofL_size] at this
 exact this
inductive Lexed : List UInt8 → Nat → List (Tk × Nat) → Prop
 | nil (i : Nat) : Lexed [] i []
 | cons (l : List UInt8) (i n m : Nat) (t : Tk) (r : List (Tk × Nat)) (h : firstT (ofL l) = (t, n)) (h0 : 0 < n) (hm : skM (l.drop n) = m) (hr : Lexed (l.drop (n + m)) (i + n + m) r) : Lexed l i ((t, i) :: r)
theorem lxM_ok (s : ByteArray) : ∀ (k i : Nat) (acc : List (Tk × Nat)), s.size - i = k → i ≤ s.size → acc.length ≤ 6000 → (lxM s i acc).2.2 = 0 →
 ∃ r, (lxM s i acc).1 = acc ++ r ∧ Lexed (s.data.toList.drop i) i r ∧ acc.length + r.length ≤ 6000 ∧ (lxM s i acc).2.1 = 0 := by
 intro k
 induction k using Nat.strongRecOn with
 | ind k ih =>
  intro i acc hk hi hacc h
  rw [lxM_step] at h ⊢
  by_cases h1 : s.size ≤ i
  · rw [if_pos h1] at h ⊢
    refine ⟨[], by simp, ?_, by simpa using hacc, rfl⟩
    rw [List.drop_eq_nil_of_le Q65]
    exact .nil _
  · rw [if_neg h1] at h ⊢
    by_cases h2 : (firstT (s.extract i s.size)).2 = 0
    · rw [if_pos h2] at h; cases h
    · rw [if_neg h2] at h ⊢
      by_cases h3 : acc.length = 6000
      · rw [if_pos h3] at h; cases h
      · rw [if_neg h3] at h ⊢
        have hle := firstT_le (s.extract i s.size)
        rw [sfx_size] at hle
        rw [ofL_drop] at h h2 hle ⊢
        cases hf : firstT (ofL (s.data.toList.drop i)) with
        | mk t n =>
         rw [hf] at h h2 hle
         simp only [] at h h2 hle ⊢
         have hsk := skM_le _ (s.data.toList.drop (i + n)) rfl
         rw [List.length_drop, len_list] at hsk
         obtain ⟨r, e1, e2, e3, e4⟩ := ih (s.size - (i + n + skM (s.data.toList.drop (i + n)))) (by omega) (i + n + skM (s.data.toList.drop (i + n))) (acc ++ [(t, i)]) rfl (by omega) Q69 h
         refine ⟨(t, i) :: r, ?_, ?_, ?_, e4⟩
         · rw [e1]; simp
         · refine .cons _ i n (skM (s.data.toList.drop (i + n))) t r hf (by omega) (by rw [List.drop_drop]) ?_
           rw [List.drop_drop, ← Nat.add_assoc]
           exact e2
         · simp at e3 ⊢; omega
theorem lexM_lexed {s : ByteArray} (h : (lexM s).2.2 = 0) : s.size ≤ 20000 ∧ Lexed (s.data.toList.drop (skM s.data.toList)) (skM s.data.toList) (lexM s).1 ∧ (lexM s).1.length ≤ 6000 ∧ (lexM s).2.1 = 0 := by
 unfold lexM at h ⊢
 by_cases hb : 20000 < s.size
 · rw [if_pos hb] at h; cases h
 · rw [if_neg hb] at h ⊢
   have hsk := skM_le _ s.data.toList rfl
   rw [len_list] at hsk
   obtain ⟨r, e1, e2, e3, e4⟩ := lxM_ok s _ (skM s.data.toList) [] rfl hsk (by simp) h
   rw [List.nil_append] at e1
   rw [e1]
   exact ⟨by omega, e2, by simpa using e3, e4⟩
theorem Lexed.head {l : List UInt8} {i : Nat} {r : List (Tk × Nat)} (h : Lexed l i r) : (r[0]? = none → l = []) ∧ (∀ u b, r[0]? = some (u, b) → b = i) := by
 cases h with
 | nil =>
  refine ⟨fun _ => rfl, ?_⟩
  intro u b h
  cases h
 | cons n m t r h h0 hm hr =>
  refine ⟨?_, ?_⟩
  · intro h
    cases h
  · intro u b h
    cases h
    rfl
theorem Lexed.place {l : List UInt8} {i : Nat} {r : List (Tk × Nat)} (h : Lexed l i r) : ∀ (j : Nat) (t : Tk) (a : Nat), r[j]? = some (t, a) →
 ∃ n m, i ≤ a ∧ firstT (ofL (l.drop (a - i))) = (t, n) ∧ 0 < n ∧ skM (l.drop (a - i + n)) = m ∧ (a - i) + n + m ≤ l.length ∧ (∀ u b, r[j + 1]? = some (u, b) → b = a + n + m) ∧ (r[j + 1]? = none → (a - i) + n + m = l.length) := by
 induction h with
 | nil i => intro j t a h; cases h
 | cons l i n m t r h h0 hm hr ih =>
  have hle := first_le h
  have hsk := skM_le _ (l.drop n) rfl
  rw [hm, List.length_drop] at hsk
  intro j u a hj
  cases j with
  | zero =>
   cases hj
   refine ⟨n, m, Nat.le_refl _, ?_, h0, ?_, by omega, fun v b hv => (Lexed.head hr).2 v b hv, fun hn => ?_⟩
   · rw [Nat.sub_self, List.drop_zero]; exact h
   · rw [Nat.sub_self, Nat.zero_add]; exact hm
   · have := congrArg List.length ((Lexed.head hr).1 hn)
     rw [List.length_drop, List.length_nil] at this
     omega
  | succ j =>
   obtain ⟨n', m', e1, e2, e3, e4, e5, e6, e7⟩ := ih j u a hj
   rw [List.drop_drop] at e2 e4
   rw [List.length_drop] at e5 e7
   have ha : n + m + (a - (i + n + m)) = a - i := by omega
   have ha' : n + m + (a - (i + n + m) + n') = a - i + n' := by omega
   rw [ha] at e2
   rw [ha'] at e4
   refine ⟨n', m', by omega, e2, e3, e4, by omega, e6, fun hn => ?_⟩
   have := e7 hn
   omega
def RightT (t : Tk) : Prop := 0 < (tellT t).length ∧ firstT (ofL (tellT t)) = (t, (tellT t).length)
theorem read_right {l : List UInt8} {t : Tk} {n : Nat} (h : firstT (ofL l) = (t, n)) (h0 : 0 < n) : RightT t := by
 have hle := first_le h
 have ht := told_any h h0
 have hlen : (tellT t).length = n := by rw [ht, List.length_take]; omega
 refine ⟨by omega, ?_⟩
 rw [hlen, ht]
 exact firstT_pre h h0 (Nat.le_refl _)
theorem Lexed.right {l : List UInt8} {i : Nat} {r : List (Tk × Nat)} (h : Lexed l i r) : ∀ x ∈ r, RightT x.1 := by
 induction h with
 | nil i => intro x hx; cases hx
 | cons l i n m t r h h0 hm hr ih =>
  intro x hx
  cases hx with
  | head => exact read_right h h0
  | tail _ hx => exact ih x hx
def joinT : List Tk → List UInt8
 | [] => []
 | [t] => tellT t
 | t :: u :: r => tellT t ++ 32 :: joinT (u :: r)
theorem joinT_cons (t : Tk) (r : List Tk) : joinT (t :: r) = tellT t ++ (if r = [] then [] else 32 :: joinT r) := by
 cases r with
 | nil => simp [joinT]
 | cons u r => simp [joinT]
theorem escE_len (c : UInt8) : (escE c).length ≤ 2 := by
 unfold escE
 repeat' split
 all_goals simp
theorem telL_len (l : List UInt8) : (telL l).length ≤ 2 * l.length + 2 := by
 unfold telL
 rw [List.length_cons, List.length_append]
 have : (l.flatMap escE).length ≤ 2 * l.length := by
  induction l with
  | nil => simp
  | cons c l ih =>
   have := escE_len c
   rw [List.flatMap_cons, List.length_append, List.length_cons]
   omega
 rw [List.length_cons, List.length_nil]
 omega
theorem tellT_len (t : Tk) (h0 : -9223372036854775808 ≤ t.n) (h1 : t.n ≤ 9223372036854775807) : (tellT t).length ≤ 2 * t.s.size + 22 := by
 unfold tellT
 have hs := len_list t.s
 split
 · rw [List.length_cons, hs]; omega
 · split
   · have := Lib.itoa_length_le t.n h0 h1
     omega
   · split
     · have := telL_len t.s.data.toList
       rw [hs] at this
       omega
     · rw [hs]; omega
def TxB (w : World) (v : Value) (l : List UInt8) (wr : World) : Prop := Below w.heap.size w wr ∧ wr.ownsRow w.heap.size 5 1 v l.length (Lib.byteCells l)
theorem TxB.alloc {w wr : World} {v : Value} {l : List UInt8} (h : TxB w v l wr) (o : Obj) : TxB w v l (wr.alloc o) := ⟨h.1.alloc h.1.size _, h.2.alloc _⟩
theorem TxB.drew {w wr : World} {v : Value} {l : List UInt8} (h : TxB w v l wr) : TxB w v l wr.drew := ⟨h.1.drew, h.2⟩
theorem byteCells_snoc (l : List UInt8) (c : UInt8) : Lib.byteCells (l ++ [c]) = Lib.byteCells l ++ [.int .u8 (c.toNat : Nat)] := by simp [Lib.byteCells]
theorem TxB.grow {w wr w2 : World} {v v' : Value} {l : List UInt8} {z : Int} (h : TxB w v l wr) (c : UInt8) (hz : z = (c.toNat : Nat)) (ho : w2.ownsRow w.heap.size 5 1 v' (l.length + 1) (Lib.byteCells l ++ [.int .u8 z])) (hg : wr.grownBy w2 v.ownBlock) : TxB w v' (l ++ [c]) w2 := by
 subst hz
 refine ⟨h.1.grown hg h.1.size fun k hk => (h.2.lt k hk).1, ?_⟩
 rw [byteCells_snoc]
 simpa using ho
theorem TxB.shape {w wr : World} {v : Value} {l : List UInt8} (h : TxB w v l wr) : ∃ ao cap, v = .slice ao l.length cap := by
 rcases h.2.2 with ⟨hv, h0⟩ | ⟨g, cap, cur, hv, _⟩
 · exact ⟨none, 0, by rw [hv, h0]⟩
 · exact ⟨_, _, hv⟩
theorem TxB.conv {w wr : World} {v : Value} {l : List UInt8} (h : TxB w v l wr) (hl : l ≠ []) : (convert 72 9 v).run Tryz.prog wr = .ok (.string (ofL l)) wr := by
 rcases h.2.2 with ⟨hv, h0⟩ | ⟨g, cap, cur, hv, hb, hg, r⟩
 · exact absurd (List.eq_nil_of_length_eq_zero h0) hl
 · subst hv
   refine run_convert_bytes_back wr 72 9 5 ⟨g, 0, none⟩ cap l Tryz.underlying72 Tryz.underlying5 Tryz.underlying9 ?_
   intro j hj
   have hc := h.2.cells (g := g) rfl j (.int .u8 (l[j].toNat : Nat)) (by simp [Lib.byteCells, hj])
   exact hc
theorem TxB.esc {w wr : World} {v : Value} {l : List UInt8} (h : TxB w v l wr) (hw : EscW w) : EscW wr := by
 exact hw.below h.1 hw.pos
theorem tellText_any (s : ByteArray) (hm : s.size ≤ 4194304) (w : World) (hw : EscW w) :
 Calls Tryz.prog 233 #[.string s] w fun e w' => e = .returned (.string (ofL (telL s.data.toList))) ∧ Below w.heap.size w w' := by
 have HE := Hd hw
 have i0 := fun W => esc_i0 W
 have i1 := fun W => esc_i1 W
 have i2 := fun W => esc_i2 W
 have i3 := fun W => esc_i3 W
 clear hw
 obtain ⟨j0, hi, hz0, hz1, hz2⟩ := info_parts Tryz.Builder_Extra_169.infoByte
 have HI := Hd hi
 have HZ0 := Hd hz0
 have HZ1 := Hd hz1
 have HZ2 := Hd hz2
 clear hi hz0 hz1 hz2
 go_enter Tryz.func233, Tryz.ntmps233
 go_wp2
 go_loopw [3, 11] (fun v i wr => ∃ k : Nat, i = .int .i64 k ∧ k ≤ s.size ∧ TxB w v (34 :: (s.data.toList.take k).flatMap escE) wr) (fun _ i _ => s.size - (intOf i).toNat)
 case atStart =>
  refine ⟨0, rfl, Nat.zero_le _, below_alloc w _, ?_⟩
  exact World.ownsRow_lit w #[.int .u8 34] 1 (Nat.le_refl _) Q66 rfl
 case round =>
  obtain ⟨k, rfl, hk, hT⟩ := hrel
  have HT := Hd hT
  obtain ⟨ao, cap, rfl⟩ := hT.shape
  clear hT
  have hwz := HT.out.1.size
  generalize hD : (34 :: (s.data.toList.take k).flatMap escE) = D at *
  have hDl : D.length ≤ 9000000 := by
   rw [← hD, List.length_cons]
   have : ((s.data.toList.take k).flatMap escE).length ≤ 2 * (s.data.toList.take k).length := by
    have := telL_len (s.data.toList.take k)
    unfold telL at this
    rw [List.length_cons, List.length_append, List.length_cons, List.length_nil] at this
    omega
   rw [List.length_take, len_list] at this
   omega
  have HD := Hd hD
  clear hD
  by_cases hlt : k < s.size
  · have hki : (k : Int) < (s.size : Int) := by omega
    have hN : s.data.toList.take (k + 1) = s.data.toList.take k ++ [s[k]] := take_one (at_list s k hlt)
    have HN : RowKit.Hid (34 :: (s.data.toList.take (k + 1)).flatMap escE = D ++ escE s[k]) := Hd (by rw [hN, ← HD.out, List.flatMap_append]; simp)
    clear hN
    have hE := HT.out.esc HE.out
    obtain ⟨tt, hE⟩ := hE
    have c0 := hb_at hE 0 rfl
    have c1 := hb_at hE 1 rfl
    have c2 := hb_at hE 2 rfl
    have c3 := hb_at hE 3 rfl
    have c4 := hb_at hE 4 rfl
    have c5 := hb_at hE 5 rfl
    have c6 := hb_at hE 6 rfl
    have c7 := hb_at hE 7 rfl
    clear hE
    go_wp2
    clear c0 c1 c2 c3 c4 c5 c6 c7
    generalize hwq : wr = wq at *
    clear hwq
    go_loopw [3, 5, 18] (fun v c i wr => ∃ q : Nat, i = .int .i64 q ∧ v = .slice ao D.length cap ∧ c = .int .u8 (s[k].toNat : Nat) ∧ q ≤ 4 ∧ TxB w (.slice ao D.length cap) D wr ∧ (1 ≤ q → s[k].toNat ≠ 92) ∧ (2 ≤ q → s[k].toNat ≠ 34) ∧ (3 ≤ q → s[k].toNat ≠ 10) ∧ (4 ≤ q → s[k].toNat ≠ 9)) (fun _ _ i _ => 4 - (intOf i).toNat)
    case atStart => exact ⟨0, rfl, rfl, rfl, by omega, HT.out, by omega, by omega, by omega, by omega⟩
    case round =>
     obtain ⟨q, rfl, rfl, rfl, hq, hT2, n0, n1, n2, n3⟩ := hrel
     have HT2 := Hd hT2
     have hws := hT2.1.size
     have H0 := Hd n0
     have H1 := Hd n1
     have H2 := Hd n2
     have H3 := Hd n3
     clear hT2 n0 n1 n2 n3
     have hc : q = 0 ∨ q = 1 ∨ q = 2 ∨ q = 3 ∨ q = 4 := by omega
     rcases hc with rfl | rfl | rfl | rfl | rfl
     · by_cases hx : s[k].toNat = 92
       · have hd : ((s[k].toNat : Int) == 92) = true := by rw [hx]; rfl
         have he : escE s[k] = [92, 92] := by unfold escE; rw [if_pos hx]
         have HX := Hd he
         clear he hx
         go_wp2_with (at_builtin; refine (fun h : True → _ => h trivial) ?_)
         have hX2 := (HT2.out.alloc (.cells #[.int .u8 92, .int .u8 92] 229)).alloc (.cells #[.int .u8 92] 5)
         have k2 := hb_alloc (hb_new wr (.cells #[.int .u8 92, .int .u8 92] 229)) (.cells #[.int .u8 92] 5)
         intro _
         refine wpList_append_own_at _ rfl _ _ 72 rfl w.heap.size 5 j0 (.int .u8 0) 1 1 Tryz.underlying72 HI.out HZ0.out HZ1.out HZ2.out rfl (by decide) _ _ _ rfl hX2.2 ⟨wr.heap.size + 1, 0, none⟩ 1 1 [.int .u8 92] rfl rfl (by have h := new_cells (wr.alloc (.cells #[.int .u8 92, .int .u8 92] 229)) #[.int .u8 92] 5 [.int .u8 92] rfl; rw [World.size_alloc] at h; exact h) Q64 Q66 (by omega) (by have := hX2.1.size; omega) ?_
         intro v4 w4 ho4 hg4 _ _
         have hX4 := hX2.grow 92 rfl ho4 hg4
         have k4 := hb_grown k2 hg4 (own_ne hX2.2 k2 (by intro cs f e; cases e))
         have r0 := hb_at k4 0 rfl
         clear ho4 hg4 hX2 k2 k4
         generalize hE4 : D ++ [92] = E4 at hX4
         have hl4 : E4.length ≤ 9000001 := by rw [← hE4, List.length_append, List.length_singleton]; omega
         have HE4 := Hd hE4
         have HX4 := Hd hX4
         obtain ⟨ao4, cap4, rfl⟩ := hX4.shape
         clear hX4 hE4
         go_wp2_with (at_builtin; refine (fun h : True → _ => h trivial) ?_)
         have hX5 := HX4.out.alloc (.cells #[.int .u8 92] 5)
         intro _
         refine wpList_append_own_at _ rfl _ _ 72 rfl w.heap.size 5 j0 (.int .u8 0) 1 1 Tryz.underlying72 HI.out HZ0.out HZ1.out HZ2.out rfl (by decide) _ _ _ rfl hX5.2 ⟨w4.heap.size, 0, none⟩ 1 1 [.int .u8 92] rfl rfl (by have h := new_cells w4 #[.int .u8 92] 5 [.int .u8 92] rfl; exact h) Q64 Q66 (by omega) Q62 ?_
         intro v6 w6 ho6 hg6 _ _
         have hX6 := hX5.grow 92 rfl ho6 hg6
         rw [← HE4.out, List.append_assoc] at hX6
         have HX6 := Hd hX6
         clear ho6 hg6 hX5 hX6
         go_wp2
         exact ⟨⟨k + 1, rfl, by omega, by rw [HN.out, HX.out]; exact HX6.out⟩, by simp [intOf]; omega⟩
       · have hd : ((s[k].toNat : Int) == 92) = false := by rw [beq_eq_false_iff_ne]; omega
         have HX := Hd hx
         clear hx
         go_wp2
         exact ⟨⟨1, rfl, rfl, rfl, by omega, HT2.out.alloc _, fun _ => HX.out, by omega, by omega, by omega⟩, by simp [intOf]⟩
     · by_cases hx : s[k].toNat = 34
       · have hd : ((s[k].toNat : Int) == 34) = true := by rw [hx]; rfl
         have he : escE s[k] = [92, 34] := by unfold escE; rw [if_neg (H0.out (by omega))]; rw [if_pos hx]
         have HX := Hd he
         clear he hx
         go_wp2_with (at_builtin; refine (fun h : True → _ => h trivial) ?_)
         have hX2 := (HT2.out.alloc (.cells #[.int .u8 34, .int .u8 34] 229)).alloc (.cells #[.int .u8 92] 5)
         have k2 := hb_alloc (hb_new wr (.cells #[.int .u8 34, .int .u8 34] 229)) (.cells #[.int .u8 92] 5)
         intro _
         refine wpList_append_own_at _ rfl _ _ 72 rfl w.heap.size 5 j0 (.int .u8 0) 1 1 Tryz.underlying72 HI.out HZ0.out HZ1.out HZ2.out rfl (by decide) _ _ _ rfl hX2.2 ⟨wr.heap.size + 1, 0, none⟩ 1 1 [.int .u8 92] rfl rfl (by have h := new_cells (wr.alloc (.cells #[.int .u8 34, .int .u8 34] 229)) #[.int .u8 92] 5 [.int .u8 92] rfl; rw [World.size_alloc] at h; exact h) Q64 Q66 (by omega) (by have := hX2.1.size; omega) ?_
         intro v4 w4 ho4 hg4 _ _
         have hX4 := hX2.grow 92 rfl ho4 hg4
         have k4 := hb_grown k2 hg4 (own_ne hX2.2 k2 (by intro cs f e; cases e))
         have r0 := hb_at k4 0 rfl
         clear ho4 hg4 hX2 k2 k4
         generalize hE4 : D ++ [92] = E4 at hX4
         have hl4 : E4.length ≤ 9000001 := by rw [← hE4, List.length_append, List.length_singleton]; omega
         have HE4 := Hd hE4
         have HX4 := Hd hX4
         obtain ⟨ao4, cap4, rfl⟩ := hX4.shape
         clear hX4 hE4
         go_wp2_with (at_builtin; refine (fun h : True → _ => h trivial) ?_)
         have hX5 := HX4.out.alloc (.cells #[.int .u8 34] 5)
         intro _
         refine wpList_append_own_at _ rfl _ _ 72 rfl w.heap.size 5 j0 (.int .u8 0) 1 1 Tryz.underlying72 HI.out HZ0.out HZ1.out HZ2.out rfl (by decide) _ _ _ rfl hX5.2 ⟨w4.heap.size, 0, none⟩ 1 1 [.int .u8 34] rfl rfl (by have h := new_cells w4 #[.int .u8 34] 5 [.int .u8 34] rfl; exact h) Q64 Q66 (by omega) Q62 ?_
         intro v6 w6 ho6 hg6 _ _
         have hX6 := hX5.grow 34 rfl ho6 hg6
         rw [← HE4.out, List.append_assoc] at hX6
         have HX6 := Hd hX6
         clear ho6 hg6 hX5 hX6
         go_wp2
         exact ⟨⟨k + 1, rfl, by omega, by rw [HN.out, HX.out]; exact HX6.out⟩, by simp [intOf]; omega⟩
       · have hd : ((s[k].toNat : Int) == 34) = false := by rw [beq_eq_false_iff_ne]; omega
         have HX := Hd hx
         clear hx
         go_wp2
         exact ⟨⟨2, rfl, rfl, rfl, by omega, HT2.out.alloc _, fun _ => H0.out (by omega), fun _ => HX.out, by omega, by omega⟩, by simp [intOf]⟩
     · by_cases hx : s[k].toNat = 10
       · have hd : ((s[k].toNat : Int) == 10) = true := by rw [hx]; rfl
         have he : escE s[k] = [92, 110] := by unfold escE; rw [if_neg (H0.out (by omega))]; rw [if_neg (H1.out (by omega))]; rw [if_pos hx]
         have HX := Hd he
         clear he hx
         go_wp2_with (at_builtin; refine (fun h : True → _ => h trivial) ?_)
         have hX2 := (HT2.out.alloc (.cells #[.int .u8 110, .int .u8 10] 229)).alloc (.cells #[.int .u8 92] 5)
         have k2 := hb_alloc (hb_new wr (.cells #[.int .u8 110, .int .u8 10] 229)) (.cells #[.int .u8 92] 5)
         intro _
         refine wpList_append_own_at _ rfl _ _ 72 rfl w.heap.size 5 j0 (.int .u8 0) 1 1 Tryz.underlying72 HI.out HZ0.out HZ1.out HZ2.out rfl (by decide) _ _ _ rfl hX2.2 ⟨wr.heap.size + 1, 0, none⟩ 1 1 [.int .u8 92] rfl rfl (by have h := new_cells (wr.alloc (.cells #[.int .u8 110, .int .u8 10] 229)) #[.int .u8 92] 5 [.int .u8 92] rfl; rw [World.size_alloc] at h; exact h) Q64 Q66 (by omega) (by have := hX2.1.size; omega) ?_
         intro v4 w4 ho4 hg4 _ _
         have hX4 := hX2.grow 92 rfl ho4 hg4
         have k4 := hb_grown k2 hg4 (own_ne hX2.2 k2 (by intro cs f e; cases e))
         have r0 := hb_at k4 0 rfl
         clear ho4 hg4 hX2 k2 k4
         generalize hE4 : D ++ [92] = E4 at hX4
         have hl4 : E4.length ≤ 9000001 := by rw [← hE4, List.length_append, List.length_singleton]; omega
         have HE4 := Hd hE4
         have HX4 := Hd hX4
         obtain ⟨ao4, cap4, rfl⟩ := hX4.shape
         clear hX4 hE4
         go_wp2_with (at_builtin; refine (fun h : True → _ => h trivial) ?_)
         have hX5 := HX4.out.alloc (.cells #[.int .u8 110] 5)
         intro _
         refine wpList_append_own_at _ rfl _ _ 72 rfl w.heap.size 5 j0 (.int .u8 0) 1 1 Tryz.underlying72 HI.out HZ0.out HZ1.out HZ2.out rfl (by decide) _ _ _ rfl hX5.2 ⟨w4.heap.size, 0, none⟩ 1 1 [.int .u8 110] rfl rfl (by have h := new_cells w4 #[.int .u8 110] 5 [.int .u8 110] rfl; exact h) Q64 Q66 (by omega) Q62 ?_
         intro v6 w6 ho6 hg6 _ _
         have hX6 := hX5.grow 110 rfl ho6 hg6
         rw [← HE4.out, List.append_assoc] at hX6
         have HX6 := Hd hX6
         clear ho6 hg6 hX5 hX6
         go_wp2
         exact ⟨⟨k + 1, rfl, by omega, by rw [HN.out, HX.out]; exact HX6.out⟩, by simp [intOf]; omega⟩
       · have hd : ((s[k].toNat : Int) == 10) = false := by rw [beq_eq_false_iff_ne]; omega
         have HX := Hd hx
         clear hx
         go_wp2
         exact ⟨⟨3, rfl, rfl, rfl, by omega, HT2.out.alloc _, fun _ => H0.out (by omega), fun _ => H1.out (by omega), fun _ => HX.out, by omega⟩, by simp [intOf]⟩
     · by_cases hx : s[k].toNat = 9
       · have hd : ((s[k].toNat : Int) == 9) = true := by rw [hx]; rfl
         have he : escE s[k] = [92, 116] := by unfold escE; rw [if_neg (H0.out (by omega))]; rw [if_neg (H1.out (by omega))]; rw [if_neg (H2.out (by omega))]; rw [if_pos hx]
         have HX := Hd he
         clear he hx
         go_wp2_with (at_builtin; refine (fun h : True → _ => h trivial) ?_)
         have hX2 := (HT2.out.alloc (.cells #[.int .u8 116, .int .u8 9] 229)).alloc (.cells #[.int .u8 92] 5)
         have k2 := hb_alloc (hb_new wr (.cells #[.int .u8 116, .int .u8 9] 229)) (.cells #[.int .u8 92] 5)
         intro _
         refine wpList_append_own_at _ rfl _ _ 72 rfl w.heap.size 5 j0 (.int .u8 0) 1 1 Tryz.underlying72 HI.out HZ0.out HZ1.out HZ2.out rfl (by decide) _ _ _ rfl hX2.2 ⟨wr.heap.size + 1, 0, none⟩ 1 1 [.int .u8 92] rfl rfl (by have h := new_cells (wr.alloc (.cells #[.int .u8 116, .int .u8 9] 229)) #[.int .u8 92] 5 [.int .u8 92] rfl; rw [World.size_alloc] at h; exact h) Q64 Q66 (by omega) (by have := hX2.1.size; omega) ?_
         intro v4 w4 ho4 hg4 _ _
         have hX4 := hX2.grow 92 rfl ho4 hg4
         have k4 := hb_grown k2 hg4 (own_ne hX2.2 k2 (by intro cs f e; cases e))
         have r0 := hb_at k4 0 rfl
         clear ho4 hg4 hX2 k2 k4
         generalize hE4 : D ++ [92] = E4 at hX4
         have hl4 : E4.length ≤ 9000001 := by rw [← hE4, List.length_append, List.length_singleton]; omega
         have HE4 := Hd hE4
         have HX4 := Hd hX4
         obtain ⟨ao4, cap4, rfl⟩ := hX4.shape
         clear hX4 hE4
         go_wp2_with (at_builtin; refine (fun h : True → _ => h trivial) ?_)
         have hX5 := HX4.out.alloc (.cells #[.int .u8 116] 5)
         intro _
         refine wpList_append_own_at _ rfl _ _ 72 rfl w.heap.size 5 j0 (.int .u8 0) 1 1 Tryz.underlying72 HI.out HZ0.out HZ1.out HZ2.out rfl (by decide) _ _ _ rfl hX5.2 ⟨w4.heap.size, 0, none⟩ 1 1 [.int .u8 116] rfl rfl (by have h := new_cells w4 #[.int .u8 116] 5 [.int .u8 116] rfl; exact h) Q64 Q66 (by omega) Q62 ?_
         intro v6 w6 ho6 hg6 _ _
         have hX6 := hX5.grow 116 rfl ho6 hg6
         rw [← HE4.out, List.append_assoc] at hX6
         have HX6 := Hd hX6
         clear ho6 hg6 hX5 hX6
         go_wp2
         exact ⟨⟨k + 1, rfl, by omega, by rw [HN.out, HX.out]; exact HX6.out⟩, by simp [intOf]; omega⟩
       · have hd : ((s[k].toNat : Int) == 9) = false := by rw [beq_eq_false_iff_ne]; omega
         have HX := Hd hx
         clear hx
         go_wp2
         exact ⟨⟨4, rfl, rfl, rfl, by omega, HT2.out.alloc _, fun _ => H0.out (by omega), fun _ => H1.out (by omega), fun _ => H2.out (by omega), fun _ => HX.out⟩, by simp [intOf]⟩
     · have he : escE s[k] = [s[k]] := by unfold escE; rw [if_neg (H0.out (by omega)), if_neg (H1.out (by omega)), if_neg (H2.out (by omega)), if_neg (H3.out (by omega))]
       have HX := Hd he
       clear he
       go_wp2_with (at_builtin; refine (fun h : True → _ => h trivial) ?_)
       have hX5 := HT2.out.alloc (.cells #[.int .u8 (s[k].toNat : Nat)] 5)
       intro _
       refine wpList_append_own_at _ rfl _ _ 72 rfl w.heap.size 5 j0 (.int .u8 0) 1 1 Tryz.underlying72 HI.out HZ0.out HZ1.out HZ2.out rfl (by decide) _ _ _ rfl hX5.2 ⟨wr.heap.size, 0, none⟩ 1 1 [.int .u8 (s[k].toNat : Nat)] rfl rfl (by have h := new_cells wr #[.int .u8 (s[k].toNat : Nat)] 5 [.int .u8 (s[k].toNat : Nat)] rfl; exact h) Q64 Q66 (by omega) Q62 ?_
       intro v6 w6 ho6 hg6 _ _
       have hX6 := hX5.grow s[k] rfl ho6 hg6
       have HX6 := Hd hX6
       clear ho6 hg6 hX5 hX6
       go_wp2
       exact ⟨⟨k + 1, rfl, by omega, by rw [HN.out, HX.out]; exact HX6.out⟩, by simp [intOf]; omega⟩
  · have hki : ¬ (k : Int) < (s.size : Int) := by omega
    go_wp2_with (at_builtin; refine (fun h : True → _ => h trivial) ?_)
    have hX5 := HT.out.alloc (.cells #[.int .u8 34] 5)
    intro _
    refine wpList_append_own_at _ rfl _ _ 72 rfl w.heap.size 5 j0 (.int .u8 0) 1 1 Tryz.underlying72 HI.out HZ0.out HZ1.out HZ2.out rfl (by decide) _ _ _ rfl hX5.2 ⟨wr.heap.size, 0, none⟩ 1 1 [.int .u8 34] rfl rfl (by have h := new_cells wr #[.int .u8 34] 5 [.int .u8 34] rfl; exact h) Q64 Q66 (by omega) Q62 ?_
    intro v6 w6 ho6 hg6 _ _
    have hX6 := hX5.grow 34 rfl ho6 hg6
    have hcv := hX6.conv (by simp)
    have HX6 := Hd hX6
    clear ho6 hg6 hX5 hX6
    go_wp2
    go_ret
    have hf : telL s.data.toList = D ++ [34] := by
     rw [← HD.out, List.take_of_length_le Q65]
     rfl
    exact ⟨by rw [hf]; rfl, HX6.out.1⟩
end Go.Proofs.YtmkjalnlldpdcaaGreatDoor
namespace Go.Proofs.YtmkjalnlldpdcaaGreatDoor
open Go.ChangeShapes Go.WideShapes Go.RowKit Go.Deep
inductive Tm where
 | mk (k : Int) (p n : ByteArray) (N : Int) (kids : List Tm)
abbrev tv (k : Int) (p n : ByteArray) (N : Int) (s : Value) : Value := .agg #[.int .i64 k, .string p, .string n, .int .i64 N, s]
def TAt (w : World) (b o : Nat) (k : Int) (p n : ByteArray) (N : Int) (s : Value) : Prop :=
 w.cell? ⟨b, o, none⟩ = some (.int .i64 k) ∧ w.cell? ⟨b, o + 1, none⟩ = some (.string p) ∧ w.cell? ⟨b, o + 2, none⟩ = some (.string n) ∧ w.cell? ⟨b, o + 3, none⟩ = some (.int .i64 N) ∧ w.cell? ⟨b, o + 4, none⟩ = some s
def IsT (w : World) : Nat → Value → Tm → Prop
 | 0, _, _ => False
 | d + 1, v, .mk k p n N kids => ∃ q c, v = tv k p n N (.slice q kids.length c) ∧ p.size ≤ maxLen ∧ n.size ≤ maxLen ∧ kids.length ≤ maxLen ∧
   ∀ i x, kids[i]? = some x → ∃ b o k' p' n' N' s', q = some ⟨b, o, none⟩ ∧ TAt w b (o + i * 5) k' p' n' N' s' ∧ IsT w d (tv k' p' n' N' s') x
def KidsT (w : World) (d : Nat) (s : Value) (kids : List Tm) : Prop := ∃ q c, s = .slice q kids.length c ∧ kids.length ≤ maxLen ∧
 ∀ i x, kids[i]? = some x → ∃ b o k' p' n' N' s', q = some ⟨b, o, none⟩ ∧ TAt w b (o + i * 5) k' p' n' N' s' ∧ IsT w d (tv k' p' n' N' s') x
theorem TAt.lt {w : World} {b o : Nat} {k : Int} {p n : ByteArray} {N : Int} {s : Value} (h : TAt w b o k p n N s) : b < w.heap.size := block_lt_of_cell h.1
theorem TAt.keep {w w' : World} {b o : Nat} {k : Int} {p n : ByteArray} {N : Int} {s : Value} (h : TAt w b o k p n N s) (hk : ∀ j, w'.cell? ⟨b, j, none⟩ = w.cell? ⟨b, j, none⟩) : TAt w' b o k p n N s :=
 ⟨by rw [hk, h.1], by rw [hk, h.2.1], by rw [hk, h.2.2.1], by rw [hk, h.2.2.2.1], by rw [hk, h.2.2.2.2]⟩
theorem TAt.below {w w' : World} {b o m : Nat} {k : Int} {p n : ByteArray} {N : Int} {s : Value} (h : TAt w b o k p n N s) (hb : Below m w w') (hm : b < m) : TAt w' b o k p n N s :=
 h.keep fun j => hb.cell (p := ⟨b, j, none⟩) hm
theorem IsT.below {w w' : World} {d : Nat} (hb : Below w.heap.size w w') : ∀ {v : Value} {x : Tm}, IsT w d v x → IsT w' d v x := by
 induction d with
 | zero => intro v x h; exact h
 | succ d ih =>
  intro v x h
  obtain ⟨k, p, n, N, kids⟩ := x
  obtain ⟨q, c, h1, h2, h3, h4, h5⟩ := h
  refine ⟨q, c, h1, h2, h3, h4, fun i y hy => ?_⟩
  obtain ⟨b, o, k', p', n', N', s', e, ha, ht⟩ := h5 i y hy
  exact ⟨b, o, k', p', n', N', s', e, ha.below hb ha.lt, ih ht⟩
theorem IsT.more {w : World} {d d' : Nat} (hd : d ≤ d') : ∀ {v : Value} {x : Tm}, IsT w d v x → IsT w d' v x := by
 induction d generalizing d' with
 | zero => intro v x h; cases h
 | succ d ih =>
  intro v x h
  obtain ⟨d', rfl⟩ : ∃ m, d' = m + 1 := ⟨d' - 1, by omega⟩
  obtain ⟨k, p, n, N, kids⟩ := x
  obtain ⟨q, c, h1, h2, h3, h4, h5⟩ := h
  refine ⟨q, c, h1, h2, h3, h4, fun i y hy => ?_⟩
  obtain ⟨b, o, k', p', n', N', s', e, ha, ht⟩ := h5 i y hy
  exact ⟨b, o, k', p', n', N', s', e, ha, ih (by omega) ht⟩
theorem KidsT.below {w w' : World} {d : Nat} {s : Value} {kids : List Tm} (h : KidsT w d s kids) (hb : Below w.heap.size w w') : KidsT w' d s kids := by
 obtain ⟨q, c, h1, h4, h5⟩ := h
 refine ⟨q, c, h1, h4, fun i y hy => ?_⟩
 obtain ⟨b, o, k', p', n', N', s', e, ha, ht⟩ := h5 i y hy
 exact ⟨b, o, k', p', n', N', s', e, ha.below hb ha.lt, ht.below hb⟩
theorem IsT.open {w : World} {d : Nat} {v : Value} {x : Tm} (h : IsT w d v x) : ∃ m k p n N s kids, d = m + 1 ∧ x = .mk k p n N kids ∧ v = tv k p n N s ∧ p.size ≤ maxLen ∧ n.size ≤ maxLen ∧ KidsT w m s kids := by
 cases d with
 | zero => cases h
 | succ d =>
  obtain ⟨k, p, n, N, kids⟩ := x
  obtain ⟨q, c, h1, h2, h3, h4, h5⟩ := h
  exact ⟨d, k, p, n, N, _, kids, rfl, rfl, h1, h2, h3, q, c, rfl, h4, h5⟩
theorem IsT.shut {w : World} {d : Nat} {k : Int} {p n : ByteArray} {N : Int} {s : Value} {kids : List Tm} (hp : p.size ≤ maxLen) (hn : n.size ≤ maxLen) (h : KidsT w d s kids) : IsT w (d + 1) (tv k p n N s) (.mk k p n N kids) := by
 obtain ⟨q, c, rfl, h4, h5⟩ := h
 exact ⟨q, c, rfl, hp, hn, h4, h5⟩
theorem pick_list {α : Type} {P : Nat → α → Prop} (n : Nat) (h : ∀ i, i < n → ∃ x, P i x) : ∃ l : List α, l.length = n ∧ ∀ i x, l[i]? = some x → P i x := by
 induction n with
 | zero => exact ⟨[], rfl, fun i x hx => by simp at hx⟩
 | succ n ih =>
  obtain ⟨l, hl, hp⟩ := ih fun i hi => h i (by omega)
  obtain ⟨x, hx⟩ := h n (by omega)
  refine ⟨l ++ [x], by simp [hl], fun i y hy => ?_⟩
  rcases Nat.lt_or_ge i l.length with hi | hi
  · rw [List.getElem?_append_left hi] at hy
    exact hp i y hy
  · rw [List.getElem?_append_right hi] at hy
    have e : i - l.length = 0 := by
     rcases Nat.eq_zero_or_pos (i - l.length) with h0 | h0
     · exact h0
     · rw [List.getElem?_eq_none Q69] at hy
       cases hy
    rw [e] at hy
    obtain rfl := Option.some.inj hy
    have e2 : i = n := by omega
    subst e2
    exact hx
theorem cells24 : Tryz.prog.cellsOf 24 = 5 := by kernel_rfl
theorem cells3 : Tryz.prog.cellsOf 3 = 1 := by kernel_rfl
theorem cells9 : Tryz.prog.cellsOf 9 = 1 := by kernel_rfl
theorem cells22 : Tryz.prog.cellsOf 22 = 1 := by kernel_rfl
section
variable {H : Type} {enc : TypeId × Value → H} {W : World} {v : Value} {d : DataW H} {p : List MemPlace}
end
noncomputable def same (a b : Tm) : Bool := by classical exact decide (a = b)
theorem bcell {W w1 : World} (hb : Below W.heap.size W w1) : (∀ b o, b < W.heap.size → w1.cell? ⟨b, o, none⟩ = W.cell? ⟨b, o, none⟩) ∧ (∀ b o, b < W.heap.size → w1.frozen? ⟨b, o, none⟩ = W.frozen? ⟨b, o, none⟩) :=
 ⟨fun b o h => hb.cell (p := ⟨b, o, none⟩) h, fun b o h => hb.frozen (p := ⟨b, o, none⟩) h⟩
theorem keep_cell {w w' : World} {a : Addr} {v : Value} (hb : Below w.heap.size w w') (h : w.cell? a = some v) : w'.cell? a = some v := by
 rw [hb.cell (block_lt_of_cell h), h]
end Go.Proofs.YtmkjalnlldpdcaaGreatDoor
namespace Go.Proofs.YtmkjalnlldpdcaaGreatDoor
set_option linter.unusedSimpArgs false
set_option linter.unusedVariables false
abbrev Ts := List (Tk × Nat)
abbrev Res (α : Type) := Except (Nat × Nat) (α × Ts)
def bnd {α β : Type} (x : Res α) (f : α → Ts → Res β) : Res β := match x with
 | .error e => .error e
 | .ok y => f y.1 y.2
theorem bnd_ok {α β : Type} (a : α) (ts : Ts) (f : α → Ts → Res β) : bnd (.ok (a, ts)) f = f a ts := rfl
def e0 : ByteArray := ⟨#[]⟩
def nx (E : Nat) (ts : Ts) : Tk × Nat := ts.headD (tk0, E)
def die {α : Type} (E : Nat) (ts : Ts) (e : Nat) : Res α := .error ((nx E ts).2, e)
def kd (ts : Ts) : Int := (nx 0 ts).1.k
def tx (ts : Ts) : ByteArray := (nx 0 ts).1.s
def isB (k : Int) (x : ByteArray) (ts : Ts) : Bool := decide (kd ts = k) && decide (tx ts = x)
def takeP (E : Nat) (k : Int) (ts : Ts) : Res ByteArray := if kd ts = k then .ok (tx ts, ts.tail) else die E ts 10
def keyP (E : Nat) (k : Int) (x : ByteArray) (ts : Ts) : Res Unit := if isB k x ts then .ok ((), ts.tail) else die E ts 10
abbrev sDot : ByteArray := ⟨#[46]⟩
abbrev sOpen : ByteArray := ⟨#[40]⟩
abbrev sShut : ByteArray := ⟨#[41]⟩
abbrev sComma : ByteArray := ⟨#[44]⟩
abbrev sArrow : ByteArray := ⟨#[45, 62]⟩
abbrev sColon : ByteArray := ⟨#[58]⟩
abbrev sEq : ByteArray := ⟨#[61]⟩
abbrev sBar : ByteArray := ⟨#[124]⟩
abbrev sAny : ByteArray := ⟨#[95]⟩
abbrev kFun : ByteArray := ⟨#[102, 117, 110]⟩
abbrev kLet : ByteArray := ⟨#[108, 101, 116]⟩
abbrev kMatch : ByteArray := ⟨#[109, 97, 116, 99, 104]⟩
abbrev kRec : ByteArray := ⟨#[114, 101, 99]⟩
abbrev kIn : ByteArray := ⟨#[105, 110]⟩
abbrev kWith : ByteArray := ⟨#[119, 105, 116, 104]⟩
abbrev kEnd : ByteArray := ⟨#[101, 110, 100]⟩
def sevF {α : Type} (E : Nat) (bt : ByteArray) (one : Ts → Res α) : Nat → Ts → List α → Res (List α)
 | 0, ts, _ => die E ts 10
 | f + 1, ts, acc => if isB 8 bt ts then bnd (one ts.tail) fun a ts => sevF E bt one f ts (acc ++ [a]) else .ok (acc, ts)
def sevL {α : Type} (E : Nat) (bt : ByteArray) (one : Ts → Res α) (ts : Ts) (acc : List α) : Res (List α) := sevF E bt one (ts.length + 1) ts acc
def sevP {α : Type} (E : Nat) (bt : ByteArray) (one : Ts → Res α) (ts : Ts) : Res (List α) := bnd (one ts) fun a ts => sevL E bt one ts [a]
def heldP {α : Type} (E : Nat) (one : Ts → Res α) (ts : Ts) : Res (List α) :=
 if isB 8 sOpen ts then bnd (sevP E sComma one ts.tail) fun l ts => bnd (keyP E 8 sShut ts) fun _ ts => .ok (l, ts) else .ok ([], ts)
def openP (E : Nat) (one : Ts → Res Tm) (ts : Ts) : Res (List Tm) :=
 bnd (keyP E 8 sOpen ts) fun _ ts => if isB 8 sShut ts then .ok ([], ts) else sevP E sComma one ts
def shutT (kind : Int) (l : List Tm) : Tm := match l with
 | [t] => t
 | l => .mk kind e0 e0 0 l
def shutP (E : Nat) (kind : Int) (l : List Tm) (ts : Ts) : Res Tm := bnd (keyP E 8 sShut ts) fun _ ts => .ok (shutT kind l, ts)
def conP (E : Nat) (kind : Int) (p : ByteArray) (one : Ts → Res Tm) (ts : Ts) : Res Tm :=
 bnd (takeP E 2 ts) fun s ts => bnd (heldP E one ts) fun l ts => .ok (.mk kind p s 0 l, ts)
def tyConP (E : Nat) (p : ByteArray) (one : Ts → Res Tm) (ts : Ts) : Res Tm :=
 bnd (takeP E 1 ts) fun s ts => bnd (heldP E one ts) fun l ts => .ok (.mk 2 p s 0 l, ts)
def tyAtomP (E : Nat) (one : Ts → Res Tm) (ts : Ts) : Res Tm :=
 if kd ts = 3 then bnd (takeP E 3 ts) fun s ts => .ok (.mk 1 e0 s 0 [], ts)
 else if kd ts = 2 then bnd (takeP E 2 ts) fun p ts => bnd (keyP E 8 sDot ts) fun _ ts => tyConP E p one ts
 else if kd ts = 1 then tyConP E e0 one ts
 else bnd (openP E one ts) fun l ts => shutP E 4 l ts
def typP (E : Nat) : Nat → Ts → Res Tm
 | 0, ts => die E ts 9
 | g + 1, ts => bnd (tyAtomP E (typP E g) ts) fun t ts =>
  if isB 8 sArrow ts then bnd (typP E g ts.tail) fun u ts => .ok (.mk 3 e0 e0 0 [t, u], ts) else .ok (t, ts)
def annP (E : Nat) (one : Ts → Res Tm) (ts : Ts) : Res (List Tm) :=
 if isB 8 sColon ts then bnd (one ts.tail) fun t ts => .ok ([t], ts) else .ok ([], ts)
def qualP (E : Nat) (ts : Ts) : Res ByteArray :=
 if isB 8 sDot ts.tail then bnd (takeP E 2 ts) fun p ts => bnd (keyP E 8 sDot ts) fun _ ts => .ok (p, ts) else .ok (e0, ts)
def patP (E : Nat) : Nat → Ts → Res Tm
 | 0, ts => die E ts 9
 | g + 1, ts =>
  if kd ts = 1 then bnd (takeP E 1 ts) fun s ts => .ok (.mk 12 e0 s 0 [], ts)
  else if kd ts = 4 then bnd (takeP E 4 ts) fun _ ts' => .ok (.mk 13 e0 e0 (nx 0 ts).1.n [], ts')
  else if kd ts = 5 then bnd (takeP E 5 ts) fun s ts => .ok (.mk 14 e0 s 0 [], ts)
  else if kd ts = 2 then bnd (qualP E ts) fun p ts => conP E 15 p (patP E g) ts
  else if isB 8 sAny ts then .ok (.mk 11 e0 e0 0 [], ts.tail)
  else bnd (openP E (patP E g) ts) fun l ts => shutP E 16 l ts
def begB (ts : Ts) : Bool := decide (kd ts = 4) || decide (kd ts = 5) || decide (kd ts = 1) || decide (kd ts = 2) || isB 8 sOpen ts
def appF (E : Nat) (atom : Ts → Res Tm) : Nat → Tm → Ts → Res Tm
 | 0, t, ts => if begB ts then die E ts 9 else .ok (t, ts)
 | k + 1, t, ts => if begB ts then bnd (atom ts) fun a ts => appF E atom k (.mk 27 e0 e0 0 [t, a]) ts else .ok (t, ts)
def appP (E : Nat) (atom : Ts → Res Tm) (ts : Ts) : Res Tm := bnd (atom ts) fun t ts => appF E atom 50 t ts
def varP (E : Nat) (p : ByteArray) (ts : Ts) : Res Tm := bnd (takeP E 1 ts) fun s ts => .ok (.mk 21 p s 0 [], ts)
def atomP (E : Nat) (one typ : Ts → Res Tm) (ts : Ts) : Res Tm :=
 if kd ts = 4 then bnd (takeP E 4 ts) fun _ ts' => .ok (.mk 22 e0 e0 (nx 0 ts).1.n [], ts')
 else if kd ts = 5 then bnd (takeP E 5 ts) fun s ts => .ok (.mk 23 e0 s 0 [], ts)
 else if kd ts = 2 then bnd (qualP E ts) fun p ts => if kd ts = 2 then conP E 24 p one ts else varP E p ts
 else if kd ts = 1 then varP E e0 ts
 else bnd (openP E one ts) fun l ts =>
  if l.length = 1 ∧ isB 8 sColon ts = true then bnd (annP E typ ts) fun a ts => shutP E 25 [.mk 30 e0 e0 0 (l ++ a)] ts
  else shutP E 25 l ts
def funP (E : Nat) (one : Ts → Res Tm) (ts : Ts) : Res Tm :=
 bnd (takeP E 1 ts) fun s ts => bnd (keyP E 8 sArrow ts) fun _ ts => bnd (one ts) fun x ts => .ok (.mk 26 e0 s 0 [x], ts)
def letR (E : Nat) (one typ : Ts → Res Tm) (N : Int) (ts : Ts) : Res Tm :=
 bnd (takeP E 1 ts) fun s ts => bnd (annP E typ ts) fun a ts => bnd (keyP E 8 sEq ts) fun _ ts => bnd (one ts) fun x ts =>
 bnd (keyP E 7 kIn ts) fun _ ts => bnd (one ts) fun y ts => .ok (.mk 28 e0 s N ([x, y] ++ a), ts)
def letP (E : Nat) (one typ : Ts → Res Tm) (ts : Ts) : Res Tm := if isB 7 kRec ts then letR E one typ 1 ts.tail else letR E one typ 0 ts
def armP (E : Nat) (pat one : Ts → Res Tm) (ts : Ts) : Res (List Tm) :=
 bnd (pat ts) fun p ts => bnd (keyP E 8 sArrow ts) fun _ ts => bnd (one ts) fun x ts => .ok ([p, x], ts)
def matP (E : Nat) (pat one : Ts → Res Tm) (ts : Ts) : Res Tm :=
 bnd (one ts) fun x ts => bnd (keyP E 7 kWith ts) fun _ ts => bnd (sevP E sBar (armP E pat one) ts) fun l ts =>
 bnd (keyP E 7 kEnd ts) fun _ ts => .ok (.mk 29 e0 e0 0 (x :: l.flatten), ts)
def exprP (E : Nat) : Nat → Ts → Res Tm
 | 0, ts => die E ts 9
 | g + 1, ts =>
  if isB 7 kFun ts then funP E (exprP E g) ts.tail
  else if isB 7 kLet ts then letP E (exprP E g) (typP E g) ts.tail
  else if isB 7 kMatch ts then matP E (patP E g) (exprP E g) ts.tail
  else appP E (atomP E (exprP E g) (typP E g)) ts
def wholeP {α : Type} (E : Nat) (one : Ts → Res α) (ts : Ts) : Except (Nat × Nat) α := match one ts with
 | .error e => .error e
 | .ok (a, ts') => if ts'.length = 0 then .ok a else .error ((nx E ts').2, 10)
end Go.Proofs.YtmkjalnlldpdcaaGreatDoor
