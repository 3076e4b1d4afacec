
/- Lex. -/
import Derived.Test.YtpedmkdpbdhenaaGreatDoorLn
namespace Go.Proofs.YtpedmkdpbdhenaaGreatDoor
open Go.RowKit
set_option linter.unusedSimpArgs false
set_option linter.unusedVariables false
theorem nameT_le (k : Int) (s : ByteArray) : (nameT k s).2 ≤ s.size := by
  have h := cnt_le nmB s.data.toList
  rw [len_list] at h
  unfold nameT
  split
  · exact Nat.zero_le _
  · exact h
theorem varT_le (s : ByteArray) : (varT s).2 ≤ s.size := by
  have h1 := cnt_le vrB (s.data.toList.drop 1)
  rw [List.length_drop, len_list] at h1
  have h1 := cnt_le vrB (s.data.toList.drop 1)
  rw [List.length_drop, len_list] at h1
  unfold varT
  by_cases h : cnt vrB (s.data.toList.drop 1) = 0 ∨ 29 < cnt vrB (s.data.toList.drop 1) ∨ headS s.data.toList[1]? = false
  · rw [if_pos h]
    exact Nat.zero_le _
  · rw [if_neg h]
    show 1 + cnt vrB (s.data.toList.drop 1) ≤ s.size
    omega
theorem txF_le (L : List UInt8) : ∀ (f i : Nat) (said r : List UInt8) (n : Nat), txF L f i said = some (r, n) → n ≤ L.length := by
  intro f
  induction f with
  | zero => intro i said r n h; cases h
  | succ f ih =>
    intro i said r n h
    unfold txF at h
    split at h
    · cases h
    · cases hc : L[i]? with
      | none => rw [hc] at h; cases h
      | some c =>
        have hi := (List.getElem?_eq_some_iff.1 hc).1
        rw [hc] at h
        simp only [] at h
        split at h
        · cases h; omega
        · split at h
          · cases h
          · split at h
            · cases hd : L[i + 1]? with
              | none => rw [hd] at h; cases h
              | some d =>
                rw [hd] at h
                simp only [] at h
                split at h
                · exact ih _ _ _ _ h
                · cases h
            · exact ih _ _ _ _ h
theorem textT_le (s : ByteArray) : (textT s).2 ≤ s.size := by
  unfold textT
  cases h : txM s.data.toList 1 [] with
  | none => exact Nat.zero_le _
  | some x =>
    have := txF_le _ _ _ _ x.1 x.2 h
    rw [len_list] at this
    exact this
theorem numT_le (s : ByteArray) : (numT s).2 ≤ s.size := by
  unfold numT
  split
  · exact verM_le s
  · split
    · exact Nat.zero_le _
    · have := intM_le s.data.toList
      rw [len_list] at this
      exact this
theorem firstT_le (s : ByteArray) : (firstT s).2 ≤ s.size := by
  unfold firstT
  cases hc : s.data.toList[0]? with
  | none => exact Nat.zero_le _
  | some c =>
    have hi := (List.getElem?_eq_some_iff.1 hc).1
    rw [len_list] at hi
    simp only []
    split
    · exact nameT_le _ _
    · split
      · exact nameT_le _ _
      · split
        · exact varT_le _
        · split
          · exact textT_le _
          · split
            · exact numT_le _
            · rename_i h
              unfold signT
              split
              · rename_i h45
                have hp : Lib.hasPrefix s.data.toList [45, 62] = true := by
                  cases hp : Lib.hasPrefix s.data.toList [45, 62]
                  · exact absurd (by rw [hp, h45]; simp) h
                  · rfl
                have h3 := len_list s
                unfold Lib.hasPrefix at hp
                show 2 ≤ s.size
                cases e : s.data.toList with
                | nil => rw [e] at hp; simp at hp
                | cons a l =>
                  cases l with
                  | nil => rw [e] at hp; simp at hp
                  | cons b l => rw [e] at h3; simp at h3; omega
              · split
                · exact hi
                · exact Nat.zero_le _
/-- Tokens, laid in a row. -/
def cellsT (l : List (Tk × Nat)) : List Value := l.flatMap fun x => [.int .i64 x.1.k, .string x.1.s, .int .i64 x.1.n, .int .i64 (x.2 : Nat)]
theorem cellsT_snoc (l : List (Tk × Nat)) (x : Tk × Nat) : cellsT (l ++ [x]) = cellsT l ++ [.int .i64 x.1.k, .string x.1.s, .int .i64 x.1.n, .int .i64 (x.2 : Nat)] := by
  unfold cellsT
  rw [List.flatMap_append]
  simp
def lxF (s : ByteArray) : Nat → Nat → List (Tk × Nat) → List (Tk × Nat) × Nat × Nat
  | 0, _, _ => ([], 0, 0)
  | f + 1, i, acc =>
    if s.size ≤ i then (acc, 0, 0)
    else if (firstT (s.extract i s.size)).2 = 0 then ([], i, 10)
    else if acc.length = 6000 then ([], i, 9)
    else lxF s f (i + (firstT (s.extract i s.size)).2 + skM (s.data.toList.drop (i + (firstT (s.extract i s.size)).2))) (acc ++ [((firstT (s.extract i s.size)).1, i)])
theorem lxF_any (s : ByteArray) : ∀ (f g i : Nat) (acc : List (Tk × Nat)), s.size - i < f → s.size - i < g → lxF s f i acc = lxF s g i acc := by
  intro f
  induction f with
  | zero => intro g i acc h; omega
  | succ f ih =>
    intro g i acc h1 h2
    cases g with
    | zero => omega
    | succ g =>
      unfold lxF
      split
      · rfl
      · split
        · rfl
        · split
          · rfl
          · exact ih g _ _ (by omega) (by omega)
def lxM (s : ByteArray) (i : Nat) (acc : List (Tk × Nat)) : List (Tk × Nat) × Nat × Nat := lxF s (s.size + 1) i acc
theorem lxM_step (s : ByteArray) (i : Nat) (acc : List (Tk × Nat)) : lxM s i acc =
    if s.size ≤ i then (acc, 0, 0)
    else if (firstT (s.extract i s.size)).2 = 0 then ([], i, 10)
    else if acc.length = 6000 then ([], i, 9)
    else lxM s (i + (firstT (s.extract i s.size)).2 + skM (s.data.toList.drop (i + (firstT (s.extract i s.size)).2))) (acc ++ [((firstT (s.extract i s.size)).1, i)]) := by
  unfold lxM
  rw [lxF]
  split
  · rfl
  · split
    · rfl
    · split
      · rfl
      · exact lxF_any s _ _ _ _ (by omega) (by omega)
/-- What Lex tells: the tokens, a byte, an error. -/
def lexM (s : ByteArray) : List (Tk × Nat) × Nat × Nat := if 20000 < s.size then ([], 0, 9) else lxM s (skM s.data.toList) []
/-- Tokens as a slice of one's own. -/
def TkRow (B : Nat) (w : World) (v : Value) (l : List (Tk × Nat)) : Prop := w.ownsRow B 32 4 v l.length (cellsT l)
theorem TkRow.below {B : Nat} {w w' : World} {v : Value} {l : List (Tk × Nat)} (h : TkRow B w v l) (hb : Below w.heap.size w w') : TkRow B w' v l := by
  have hg : w.grownBy w' none := ⟨hb.os, hb.tape, hb.output, hb.size, fun k hk _ => hb.block k hk⟩
  exact World.ownsRow.kept h hg (by cases e : v.ownBlock <;> simp)
theorem TkRow.shape {B : Nat} {w : World} {v : Value} {l : List (Tk × Nat)} (h : TkRow B w v l) : ∃ ao cap, v = .slice ao l.length cap := by
  rcases h.2 with ⟨hv, h0⟩ | ⟨g, cap, cur, hv, _⟩
  · exact ⟨none, 0, by rw [hv, h0]⟩
  · exact ⟨_, _, hv⟩
theorem info34 : ∃ z, (Tryz.prog.info? 32).map (fun i => (i.zero, i.size, i.bytes)) = some (some z, 4, 40) ∧ z.cells.size = 4 := ⟨.agg #[.int .i64 0, .string ⟨#[]⟩, .int .i64 0, .int .i64 0], by kernel_rfl, rfl⟩
def LexR (s : ByteArray) (w : World) (e : Ending) (w' : World) : Prop :=
  ∃ v, e = .returned (.tuple #[v, .int .i64 ((lexM s).2.1 : Nat), .int .i64 ((lexM s).2.2 : Nat)]) ∧ TkRow w.heap.size w' v (lexM s).1 ∧ Below w.heap.size w w'
theorem TkRow.none (B : Nat) (w : World) : TkRow B w (.slice none 0 0) [] := World.ownsRow_nil w B 32 4
set_option maxHeartbeats 8000000 in
set_option maxRecDepth 100000 in
theorem lex_any (s : ByteArray) (hm : s.size ≤ 4194304) (w : World) (hw : EscW w) : Calls Tryz.prog 14 #[.string s] w (LexR s w) := by
  have hpos : 0 < w.heap.size := hw.pos
  have HE := Lib.hid hw
  clear hw
  by_cases hbig : 20000 < s.size
  · have db : decide ((20000 : Int) < (s.size : Int)) = true := by simp; omega
    have hR : lexM s = ([], 0, 9) := by unfold lexM; rw [if_pos hbig]
    unfold LexR
    rw [hR]
    go_enter Tryz.func14, Tryz.ntmps14
    go_wp2
    exact bodyPost_ret (v := .tuple #[.slice none 0 0, .int .i64 0, .int .i64 9]) (by simp [results, Tryz.results14, go_sem]) rfl ⟨_, rfl, TkRow.none _ _, Below.refl _ _⟩
  have db : decide ((20000 : Int) < (s.size : Int)) = false := by simp; omega
  obtain ⟨R, hR⟩ : ∃ R, lxM s (skM s.data.toList) [] = R := ⟨_, rfl⟩
  have hL : lexM s = R := by unfold lexM; rw [if_neg hbig, hR]
  unfold LexR
  rw [hL]
  clear hL
  have hsk0 := skM_le _ s.data.toList rfl
  rw [len_list] at hsk0
  have HK0 := Lib.hid (fun W => skip_any s hm 0 (Nat.zero_le _) W)
  rw [List.drop_zero, Nat.zero_add] at HK0
  obtain ⟨z, hz, hzc⟩ := info34
  obtain ⟨i0, hi, hz0, hz1, hz2⟩ := info_parts hz
  have HI := Lib.hid hi
  have HZ0 := Lib.hid hz0
  have HZ1 := Lib.hid hz1
  have HZ2 := Lib.hid hz2
  have HZC := Lib.hid hzc
  clear hi hz0 hz1 hz2 hzc hz
  go_enter Tryz.func14, Tryz.ntmps14
  go_wp2_with (go_at_call 20; refine (HK0.out _).mono ?_; rintro e w1 ⟨rfl, rfl⟩)
  go_loopw [5, 6] (fun v i wr => ∃ (k : Nat) (acc : List (Tk × Nat)), i = .int .i64 k ∧ k ≤ s.size ∧ lxM s k acc = R ∧ acc.length ≤ 6000 ∧ Below w.heap.size w wr ∧ TkRow w.heap.size wr v acc) (fun _ i _ => s.size - (intOf i).toNat)
  case atStart => exact ⟨_, [], rfl, hsk0, hR, by simp, Below.refl _ _, TkRow.none _ _⟩
  case round =>
    obtain ⟨k, acc, rfl, hk, hT, hacc, hb, hrow⟩ := hrel
    have hbs := hb.size
    have HB := Lib.hid hb
    have HROW := Lib.hid hrow
    have HS := Lib.hid (lxM_step s k acc)
    rw [hT] at HS
    obtain ⟨ao, cap, rfl⟩ := hrow.shape
    clear hb hrow hT
    by_cases hlt : k < s.size
    · have hki : (k : Int) < (s.size : Int) := by omega
      have hle := firstT_le (s.extract k s.size)
      rw [sfx_size] at hle
      have HF := Lib.hid (fun W hW => first_any (s.extract k s.size) (by rw [sfx_size]; omega) W hW)
      have hQ : R = (if (firstT (s.extract k s.size)).2 = 0 then ([], k, 10)
        else if acc.length = 6000 then ([], k, 9)
        else lxM s (k + (firstT (s.extract k s.size)).2 + skM (s.data.toList.drop (k + (firstT (s.extract k s.size)).2))) (acc ++ [((firstT (s.extract k s.size)).1, k)])) := by
        rw [HS.out, if_neg (by omega)]
      clear HS
      generalize firstT (s.extract k s.size) = T at *
      obtain ⟨⟨tk, ts, tn⟩, m⟩ := T
      have HF2 : RowKit.Hid (∀ W, EscW W → Calls Tryz.prog 18 #[.string (s.extract k s.size)] W fun e w' => e = .returned (.tuple #[.agg #[.int .i64 tk, .string ts, .int .i64 tn, .int .i64 0], .int .i64 (m : Nat)]) ∧ Below W.heap.size W w') := HF
      clear HF
      have HEW : RowKit.Hid (EscW wr) := Lib.hid (HE.out.below HB.out hpos)
      simp only [] at hQ hle
      by_cases hm0 : m = 0
      · rw [if_pos hm0] at hQ
        subst hm0
        subst hQ
        go_wp2_with (go_at_call 18; refine (HF2.out _ HEW.out).mono ?_; rintro e w1 ⟨rfl, hb1⟩; have HB1 := Lib.hid hb1; have HZ3 := hb1.size; clear hb1)
        have hB1 := HB.out.trans (HB1.out.mono HB.out.size)
        exact bodyPost_ret (v := .tuple #[.slice none 0 0, .int .i64 (k : Nat), .int .i64 10]) (by simp [results, Tryz.results14, go_sem]) rfl ⟨_, rfl, TkRow.none _ _, hB1.alloc hB1.size _⟩
      · rw [if_neg hm0] at hQ
        have nm0 : ((m : Int) == 0) = false := by rw [beq_eq_false_iff_ne]; omega
        by_cases h6 : acc.length = 6000
        · rw [if_pos h6] at hQ
          have e6 : ((acc.length : Int) == 6000) = true := by rw [h6]; rfl
          subst hQ
          go_wp2_with (go_at_call 18; refine (HF2.out _ HEW.out).mono ?_; rintro e w1 ⟨rfl, hb1⟩; have HB1 := Lib.hid hb1; have HZ3 := hb1.size; clear hb1)
          have hB1 := HB.out.trans (HB1.out.mono HB.out.size)
          exact bodyPost_ret (v := .tuple #[.slice none 0 0, .int .i64 (k : Nat), .int .i64 9]) (by simp [results, Tryz.results14, go_sem]) rfl ⟨_, rfl, TkRow.none _ _, hB1.alloc hB1.size _⟩
        · rw [if_neg h6] at hQ
          have e6 : ((acc.length : Int) == 6000) = false := by rw [beq_eq_false_iff_ne]; omega
          have HKN := Lib.hid (fun W => skip_any s hm (k + m) (by omega) W)
          have hskn := skM_le _ (s.data.toList.drop (k + m)) rfl
          rw [List.length_drop, len_list] at hskn
          generalize skM (s.data.toList.drop (k + m)) = S at *
          have HQ := Lib.hid hQ
          clear hQ
          go_wp2_with (first
            | (go_at_call 18; refine (HF2.out _ HEW.out).mono ?_; rintro e w1 ⟨rfl, hb1⟩; have HB1 := Lib.hid hb1; have HR1 := Lib.hid (HROW.out.below hb1); have HZ3 := hb1.size; clear hb1)
            | (go_at_call 20; refine (HKN.out _).mono ?_; rintro e w5 ⟨rfl, rfl⟩)
            | (at_builtin; refine (fun h : True → _ => h trivial) ?_))
          intro _
          refine wpList_append_own_at _ rfl _ _ 22 rfl w.heap.size 32 i0 z 4 40 Tryz.underlying22 HI.out HZ0.out HZ1.out HZ2.out HZC.out (by decide) _ acc.length (cellsT acc) rfl (HR1.out.below ((below_alloc w1 _).alloc (by simp) _)) ⟨w1.heap.size + 1, 0, none⟩ 1 1 [.int .i64 tk, .string ts, .int .i64 tn, .int .i64 (k : Nat)] rfl (by simp) (fun j u hu => (by
            rw [add_zero_none]
            have hN := hb_new (w1.alloc (.cells #[.int .i64 tk, .string ts, .int .i64 tn, .int .i64 (k : Nat)] 32)) (.cells #[.int .i64 tk, .string ts, .int .i64 tn, .int .i64 (k : Nat)] 32)
            rw [World.size_alloc] at hN
            match j, hu with
            | 0, hu => cases hu; exact hb_at hN 0 rfl
            | 1, hu => cases hu; exact hb_at hN 1 rfl
            | 2, hu => cases hu; exact hb_at hN 2 rfl
            | 3, hu => cases hu; exact hb_at hN 3 rfl
            | j + 4, hu => simp at hu)) (by simp [Value.oneCell']) (by unfold maxLen; omega) (by omega) (by have := HZ3; simp; omega) ?_
          intro v4 w4 ho4 hg4 _ hblk4
          have HO4 := Lib.hid ho4
          have HG4 := Lib.hid hg4
          clear ho4 hg4 hblk4
          go_wp2_with (go_at_call 20; refine (HKN.out _).mono ?_; rintro e w5 ⟨rfl, rfl⟩)
          have hB1 := HB.out.trans (HB1.out.mono HB.out.size)
          have hB2 := hB1.alloc hB1.size (.cells #[.int .i64 tk, .string ts, .int .i64 tn, .int .i64 (k : Nat)] 32)
          have hB3 := hB2.alloc hB2.size (.cells #[.int .i64 tk, .string ts, .int .i64 tn, .int .i64 (k : Nat)] 32)
          have hB4 := hB3.grown HG4.out hB3.size (fun g hg => by have := (HR1.out.lt g hg).1; omega)
          refine ⟨⟨k + m + S, acc ++ [(⟨tk, ts, tn⟩, k)], rfl, by omega, HQ.out.symm, by simp; omega, hB4, ?_⟩, by simp [intOf]; omega⟩
          unfold TkRow
          rw [cellsT_snoc]
          simpa using HO4.out
    · have hki : ¬ (k : Int) < (s.size : Int) := by omega
      have hRn : R = (acc, 0, 0) := by rw [HS.out, if_pos (by omega)]
      subst hRn
      go_wp2
      exact bodyPost_ret (v := .tuple #[.slice ao acc.length cap, .int .i64 0, .int .i64 0]) (by simp [results, Tryz.results14, go_sem]) rfl ⟨_, rfl, HROW.out, HB.out⟩
end Go.Proofs.YtpedmkdpbdhenaaGreatDoor
