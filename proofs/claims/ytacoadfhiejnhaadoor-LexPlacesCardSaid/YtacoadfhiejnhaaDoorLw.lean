/- LexPlaces, walked. -/
import Derived.Test.YtacoadfhiejnhaaDoorLv
namespace Go.Proofs.YtacoadfhiejnhaaDoor
open Go.RowKit
set_option linter.unusedSimpArgs false
set_option linter.unusedVariables false
theorem cut_list (s : ByteArray) (a e : Nat) : s.extract a e = ofL ((s.data.toList.drop a).take (e - a)) := by
  apply toList_inj
  rw [ByteArray.toList_eq, ByteArray.data_extract, Array.toList_extract, List.extract_eq_take_drop, ByteArray.toList_eq]
/-- Each token stands at its place, as it is read alone. -/
theorem lex_place {s : ByteArray} (h : (lexM s).2.2 = 0) (j : Nat) (t : Tk) (a : Nat) (hj : (lexM s).1[j]? = some (t, a)) :
    ∃ e, a < e ∧ e ≤ s.size ∧ lexM (s.extract a e) = ([(t, 0)], 0, 0) ∧ (∀ u b, (lexM s).1[j + 1]? = some (u, b) → b = e) ∧ ((lexM s).1[j + 1]? = none → e = s.size) := by
  obtain ⟨hsz, hlx, _, _⟩ := lexM_lexed h
  have hsk := skM_le _ s.data.toList rfl
  rw [len_list] at hsk
  obtain ⟨n, m, e1, e2, e3, e4, e5, e6, e7⟩ := hlx.place j t a hj
  rw [List.drop_drop] at e2 e4
  rw [List.length_drop, len_list] at e5 e7
  have ha : skM s.data.toList + (a - skM s.data.toList) = a := by omega
  have ha' : skM s.data.toList + (a - skM s.data.toList + n) = a + n := by omega
  rw [ha] at e2
  rw [ha'] at e4
  refine ⟨a + n + m, by omega, by omega, ?_, e6, fun hn => by have := e7 hn; omega⟩
  rw [cut_list, show a + n + m - a = n + m from by omega]
  exact lex_piece e2 e3 (by rw [List.drop_drop]; exact e4) (by omega)
theorem lex_start {s : ByteArray} (h : (lexM s).2.2 = 0) : (∀ t a, (lexM s).1[0]? = some (t, a) → a ≤ s.size ∧ lexM (s.extract 0 a) = ([], 0, 0)) ∧ ((lexM s).1 = [] → lexM s = ([], 0, 0)) := by
  obtain ⟨hsz, hlx, _, hz⟩ := lexM_lexed h
  have hsk := skM_le _ s.data.toList rfl
  refine ⟨fun t a ha => ?_, fun he => ?_⟩
  · have := (Lexed.head hlx).2 t a ha
    subst this
    rw [len_list] at hsk
    refine ⟨hsk, ?_⟩
    rw [cut_list, List.drop_zero, Nat.sub_zero]
    exact lex_blanks (by rw [len_list]; exact hsz)
  · cases e : lexM s with
    | mk x y =>
      obtain ⟨y1, y2⟩ := y
      rw [e] at he h hz
      simp only [] at he h hz
      rw [he, h, hz]
theorem lexR_nil (s : ByteArray) (hm : s.size ≤ 4194304) (h : lexM s = ([], 0, 0)) (W : World) (hW : EscW W) : Calls Tryd.prog 10 #[.string s] W fun e w' => ∃ v, e = .returned (.tuple #[v, .int .i64 0, .int .i64 0]) ∧ TkRow W.heap.size w' v [] ∧ Below W.heap.size W w' := by
  have h1 := lex_any s hm W hW
  unfold LexR at h1
  rw [h] at h1
  exact h1
theorem tks_lit (W : World) (t : Tk) (a : Int) : TksAt (W.alloc (.cells #[.int .i64 t.k, .string t.s, .int .i64 t.n, .int .i64 a] 34)) (.slice (some ⟨W.heap.size, 0, none⟩) 1 1) [(t, a)] := by
  refine ⟨some ⟨W.heap.size, 0, none⟩, 1, rfl, fun i x hx => ⟨W.heap.size, 0, rfl, ?_⟩⟩
  cases i with
  | succ i => cases hx
  | zero =>
    cases hx
    have k := hb_new W (.cells #[.int .i64 t.k, .string t.s, .int .i64 t.n, .int .i64 a] 34)
    exact ⟨hb_at k 0 rfl, hb_at k 1 rfl, hb_at k 2 rfl, hb_at k 3 rfl⟩
set_option maxHeartbeats 8000000 in
set_option maxRecDepth 100000 in
theorem places_any (s : ByteArray) (w : World) (hw : LxW w) : Calls Tryd.prog 5 #[.string s] w fun e w' => e = .returned (.bool true) ∧ Below w.heap.size w w' := by
  have HALV := Lib.hid (fun W hW => alive_any W hW)
  have HW := Lib.hid hw
  clear hw
  by_cases hbig : 3000 < s.size
  · have db : decide ((3000 : Int) < (s.size : Int)) = true := by simp; omega
    go_enter Tryd.func5, Tryd.ntmps5
    go_wp2_with (go_at_call 7; refine (HALV.out _ HW.out).mono ?_; rintro e w1 ⟨rfl, hb⟩)
    go_ret
    exact ⟨rfl, hb⟩
  have db : decide ((3000 : Int) < (s.size : Int)) = false := by simp; omega
  have HLX := Lib.hid (lex_any s (by omega) w HW.out.1)
  obtain ⟨E, hE⟩ : ∃ E, (lexM s).2.2 = E := ⟨_, rfl⟩
  by_cases hE0 : E = 0
  rotate_left
  · have hEi : ((E : Int) != 0) = true := by simp; omega
    have HE := Lib.hid hE
    clear hE hE0
    go_enter Tryd.func5, Tryd.ntmps5
    go_wp2_with (first
      | (go_at_call 10; refine HLX.out.mono ?_; rintro e w1 ⟨v, rfl, hv, hb1⟩; rw [HE.out]; have HB1 := Lib.hid hb1; clear hv hb1; generalize (lexM s).2.1 = A)
      | (go_at_call 9; refine (no_any _ _).mono ?_; rintro e w1 ⟨rfl, rfl⟩)
      | (go_at_call 7; refine (HALV.out _ (HW.out.below HB1.out)).mono ?_; rintro e w3 ⟨rfl, hb3⟩))
    go_ret
    exact ⟨rfl, HB1.out.trans (hb3.mono HB1.out.size)⟩
  subst hE0
  have HPL := Lib.hid (fun j t a hj => lex_place hE j t a hj)
  obtain ⟨hst, hst2⟩ := lex_start hE
  have HST := Lib.hid hst
  have HST2 := Lib.hid hst2
  obtain ⟨hsz, hlx, hl6, hz⟩ := lexM_lexed hE
  have hLR : LexR s w = fun e w' => ∃ v, e = .returned (.tuple #[v, .int .i64 0, .int .i64 0]) ∧ TkRow w.heap.size w' v (lexM s).1 ∧ Below w.heap.size w w' := by
    unfold LexR
    rw [hE, hz]
    rfl
  rw [hLR] at HLX
  generalize hLL : (lexM s).1 = L at *
  have HLL := Lib.hid hLL
  clear hE hst hst2 hlx hz hLR hLL
  go_enter Tryd.func5, Tryd.ntmps5
  go_wp2_with (first
    | (go_at_call 10; refine HLX.out.mono ?_; rintro e w1 ⟨v, rfl, hv, hb1⟩; have hlen := pl_len L; have hv2 := hv.tks; obtain ⟨q, c, hsh, hq⟩ := hv2; rw [hlen] at hsh; subst hsh; have HQ := Lib.hid hq; have HB1 := Lib.hid hb1; clear hv hb1 hlen hq)
    | (go_at_call 9; refine (no_any _ _).mono ?_; rintro e w1 ⟨rfl, rfl⟩))
  go_loopw [32] (fun i wr => ∃ k : Nat, i = .int .i64 k ∧ k ≤ L.length ∧ Below w1.heap.size w1 wr) (fun i _ => L.length - (intOf i).toNat)
  case atStart => exact ⟨0, rfl, Nat.zero_le _, Below.refl _ _⟩
  case round =>
    obtain ⟨k, rfl, hk, hB⟩ := hrel
    have HB := Lib.hid hB
    have HBW := Lib.hid (HB1.out.trans (hB.mono HB1.out.size))
    have hwz := hB.size
    clear hB
    by_cases hlt : k < L.length
    · have hki : (k : Int) < (L.length : Int) := by omega
      have hx := List.getElem?_eq_getElem hlt
      generalize L[k] = x at *
      obtain ⟨⟨tk, ts, tn⟩, a⟩ := x
      obtain ⟨e, he1, he2, he3, he4, he5⟩ := HPL.out k ⟨tk, ts, tn⟩ a hx
      have hpx : (pl L)[k]? = some (⟨tk, ts, tn⟩, (a : Int)) := by unfold pl; rw [List.getElem?_map, hx]; rfl
      obtain ⟨g, o, hqe, ha⟩ := HQ.out k _ hpx
      subst hqe
      obtain ⟨x0, x1, x2, x3⟩ := ha.below HB.out
      simp only [] at x0 x1 x2 x3
      have HL1 := Lib.hid (fun W hW => lex_any (s.extract a e) (by rw [ByteArray.size_extract]; omega) W hW)
      have hLR1 : ∀ W, LexR (s.extract a e) W = fun e w' => ∃ v, e = .returned (.tuple #[v, .int .i64 0, .int .i64 0]) ∧ TkRow W.heap.size w' v [(⟨tk, ts, tn⟩, 0)] ∧ Below W.heap.size W w' := by
        intro W
        unfold LexR
        rw [he3]
        rfl
      have HL2 := Lib.hid (fun W hW => by have h := HL1.out W hW; rw [hLR1 W] at h; exact h)
      have hai : ((a : Int) < 0) = False := by simp
      have d1 : decide ((a : Int) < 0) = false := by simp
      have d2 : decide ((e : Int) ≤ (a : Int)) = false := by simp; omega
      have d3 : decide ((s.size : Int) < (e : Int)) = false := by simp; omega
      have ei1 : (a : Int) ≤ (e : Int) := by omega
      have ei2 : (e : Int) ≤ (s.size : Int) := by omega
      have ei0 : (0 : Int) ≤ (a : Int) := by omega
      clear HL1 hLR1 he3 hx hpx ha hai
      have HSM := Lib.hid (fun va vb W (ha : TksAt W va (pl [(⟨tk, ts, tn⟩, 0)])) (hb : TksAt W vb [(⟨tk, ts, tn⟩, (a : Int))]) => same_any va vb _ _ W ha hb (by unfold maxLen pl; simp))
      rw [sameB_yes (by unfold pl; rfl)] at HSM
      by_cases hnx : k + 1 < L.length
      · have hni : decide ((k : Int) + 1 < (L.length : Int)) = true := by simp; omega
        have hy := List.getElem?_eq_getElem hnx
        generalize L[k + 1] = y at *
        obtain ⟨⟨uk, us, un⟩, b⟩ := y
        obtain rfl := he4 _ _ hy
        have hpy : (pl L)[k + 1]? = some (⟨uk, us, un⟩, (b : Int)) := by unfold pl; rw [List.getElem?_map, hy]; rfl
        obtain ⟨g2, o2, hqe2, ha2⟩ := HQ.out (k + 1) _ hpy
        cases hqe2
        obtain ⟨y0, y1, y2, y3⟩ := ha2.below HB.out
        simp only [] at y0 y1 y2 y3
        clear hy hpy ha2 he4 he5
        have hgl : g < wr.heap.size := block_lt_of_cell x0
        go_wp2_with fail
        go_at_call 10
        with_reducible refine (HL2.out _ ((HW.out.below HBW.out).below (below_alloc wr _)).esc).mono ?_
        rintro e3 w3 ⟨vb, rfl, hvb, hb3⟩
        obtain ⟨q3, c3, hs3, hq3⟩ := hvb.tks
        obtain ⟨g3, o3, rfl, ha3⟩ := hq3 0 (⟨tk, ts, tn⟩, (0 : Int)) rfl
        rw [show (pl [((⟨tk, ts, tn⟩ : Tk), 0)]).length = 1 from rfl] at hs3
        subst hs3
        have HV3 := Lib.hid hvb.tks
        have HA3 := Lib.hid ha3
        have k3 := hb_below (hb_new wr (.cells #[.int .i64 tk, .string ts, .int .i64 tn, .int .i64 (a : Int)] 34)) hb3 (by simp)
        have r0 := hb_at k3 0 rfl
        have r1 := hb_at k3 1 rfl
        have r2 := hb_at k3 2 rfl
        have r3 := hb_at k3 3 rfl
        have H3 := Lib.hid ((HB.out.alloc HB.out.size _).trans (hb3.mono (HB.out.alloc HB.out.size _).size))
        clear hvb hb3 hq3 k3 ha3
        go_wp2_with (go_at_call 9; with_reducible refine (no_any _ _).mono ?_; rintro e5 w5 ⟨rfl, rfl⟩)
        go_at_call 11
        with_reducible refine (HSM.out _ _ _ (HV3.out.below (below_alloc w3 _)) (tks_lit w3 ⟨tk, ts, tn⟩ (a : Int))).mono ?_
        rintro e4 w4 ⟨rfl, hb4⟩
        obtain ⟨z0, z1, z2, z3⟩ := (HA3.out.below (below_alloc w3 _)).below hb4
        rw [Nat.zero_mul, Nat.add_zero] at z0 z1 z2 z3
        have H4 := Lib.hid ((H3.out.alloc H3.out.size _).trans (hb4.mono (H3.out.alloc H3.out.size _).size))
        clear hb4
        go_wp2_with fail
        exact ⟨⟨k + 1, rfl, by omega, H4.out⟩, by simp [intOf]; omega⟩
      · have hni : decide ((k : Int) + 1 < (L.length : Int)) = false := by simp; omega
        have he6 := he5 (List.getElem?_eq_none (by omega))
        subst he6
        clear he4 he5
        have hgl : g < wr.heap.size := block_lt_of_cell x0
        go_wp2_with fail
        go_at_call 10
        with_reducible refine (HL2.out _ ((HW.out.below HBW.out).below (below_alloc wr _)).esc).mono ?_
        rintro e3 w3 ⟨vb, rfl, hvb, hb3⟩
        obtain ⟨q3, c3, hs3, hq3⟩ := hvb.tks
        obtain ⟨g3, o3, rfl, ha3⟩ := hq3 0 (⟨tk, ts, tn⟩, (0 : Int)) rfl
        rw [show (pl [((⟨tk, ts, tn⟩ : Tk), 0)]).length = 1 from rfl] at hs3
        subst hs3
        have HV3 := Lib.hid hvb.tks
        have HA3 := Lib.hid ha3
        have k3 := hb_below (hb_new wr (.cells #[.int .i64 tk, .string ts, .int .i64 tn, .int .i64 (a : Int)] 34)) hb3 (by simp)
        have r0 := hb_at k3 0 rfl
        have r1 := hb_at k3 1 rfl
        have r2 := hb_at k3 2 rfl
        have r3 := hb_at k3 3 rfl
        have H3 := Lib.hid ((HB.out.alloc HB.out.size _).trans (hb3.mono (HB.out.alloc HB.out.size _).size))
        clear hvb hb3 hq3 k3 ha3
        go_wp2_with (go_at_call 9; with_reducible refine (no_any _ _).mono ?_; rintro e5 w5 ⟨rfl, rfl⟩)
        go_at_call 11
        with_reducible refine (HSM.out _ _ _ (HV3.out.below (below_alloc w3 _)) (tks_lit w3 ⟨tk, ts, tn⟩ (a : Int))).mono ?_
        rintro e4 w4 ⟨rfl, hb4⟩
        obtain ⟨z0, z1, z2, z3⟩ := (HA3.out.below (below_alloc w3 _)).below hb4
        rw [Nat.zero_mul, Nat.add_zero] at z0 z1 z2 z3
        have H4 := Lib.hid ((H3.out.alloc H3.out.size _).trans (hb4.mono (H3.out.alloc H3.out.size _).size))
        clear hb4
        go_wp2_with fail
        exact ⟨⟨k + 1, rfl, by omega, H4.out⟩, by simp [intOf]; omega⟩
    · have hki : ¬ (k : Int) < (L.length : Int) := by omega
      rcases Nat.eq_zero_or_pos L.length with hz0 | hpos
      · obtain rfl : L = [] := List.eq_nil_of_length_eq_zero hz0
        have hn := HST2.out rfl
        have hle : ((s.size : Nat) : Int) ≤ (s.size : Int) := Int.le_refl _
        have HL2 := Lib.hid (fun W hW => lexR_nil s (by omega) hn W hW)
        clear hn
        go_wp2_with fail
        go_at_call 10
        refine (HL2.out _ (HW.out.below HBW.out).esc).mono ?_
        rintro e3 w3 ⟨vb, rfl, hvb, hb3⟩
        obtain ⟨q3, c3, rfl⟩ := hvb.shape
        have H3 := Lib.hid (HBW.out.trans (hb3.mono HBW.out.size))
        clear hvb hb3
        go_wp2_with (first
          | (go_at_call 9; with_reducible refine (no_any _ _).mono ?_; rintro e5 w5 ⟨rfl, rfl⟩)
          | (go_at_call 7; with_reducible refine (HALV.out _ (HW.out.below H3.out)).mono ?_; rintro e6 w6 ⟨rfl, hb6⟩))
        go_ret
        exact ⟨rfl, H3.out.trans (hb6.mono H3.out.size)⟩
      · have hx := List.getElem?_eq_getElem hpos
        generalize L[0] = x at *
        obtain ⟨⟨tk, ts, tn⟩, a⟩ := x
        obtain ⟨hale, hn⟩ := HST.out _ a hx
        have hpx : (pl L)[0]? = some (⟨tk, ts, tn⟩, (a : Int)) := by unfold pl; rw [List.getElem?_map, hx]; rfl
        obtain ⟨g, o, hqe, ha⟩ := HQ.out 0 _ hpx
        subst hqe
        obtain ⟨x0, x1, x2, x3⟩ := ha.below HB.out
        rw [Nat.zero_mul, Nat.add_zero] at x0 x1 x2 x3
        simp only [] at x0 x1 x2 x3
        have hali : (a : Int) ≤ (s.size : Int) := by omega
        have HL2 := Lib.hid (fun W hW => lexR_nil (s.extract 0 a) (by rw [ByteArray.size_extract]; omega) hn W hW)
        clear hn hx hpx ha
        go_wp2_with fail
        go_at_call 10
        with_reducible refine (HL2.out _ (HW.out.below HBW.out).esc).mono ?_
        rintro e3 w3 ⟨vb, rfl, hvb, hb3⟩
        obtain ⟨q3, c3, rfl⟩ := hvb.shape
        have H3 := Lib.hid (HBW.out.trans (hb3.mono HBW.out.size))
        clear hvb hb3
        go_wp2_with (first
          | (go_at_call 9; with_reducible refine (no_any _ _).mono ?_; rintro e5 w5 ⟨rfl, rfl⟩)
          | (go_at_call 7; with_reducible refine (HALV.out _ (HW.out.below H3.out)).mono ?_; rintro e6 w6 ⟨rfl, hb6⟩))
        go_ret
        exact ⟨rfl, H3.out.trans (hb6.mono H3.out.size)⟩
end Go.Proofs.YtacoadfhiejnhaaDoor
