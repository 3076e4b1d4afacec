
/- Tokens that Lex tells, in memory; few; alive. -/
import Derived.Test.YtpedmkdpbdhenaaGreatDoorLs
namespace Go.Proofs.YtpedmkdpbdhenaaGreatDoor
open Go.RowKit
set_option linter.unusedSimpArgs false
set_option linter.unusedVariables false
/-- Tokens with their places as ints. -/
def pl (l : List (Tk × Nat)) : List (Tk × Int) := l.map fun x => (x.1, (x.2 : Int))
theorem pl_len (l : List (Tk × Nat)) : (pl l).length = l.length := by unfold pl; rw [List.length_map]
theorem pl_fst (l : List (Tk × Nat)) : (pl l).map Prod.fst = l.map Prod.fst := by unfold pl; rw [List.map_map]; rfl
theorem cellsT_at : ∀ (l : List (Tk × Nat)) (i : Nat) (x : Tk × Nat), l[i]? = some x → (cellsT l)[i * 4]? = some (.int .i64 x.1.k) ∧ (cellsT l)[i * 4 + 1]? = some (.string x.1.s) ∧ (cellsT l)[i * 4 + 2]? = some (.int .i64 x.1.n) ∧ (cellsT l)[i * 4 + 3]? = some (.int .i64 (x.2 : Nat)) := by
  intro l
  induction l with
  | nil => intro i x h; cases h
  | cons y l ih =>
    intro i x h
    have hc : cellsT (y :: l) = .int .i64 y.1.k :: .string y.1.s :: .int .i64 y.1.n :: .int .i64 (y.2 : Nat) :: cellsT l := by unfold cellsT; rw [List.flatMap_cons]; rfl
    rw [hc]
    cases i with
    | zero => cases h; exact ⟨rfl, rfl, rfl, rfl⟩
    | succ i =>
      have h' : l[i]? = some x := h
      obtain ⟨h0, h1, h2, h3⟩ := ih i x h'
      have e0 : (i + 1) * 4 = i * 4 + 1 + 1 + 1 + 1 := by omega
      have e1 : (i + 1) * 4 + 1 = i * 4 + 1 + 1 + 1 + 1 + 1 := by omega
      have e2 : (i + 1) * 4 + 2 = i * 4 + 2 + 1 + 1 + 1 + 1 := by omega
      have e3 : (i + 1) * 4 + 3 = i * 4 + 3 + 1 + 1 + 1 + 1 := by omega
      rw [e3, e2, e1, e0]
      simp only [List.getElem?_cons_succ]
      exact ⟨h0, h1, h2, h3⟩
theorem TkRow.tks {B : Nat} {w : World} {v : Value} {l : List (Tk × Nat)} (h : TkRow B w v l) : TksAt w v (pl l) := by
  rcases h.2 with ⟨hv, h0⟩ | ⟨g, cap, cur, hv, hb, hg, r⟩
  · have := List.eq_nil_of_length_eq_zero h0
    subst this
    exact ⟨Option.none, 0, hv, fun i x hx => by cases hx⟩
  · subst hv
    refine ⟨some ⟨g, 0, Option.none⟩, cap, by rw [pl_len], fun i x hx => ⟨g, 0, rfl, ?_⟩⟩
    unfold pl at hx
    rw [List.getElem?_map] at hx
    cases hy : l[i]? with
    | none => rw [hy] at hx; cases hx
    | some y =>
      rw [hy] at hx
      cases hx
      obtain ⟨h0, h1, h2, h3⟩ := cellsT_at l i y hy
      have hc := World.ownsRow.cells h (g := g) rfl
      refine ⟨?_, ?_, ?_, ?_⟩
      · have := hc _ _ h0; rw [add_zero_none] at this; rw [Nat.zero_add]; exact this
      · have := hc _ _ h1; rw [add_zero_none] at this; rw [Nat.zero_add]; exact this
      · have := hc _ _ h2; rw [add_zero_none] at this; rw [Nat.zero_add]; exact this
      · have := hc _ _ h3; rw [add_zero_none] at this; rw [Nat.zero_add]; exact this
theorem tk0_fits : Fits tk0 := by unfold Fits tk0; simp
theorem int_fits {l : List UInt8} (h : intM l ≠ 0) : -9223372036854775808 ≤ intV l ∧ intV l ≤ 9223372036854775807 := by
  cases hp : Lib.hasPrefix l [45]
  · obtain ⟨e1, e2, e3⟩ := intM_plain hp h
    obtain ⟨m, hm, hs⟩ := intD_dec e2 e3
    have hV : intV l = (m : Int) := by unfold intV; rw [hp, hm]; rfl
    omega
  · obtain ⟨e1, e0, e2, e3⟩ := intM_neg hp h
    obtain ⟨m, hm, hs⟩ := intD_dec e2 e3
    have hV : intV l = -(m : Int) := by unfold intV; rw [hp, hm]; rfl
    omega
theorem nameT_fits (kind : Int) (l : List UInt8) : Fits (nameT kind (ofL l)).1 ∧ (nameT kind (ofL l)).1.s.size ≤ l.length := by
  rw [nameT_ofL]
  split
  · exact ⟨tk0_fits, Nat.zero_le _⟩
  · refine ⟨by unfold Fits; simp, ?_⟩
    show (ofL _).size ≤ _
    rw [ofL_size, List.length_take]; omega
theorem txF_said (L : List UInt8) : ∀ (f i : Nat) (said r : List UInt8) (n : Nat), txF L f i said = some (r, n) → r.length ≤ said.length + (L.length - i) := by
  intro f
  induction f with
  | zero => intro i said r n h; cases h
  | succ f ih =>
    intro i said r n h
    unfold txF at h
    split at h
    · cases h
    · cases hc : L[i]? with
      | none => rw [hc] at h; cases h
      | some c =>
        have hi := (List.getElem?_eq_some_iff.1 hc).1
        rw [hc] at h
        simp only [] at h
        split at h
        · cases h; omega
        · split at h
          · cases h
          · split at h
            · cases hd : L[i + 1]? with
              | none => rw [hd] at h; cases h
              | some d =>
                rw [hd] at h
                simp only [] at h
                split at h
                · have := ih _ _ _ _ h
                  rw [List.length_append, List.length_singleton] at this
                  omega
                · cases h
            · have := ih _ _ _ _ h
              rw [List.length_append, List.length_singleton] at this
              omega
/-- A token that is read says no more bytes than the text has. -/
theorem first_fits (l : List UInt8) : Fits (firstT (ofL l)).1 ∧ (firstT (ofL l)).1.s.size ≤ l.length := by
  have hz : ∀ k, Fits tk0 ∧ tk0.s.size ≤ k := fun k => ⟨tk0_fits, Nat.zero_le _⟩
  cases hc : l[0]? with
  | none => rw [firstT_none hc]; exact hz _
  | some c =>
    rw [firstT_at hc]
    split
    · exact nameT_fits _ _
    · split
      · exact nameT_fits _ _
      · split
        · rw [varT_ofL]
          split
          · exact hz _
          · refine ⟨by unfold Fits; simp, ?_⟩
            show (ofL _).size ≤ _
            rw [ofL_size, List.length_take, List.length_drop]; omega
        · split
          · unfold textT
            rw [ofL_list]
            cases h : txM l 1 [] with
            | none => exact hz _
            | some x =>
              obtain ⟨r, n⟩ := x
              refine ⟨by unfold Fits txR; simp, ?_⟩
              show (ofL r).size ≤ _
              rw [ofL_size]
              have := txF_said _ _ _ _ _ _ h
              simp at this
              omega
          · split
            · rw [numT_ofL]
              split
              · refine ⟨by unfold Fits; simp, ?_⟩
                show (ofL _).size ≤ _
                rw [ofL_size, List.length_take]; omega
              · split
                · exact hz _
                · rename_i hi
                  exact ⟨int_fits hi, Nat.zero_le _⟩
            · rw [signT_ofL]
              split
              · refine ⟨by unfold Fits; simp, ?_⟩
                show (ofL _).size ≤ _
                rw [ofL_size, List.length_take]; omega
              · split
                · refine ⟨by unfold Fits; simp, ?_⟩
                  show (ofL _).size ≤ _
                  rw [ofL_size, List.length_take]; omega
                · exact hz _
theorem Lexed.fits {l : List UInt8} {i : Nat} {r : List (Tk × Nat)} (h : Lexed l i r) : ∀ x ∈ r, Fits x.1 ∧ x.1.s.size ≤ l.length := by
  induction h with
  | nil i => intro x hx; cases hx
  | cons l i n m t r h h0 hm hr ih =>
    intro x hx
    cases hx with
    | head =>
      have := first_fits l
      rw [h] at this
      exact this
    | tail _ hx =>
      have := ih x hx
      rw [List.length_drop] at this
      exact ⟨this.1, by omega⟩
/-- What Lex tells is such that it can be told, and may be. -/
theorem lexM_mod {s : ByteArray} (h : (lexM s).2.2 = 0) : Mod (pl (lexM s).1) ∧ AllR (pl (lexM s).1) := by
  obtain ⟨h1, h2, h3, _⟩ := lexM_lexed h
  have hf := h2.fits
  have hr := h2.right
  have hmem : ∀ x ∈ pl (lexM s).1, ∃ y ∈ (lexM s).1, x.1 = y.1 := fun x hx => by
    unfold pl at hx
    obtain ⟨y, hy, rfl⟩ := List.mem_map.1 hx
    exact ⟨y, hy, rfl⟩
  refine ⟨⟨by rw [pl_len]; omega, fun x hx => ?_⟩, fun x hx => ?_⟩
  · obtain ⟨y, hy, e⟩ := hmem x hx
    have := hf y hy
    rw [List.length_drop, len_list] at this
    rw [e]
    exact ⟨by omega, this.1⟩
  · obtain ⟨y, hy, e⟩ := hmem x hx
    rw [e]
    exact hr y hy
theorem TellR.yes {l : List (Tk × Int)} {w w' : World} {e : Ending} (h : TellR l w e w') (hA : AllR l) : e = .returned (.tuple #[.string (ofL (joinT (l.map Prod.fst))), .int .i64 0]) ∧ Below w.heap.size w w' := by
  obtain ⟨⟨_, h⟩ | ⟨h, _⟩, hb⟩ := h
  · exact ⟨h, hb⟩
  · exact absurd hA h
theorem TellR.no {l : List (Tk × Int)} {w w' : World} {e : Ending} (h : TellR l w e w') (hA : ¬ AllR l) : e = .returned (.tuple #[.string ⟨#[]⟩, .int .i64 2]) ∧ Below w.heap.size w w' := by
  obtain ⟨⟨h, _⟩ | ⟨_, h⟩, hb⟩ := h
  · exact absurd h hA
  · exact ⟨h, hb⟩
/-- The chapter's example. -/
abbrev exS : ByteArray := ⟨#[108, 101, 116, 32, 120, 61, 45, 49, 32, 45, 45, 32, 97]⟩
def exL : List (Tk × Nat) := [(⟨7, ⟨#[108, 101, 116]⟩, 0⟩, 0), (⟨1, ⟨#[120]⟩, 0⟩, 4), (⟨8, ⟨#[61]⟩, 0⟩, 5), (⟨4, ⟨#[]⟩, -1⟩, 6)]
set_option maxRecDepth 100000 in
theorem ex_lex : lexM exS = (exL, 0, 0) := by kernel_rfl
theorem ex_told : joinT ((pl exL).map Prod.fst) = [108, 101, 116, 32, 120, 32, 61, 32, 45, 49] := by
  have h1 : Lib.itoa (-1) = [45, 49] := by
    have := Lib.itoa_neg 1 (Nat.le_refl _)
    rw [Lib.decDigits_one (by omega)] at this
    exact this
  rw [pl_fst]
  show tellT ⟨7, ⟨#[108, 101, 116]⟩, 0⟩ ++ 32 :: (tellT ⟨1, ⟨#[120]⟩, 0⟩ ++ 32 :: (tellT ⟨8, ⟨#[61]⟩, 0⟩ ++ 32 :: Lib.itoa (-1))) = _
  rw [h1]
  rfl
set_option maxHeartbeats 8000000 in
set_option maxRecDepth 100000 in
theorem alive_any (w : World) (hw : LxW w) : Calls Tryz.prog 5 #[] w fun e w' => e = .returned (.bool true) ∧ Below w.heap.size w w' := by
  have HW := Lib.hid hw
  have HL := Lib.hid (lex_any exS (by decide) w hw.1)
  have hmod := lexM_mod (s := exS) (by rw [ex_lex])
  rw [ex_lex] at hmod
  have HM := Lib.hid hmod
  have HK := Lib.hid (fun W => keyword_any ⟨#[108, 101, 116]⟩ W)
  have hk : keyB ⟨#[108, 101, 116]⟩ = true := by decide
  rw [hk] at HK
  clear hw hmod hk
  go_enter Tryz.func5, Tryz.ntmps5
  go_wp2_with (go_at_call 14; refine HL.out.mono ?_; rintro e w1 ⟨v, rfl, hv, hb1⟩; rw [ex_lex] at hv ⊢; have hv2 := hv.tks; obtain ⟨q, c, rfl, hq⟩ := hv2; have HT := Lib.hid (⟨q, c, rfl, hq⟩ : TksAt w1 (.slice q (pl exL).length c) (pl exL)); have HB1 := Lib.hid hb1; obtain ⟨g, o, rfl, ha⟩ := hq 3 (⟨4, ⟨#[]⟩, -1⟩, 6) rfl; have HA := Lib.hid ha; clear hq hv ha hb1)
  have hlen : (pl exL).length = 4 := rfl
  rw [hlen] at HT ⊢
  have HTL := Lib.hid (tellAll_any (.slice (some ⟨g, o, none⟩) 4 c) (pl exL) w1 HT.out HM.out.1 (HW.out.below HB1.out))
  go_wp2_with (first
    | (go_at_call 6; refine HTL.out.mono ?_; intro e w2 he; obtain ⟨rfl, hb2⟩ := he.yes HM.out.2; rw [ex_told]; obtain ⟨a0, a1, a2, a3⟩ := HA.out.below hb2; have HB2 := Lib.hid hb2; clear hb2)
    | (go_at_call 10; refine (no_any _ _).mono ?_; rintro e w3 ⟨rfl, rfl⟩)
    | (go_at_call 11; refine (HK.out _).mono ?_; rintro e w3 ⟨rfl, rfl⟩))
  go_ret
  exact ⟨rfl, HB1.out.trans (HB2.out.mono HB1.out.size)⟩
/-- What a test of few tokens tells. -/
def FewL (l : List (Tk × Int)) : Prop := l.length ≤ 200 ∧ (l.map fun x => min x.1.s.size 100000).sum ≤ 4000
noncomputable def fewB (l : List (Tk × Int)) : Bool := @decide (FewL l) (Classical.propDecidable _)
theorem fewB_yes {l : List (Tk × Int)} (h : FewL l) : fewB l = true := @decide_eq_true _ (Classical.propDecidable _) h
theorem fewB_no {l : List (Tk × Int)} (h : ¬ FewL l) : fewB l = false := @decide_eq_false _ (Classical.propDecidable _) h
theorem fewB_of {l : List (Tk × Int)} (h : fewB l = true) : FewL l := @of_decide_eq_true _ (Classical.propDecidable _) h
set_option maxHeartbeats 8000000 in
set_option maxRecDepth 100000 in
theorem few_any (v : Value) (l : List (Tk × Int)) (w : World) (hv : TksAt w v l) (hm : l.length ≤ maxLen) (hz : ∀ x ∈ l, x.1.s.size ≤ maxLen) : Calls Tryz.prog 4 #[v] w fun e w' => e = .returned (.bool (fewB l)) ∧ w = w' := by
  obtain ⟨q, c, rfl, hr⟩ := hv
  have HR := Lib.hid hr
  have HZ := Lib.hid hz
  unfold maxLen at hm
  clear hr hz
  go_enter Tryz.func4, Tryz.ntmps4
  go_wp2
  go_loop [3, 4] (fun n i => ∃ k : Nat, i = .int .i64 k ∧ k ≤ l.length ∧ k ≤ 201 ∧ n = .int .i64 (((l.take k).map fun x => min x.1.s.size 100000).sum : Nat) ∧ ((l.take k).map fun x => min x.1.s.size 100000).sum ≤ k * 100000) (fun _ i => 201 - (intOf i).toNat)
  case atStart => exact ⟨0, rfl, by omega, by omega, rfl, by simp⟩
  case round =>
    obtain ⟨k, rfl, hk, hk2, rfl, hs⟩ := hrel
    obtain ⟨S, hS⟩ : ∃ S, ((l.take k).map fun x => min x.1.s.size 100000).sum = S := ⟨_, rfl⟩
    rw [hS] at hs ⊢
    have HS := Lib.hid hS
    clear hS
    by_cases hlt : k < l.length
    · have hki : (k : Int) < (l.length : Int) := by omega
      by_cases h2 : k ≤ 200
      · have hk2i : decide ((k : Int) ≤ 200) = true := by simp; omega
        have hx := List.getElem?_eq_getElem hlt
        generalize l[k] = x at *
        obtain ⟨b, o, rfl, ha⟩ := HR.out k x hx
        obtain ⟨x0, x1, x2, x3⟩ := ha
        have hxs := HZ.out x (List.mem_of_getElem? hx)
        unfold maxLen at hxs
        have hN : ((l.take (k + 1)).map fun x => min x.1.s.size 100000).sum = S + min x.1.s.size 100000 := by
          rw [take_next hx, List.map_append, List.sum_append, HS.out]; simp
        have HN := Lib.hid hN
        clear hx hN
        obtain ⟨⟨tk, ts, tn⟩, ta⟩ := x
        simp only [] at x0 x1 x2 x3 hxs HN
        obtain ⟨M, hM⟩ : ∃ M, min ts.size 100000 = M := ⟨_, rfl⟩
        have hMi : min (ts.size : Int) 100000 = (M : Int) := by omega
        have hM1 : M ≤ 100000 := by omega
        rw [hM] at HN
        clear hM
        go_wp2
        go_round
        case rel =>
          refine ⟨k + 1, by go_num, by omega, by omega, ?_, by rw [HN.out]; omega⟩
          rw [HN.out]
          go_num
        case measure => simp [intOf]; omega
      · have hk2i : decide ((k : Int) ≤ 200) = false := by simp; omega
        have hbig : decide ((l.length : Int) ≤ 200) = false := by simp; omega
        go_wp2
        go_ret
        exact ⟨ret_bool (fewB_no (fun h => by have := h.1; omega)).symm, rfl⟩
    · have hki : ¬ (k : Int) < (l.length : Int) := by omega
      obtain rfl : k = l.length := by omega
      have hfull : l.take l.length = l := List.take_length
      rw [hfull] at HS
      by_cases h2 : l.length ≤ 200
      · have hbig : decide ((l.length : Int) ≤ 200) = true := by simp; omega
        by_cases h4 : S ≤ 4000
        · have h4i : decide ((S : Int) ≤ 4000) = true := by simp; omega
          go_wp2
          go_ret
          exact ⟨ret_bool (fewB_yes ⟨h2, by rw [HS.out]; exact h4⟩).symm, rfl⟩
        · have h4i : decide ((S : Int) ≤ 4000) = false := by simp; omega
          go_wp2
          go_ret
          exact ⟨ret_bool (fewB_no (fun h => by have := h.2; rw [HS.out] at this; exact h4 this)).symm, rfl⟩
      · have hbig : decide ((l.length : Int) ≤ 200) = false := by simp; omega
        go_wp2
        go_ret
        exact ⟨ret_bool (fewB_no (fun h => h2 h.1)).symm, rfl⟩
end Go.Proofs.YtpedmkdpbdhenaaGreatDoor
