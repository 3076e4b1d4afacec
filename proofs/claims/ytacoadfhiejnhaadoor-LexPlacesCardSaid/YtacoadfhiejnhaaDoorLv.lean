/- LexAgain, walked. -/
import Derived.Test.YtacoadfhiejnhaaDoorLu
namespace Go.Proofs.YtacoadfhiejnhaaDoor
open Go.RowKit
set_option linter.unusedSimpArgs false
set_option linter.unusedVariables false
theorem LxW.esc {w : World} (h : LxW w) : EscW w := h.1
set_option maxHeartbeats 8000000 in
set_option maxRecDepth 100000 in
theorem again_any (s : ByteArray) (w : World) (hw : LxW w) : Calls Tryd.prog 4 #[.string s] w fun e w' => e = .returned (.bool true) ∧ Below w.heap.size w w' := by
  have HALV := Lib.hid (fun W hW => alive_any W hW)
  have HW := Lib.hid hw
  clear hw
  by_cases hbig : 6000 < s.size
  · have db : decide ((6000 : Int) < (s.size : Int)) = true := by simp; omega
    go_enter Tryd.func4, Tryd.ntmps4
    go_wp2_with (go_at_call 7; refine (HALV.out _ HW.out).mono ?_; rintro e w1 ⟨rfl, hb⟩)
    go_ret
    exact ⟨rfl, hb⟩
  have db : decide ((6000 : Int) < (s.size : Int)) = false := by simp; omega
  have HLX := Lib.hid (lex_any s (by omega) w HW.out.1)
  obtain ⟨E, hE⟩ : ∃ E, (lexM s).2.2 = E := ⟨_, rfl⟩
  by_cases hE0 : E = 0
  rotate_left
  · have hnil := lexM_bad (s := s) (by rw [hE]; exact hE0)
    have hEi : ((E : Int) != 0) = true := by simp; omega
    have HE := Lib.hid hE
    have HNIL := Lib.hid hnil
    clear hE hnil hE0
    go_enter Tryd.func4, Tryd.ntmps4
    go_wp2_with (first
      | (go_at_call 10; refine HLX.out.mono ?_; rintro e w1 ⟨v, rfl, hv, hb1⟩; rw [HNIL.out] at hv; rw [HE.out]; obtain ⟨q, c, rfl⟩ := hv.shape; have HB1 := Lib.hid hb1; clear hv hb1; generalize (lexM s).2.1 = A)
      | (go_at_call 9; refine (no_any _ _).mono ?_; rintro e w1 ⟨rfl, rfl⟩)
      | (go_at_call 7; refine (HALV.out _ (HW.out.below HB1.out)).mono ?_; rintro e w3 ⟨rfl, hb3⟩))
    go_ret
    exact ⟨rfl, HB1.out.trans (hb3.mono HB1.out.size)⟩
  subst hE0
  obtain ⟨hmod, hA⟩ := lexM_mod hE
  obtain ⟨hsz, hlx, hl6, hz⟩ := lexM_lexed hE
  have hlen := hlx.lens
  rw [List.length_drop, len_list] at hlen
  obtain ⟨r, hr1, hr2⟩ := lexM_back (ts := (lexM s).1.map Prod.fst) (fun t ht => by obtain ⟨x, hx, rfl⟩ := List.mem_map.1 ht; exact hlx.right x hx) (by omega) (by rw [List.length_map]; exact hl6)
  have hrm := lexM_mod (s := ofL (joinT ((lexM s).1.map Prod.fst))) (by rw [hr1])
  rw [hr1] at hrm
  simp only [] at hrm
  obtain ⟨hmod2, hA2⟩ := hrm
  have hLR : LexR s w = fun e w' => ∃ v, e = .returned (.tuple #[v, .int .i64 0, .int .i64 0]) ∧ TkRow w.heap.size w' v (lexM s).1 ∧ Below w.heap.size w w' := by
    unfold LexR
    rw [hE, hz]
    rfl
  rw [hLR] at HLX
  have hj2 : ofL (joinT ((pl r).map Prod.fst)) = ofL (joinT ((lexM s).1.map Prod.fst)) := by rw [pl_fst, hr2]
  have hj1 : (pl (lexM s).1).map Prod.fst = (lexM s).1.map Prod.fst := pl_fst _
  have hsm : sameB (pl (lexM s).1) (pl r) = true := sameB_yes (by rw [pl_fst, pl_fst, hr2])
  have HLX2 := Lib.hid (fun W hW => lex_any (ofL (joinT ((lexM s).1.map Prod.fst))) (by rw [ofL_size]; omega) W hW)
  have HT1 := Lib.hid (fun v W (hv : TksAt W v (pl (lexM s).1)) hW => (tellAll_any v _ W hv hmod hW).mono fun e w' he => he.yes hA)
  have HT2 := Lib.hid (fun v W (hv : TksAt W v (pl r)) hW => (tellAll_any v _ W hv hmod2 hW).mono fun e w' he => he.yes hA2)
  rw [hj1] at HT1
  rw [hj2] at HT2
  have HSM := Lib.hid (fun va vb W (ha : TksAt W va (pl (lexM s).1)) (hb : TksAt W vb (pl r)) => same_any va vb _ _ W ha hb (by have := hmod.1; unfold maxLen; omega))
  rw [hsm] at HSM
  have HR1 := Lib.hid hr1
  generalize ofL (joinT ((lexM s).1.map Prod.fst)) = D at *
  generalize (lexM s).1 = L at *
  clear hmod hA hsz hlx hl6 hz hlen hr1 hr2 hmod2 hA2 hLR hj1 hj2 hsm hE
  go_enter Tryd.func4, Tryd.ntmps4
  go_wp2_with (go_at_call 10; refine HLX.out.mono ?_; rintro e w1 ⟨v, rfl, hv, hb1⟩; have HV := Lib.hid hv.tks; have HB1 := Lib.hid hb1; clear hv hb1)
  go_wp2_with (first
    | (go_at_call 9; with_reducible refine (no_any _ _).mono ?_; rintro e w1 ⟨rfl, rfl⟩)
    | (go_at_call 8; with_reducible refine (HT1.out _ _ HV.out (HW.out.below HB1.out)).mono ?_; rintro e w2 ⟨rfl, hb2⟩; have HB2 := Lib.hid (HB1.out.trans (hb2.mono HB1.out.size)); have HV2 := Lib.hid (HV.out.below hb2); clear hb2))
  go_at_call 10
  with_reducible refine (HLX2.out _ (HW.out.below HB2.out).esc).mono ?_
  rintro e w3 ⟨vb, rfl, hvb, hb3⟩
  rw [HR1.out] at hvb ⊢
  have HVB := Lib.hid hvb.tks
  have HB3 := Lib.hid (HB2.out.trans (hb3.mono HB2.out.size))
  have HV3 := Lib.hid (HV2.out.below hb3)
  clear hvb hb3
  go_wp2_with (first
    | (go_at_call 8; with_reducible refine (HT2.out _ _ HVB.out (HW.out.below HB3.out)).mono ?_; rintro e w4 ⟨rfl, hb4⟩; have HB4 := Lib.hid (HB3.out.trans (hb4.mono HB3.out.size)); have HV4 := Lib.hid (HV3.out.below hb4); have HVB4 := Lib.hid (HVB.out.below hb4); clear hb4)
    | (go_at_call 9; with_reducible refine (no_any _ _).mono ?_; rintro e w1 ⟨rfl, rfl⟩)
    | (go_at_call 11; with_reducible refine (HSM.out _ _ _ HV4.out HVB4.out).mono ?_; rintro e w5 ⟨rfl, hb5⟩; have HB5 := Lib.hid (HB4.out.trans (hb5.mono HB4.out.size)); clear hb5)
    | (go_at_call 7; with_reducible refine (HALV.out _ (HW.out.below HB5.out)).mono ?_; rintro e w6 ⟨rfl, hb6⟩))
  trace_state
  go_ret
  exact ⟨rfl, HB5.out.trans (hb6.mono HB5.out.size)⟩
end Go.Proofs.YtacoadfhiejnhaaDoor
