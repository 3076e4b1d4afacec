/- The texts Gm, one behind the other. -/
import Derived.Test.YtmfphnhdahaooaaM12
set_option linter.unusedSimpArgs false
set_option linter.unusedVariables false
/- Rename of any store. -/
namespace Go.Proofs.Ytmfphnhdahaooaa
open Go.RowKit Go.Maps

theorem str_ne {s d : ByteArray} (h : s ≠ d) : (s.toList == d.toList) = false := by
  rw [beq_eq_false_iff_ne]
  intro e
  apply h
  rw [ByteArray.toList_eq, ByteArray.toList_eq] at e
  exact name_eq e

theorem OpP.imp {B F k : Nat} {A : Fs} {R R' : Fs → Fs → Prop} {w w' : World} {e : Ending} (h : OpP B F A k R w e w') (hi : ∀ A', R A.step A' → R' A.step A') : OpP B F A k R' w e w' := by
  obtain ⟨c, A', h1, h2, h3, h4⟩ := h
  exact ⟨c, A', h1, h2, h3.imp_right fun ⟨a, b, c⟩ => ⟨a, b, hi A' c⟩, h4⟩
def RenR (s d : ByteArray) (A A' : Fs) : Prop := (∃ X, A.dir s = some X) ∧ s ≠ d ∧ TurnR d ⟨2, s, d, none⟩ A A'
set_option maxRecDepth 100000 in
set_option maxHeartbeats 4000000 in
theorem rename_any {w : World} {B F N L n m k : Nat} {A : Fs} {tv : Value} (h : Raw w B F A N L n m tv) (hb : n ≤ k ∧ m + A.turns.length ≤ k ∧ -(4096 * (k : Int)) ≤ A.used ∧ A.used ≤ 4096 * (k : Int)) (hk1 : k ≤ 1000) (s d : ByteArray) (hs : s.size ≤ maxLen) (hds : d.size ≤ maxLen) :
    Calls Try.prog 28 #[.pointer (some ⟨F, 0, none⟩), .string s, .string d] w (OpP B F A k (RenR s d) w) := by
  have H := Lib.hid h
  have HB := Lib.hid hb
  have HL := Lib.hid hs
  have HDL := Lib.hid hds
  clear h hb hs hds
  by_cases hdn : NameP d
  rotate_left
  · have HS := Lib.hid hdn
    clear hdn
    go_enter Try.func28, Try.ntmps28
    go_wp2_with (first
      | ((go_at_call 46; with_reducible refine (H.out.made).mono ?_); rintro e w' ⟨rfl, rfl⟩)
      | ((go_at_call 48; with_reducible refine (isName_no d _ HDL.out HS.out).mono ?_); rintro e w' ⟨rfl, rfl⟩)
      | go_in)
    go_ret
    exact op_refused H.out HB.out (by decide) rfl
  have HDN := Lib.hid hdn
  clear hdn
  by_cases hsd : s = d
  · subst hsd
    go_enter Try.func28, Try.ntmps28
    go_wp2_with (first
      | ((go_at_call 46; with_reducible refine (H.out.made).mono ?_); rintro e w' ⟨rfl, rfl⟩)
      | ((go_at_call 48; with_reducible refine (isName_yes s _ HDN.out).mono ?_); rintro e w' ⟨rfl, rfl⟩)
      | go_in)
    go_ret
    exact op_refused H.out HB.out (by decide) rfl
  have hse := str_ne hsd
  have HNE := Lib.hid hsd
  clear hsd
  by_cases hn : NameP s
  · cases hd : A.dir s with
    | none =>
      have HS := Lib.hid hn
      have HD := Lib.hid hd
      clear hn hd
      go_enter Try.func28, Try.ntmps28
      go_wp2_with (first
        | ((go_at_call 46; with_reducible refine (H.out.made).mono ?_); rintro e w' ⟨rfl, rfl⟩)
        | ((go_at_call 48; with_reducible refine (isName_yes d _ HDN.out).mono ?_); rintro e w' ⟨rfl, rfl⟩)
        | ((go_at_call 43; with_reducible refine (find_no H.out s HS.out HD.out).mono ?_); rintro e w' ⟨rfl, rfl⟩)
        | go_in)
      go_ret
      exact op_refused H.out HB.out (by decide) rfl
    | some X =>
      have HD := Lib.hid hd
      clear hn hd
      by_cases hc : A.code = 0
      · have HC := Lib.hid hc
        clear hc
        go_enter Try.func28, Try.ntmps28
        go_upto_region 11 with (first
          | ((go_at_call 46; with_reducible refine (H.out.made).mono ?_); rintro e w' ⟨rfl, rfl⟩)
          | ((go_at_call 48; with_reducible refine (isName_yes d _ HDN.out).mono ?_); rintro e w' ⟨rfl, rfl⟩)
          | ((go_at_call 43; with_reducible refine (find_yes H.out s X HD.out).mono ?_); rintro e w' ⟨rfl, rfl⟩)
          | ((go_at_call 44; with_reducible refine (step0 H.out HC.out).mono ?_); rintro e w1 ⟨rfl, hR, hg⟩)
          | go_in)
        have c1 : w1.cell? ⟨F, 1, none⟩ = some (.int .i64 A.used) := hR.cells.c1
        have c2 := hR.cells.c2
        have f1 := hb_free hR.store 1
        have hub := HB.out.2.2
        have HG := Lib.hid hg
        have HR := Lib.hid hR
        clear hg hR
        go_cut [43] (fun _ wx => Raw wx B F { A.step with used := A.used - (sz (sizeAt A d) : Int) } N L n m tv ∧ w1.grownBy wx (some F))
        case first =>
          cases hd2 : A.dir d with
          | none =>
            have qv : IntKind.i64.wrap (A.used - 0) = A.used - (sz (sizeAt A d) : Int) := by
              rw [IntWalk.i64_in _ (by omega), sizeAt_none hd2]
              rfl
            have qw : IntKind.i64.wrap A.used = A.used - (sz (sizeAt A d) : Int) := by
              rw [IntWalk.i64_in _ (by omega), sizeAt_none hd2]
              exact (Int.sub_zero _).symm
            have qx : A.used = A.used - (sz (sizeAt A d) : Int) := by
              rw [sizeAt_none hd2]
              exact (Int.sub_zero _).symm
            have QV := Lib.hid qv
            have QW := Lib.hid qw
            have QX := Lib.hid qx
            have lk : (Instr.lookup 79 (.map (some N)) (.string d) false).run Try.prog w1.drew = .ok (.pointer none) w1.drew := (HR.out.names.kept (w' := w1.drew) fun _ h => h).look false d HDL.out none hd2
            clear qv qw qx hub hd2
            go_region_with (first
              | ((go_at_call 57; with_reducible refine (size_nil _).mono ?_); rintro e w' ⟨rfl, rfl⟩)
              | ((go_at_call 53; with_reducible refine (sectors_zero _).mono ?_); rintro e w' ⟨rfl, rfl⟩))
            all_goals
              go_wp2_with fail
              go_meet
              first
                | exact used_turned HR.out _ _ QV.out
                | exact used_turned HR.out _ _ QW.out
                | exact used_turned HR.out _ _ QX.out
          | some Y =>
            obtain ⟨f, hf⟩ := Option.isSome_iff_exists.1 (H.out.dirs d Y hd2).2
            have hk := HR.out.files Y f hf
            obtain ⟨ao, c, hbv, hlc⟩ := own_sl hk.now
            obtain ⟨bv, lv, xs, ls⟩ := f
            dsimp only at hbv hlc
            subst hbv
            have hsm : xs.length ≤ 1048576 := hk.small.1
            have HZ := Lib.hid (sizeAt_some hd2 hf)
            have qv : IntKind.i64.wrap (A.used - ((xs.length : Int) + 511) / 512) = A.used - (sz (sizeAt A d) : Int) := by
              rw [IntWalk.i64_in _ (by omega), HZ.out]
              show A.used - ((xs.length : Int) + 511) / 512 = A.used - ((sz xs.length : Nat) : Int)
              unfold sz
              omega
            have QV := Lib.hid qv
            have lk : (Instr.lookup 79 (.map (some N)) (.string d) false).run Try.prog w1.drew = .ok (.pointer (some ⟨Y, 0, none⟩)) w1.drew := (HR.out.names.kept (w' := w1.drew) fun _ h => h).look false d HDL.out (some Y) hd2
            have hkd : w1.drew.heap[Y]? = some (.cells #[.slice ao xs.length c, lv] 85 (0, 0)) := hk.block
            have HKD := Lib.hid hkd
            have HSM := Lib.hid hsm
            clear qv hub hd2 hk hsm hkd hf
            go_region_with (first
              | ((go_at_call 57; with_reducible refine (size_ok Y xs.length c ao lv _ HKD.out).mono ?_); rintro e w' ⟨rfl, rfl⟩)
              | ((go_at_call 53; with_reducible refine (sectors_any _ (by have := HSM.out; omega) _).mono ?_); rintro e w' ⟨rfl, rfl⟩))
            all_goals
              go_wp2_with fail
              go_meet
              exact used_turned HR.out _ _ QV.out
        case rest =>
          obtain ⟨hR2, hg2⟩ := hcut
          have HR2 := Lib.hid hR2
          have HG2 := Lib.hid hg2
          have hdo := do_becomes HR2.out s d HL.out HDN.out (show n < maxLen by have := HB.out.1; unfold maxLen; omega) (show A.turns.length ≤ 1000000 by have := HB.out.2.1; omega)
          have HDO := Lib.hid hdo
          clear hR2 hg2 c1 f1 c2 hdo hub
          have hzz : sizeAt A d ≤ 1048576 := by
            cases hd2 : A.dir d with
            | none => rw [sizeAt_none hd2]; omega
            | some Y =>
              obtain ⟨f, hf⟩ := Option.isSome_iff_exists.1 (H.out.dirs d Y hd2).2
              rw [sizeAt_some hd2 hf]
              exact (H.out.files Y f hf).small.1
          have HZZ := Lib.hid hzz
          clear hzz
          go_wp2_with (first
            | ((go_at_call 58; with_reducible refine (HDO.out).mono ?_); rintro e w3 ⟨rfl, ⟨tv', hR3⟩, hf3⟩)
            | go_in)
          go_ret
          exact (turn_end H.out HB.out HC.out HZZ.out HG.out HR.out HG2.out hf3 hR3).imp fun A' h => ⟨⟨X, HD.out⟩, HNE.out, h⟩
      · obtain ⟨cd, hcd⟩ : ∃ cd, A.code = cd := ⟨_, rfl⟩
        rw [hcd] at hc
        have n1 : (cd == 0) = false := by simpa using hc
        have n2 : (cd != 0) = true := by simpa using hc
        have HC := Lib.hid hc
        have HCD := Lib.hid hcd
        clear hc hcd
        go_enter Try.func28, Try.ntmps28
        go_wp2_with (first
          | ((go_at_call 46; with_reducible refine (H.out.made).mono ?_); rintro e w' ⟨rfl, rfl⟩)
          | ((go_at_call 48; with_reducible refine (isName_yes d _ HDN.out).mono ?_); rintro e w' ⟨rfl, rfl⟩)
          | ((go_at_call 43; with_reducible refine (find_yes H.out s X HD.out).mono ?_); rintro e w' ⟨rfl, rfl⟩)
          | ((go_at_call 44; with_reducible refine (step1 H.out cd HCD.out).mono ?_); rintro e w1 ⟨rfl, hR, hg⟩)
          | go_in)
        go_ret
        exact op_stepped H.out hR hg HB.out HC.out rfl
  · have HS := Lib.hid hn
    clear hn
    go_enter Try.func28, Try.ntmps28
    go_wp2_with (first
      | ((go_at_call 46; with_reducible refine (H.out.made).mono ?_); rintro e w' ⟨rfl, rfl⟩)
      | ((go_at_call 48; with_reducible refine (isName_yes d _ HDN.out).mono ?_); rintro e w' ⟨rfl, rfl⟩)
      | ((go_at_call 43; with_reducible refine (find_bad H.out s HL.out HS.out).mono ?_); rintro e w' ⟨rfl, rfl⟩)
      | go_in)
    go_ret
    exact op_refused H.out HB.out (by decide) rfl
end Go.Proofs.Ytmfphnhdahaooaa
