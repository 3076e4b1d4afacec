/- For every input VfsRoom returns true and leaves its arguments as they were: a store of any capacity from 1 to 40, and any lengths (at most 30) that are put behind one another into four files: never more sectors than its capacity, ErrSpace just where there is no room. No condition. -/
import Derived.Test.YtdaipgeecmngfaaRm
import Derived.Test.YtdaipgeecmngfaaVw
namespace Go.Proofs.Ytdaipgeecmngfaa
open Go.ChangeShapes Go.WideShapes Go.ChangeAt Go.RowKit Go.Maps
open Go.ChangeMaps (open_string shut_string)
set_option linter.unusedVariables false

set_option maxRecDepth 100000 in
set_option maxHeartbeats 1000000 in
theorem room_none (a : Int) (ao : Option Addr) (cap : Nat) (w : World) (ha : (Lit.int .i64 a).wf = true) :
    Calls Try.prog 7 #[.int .i64 a, .slice ao 0 cap] w fun e w' => e = .returned (.bool true) ∧ Below w.heap.size w w' := by
  obtain ⟨h1, h2⟩ := tm_bounds a 40 (by decide)
  obtain ⟨h3, h4⟩ := tm_again a 40 (by decide)
  obtain ⟨r, hr⟩ : ∃ r : Nat, (a.tmod 40 + 40).tmod 40 = (r : Int) := ⟨_, (Int.toNat_of_nonneg h3).symm⟩
  rw [hr] at h3 h4
  have hr2 : r < 40 := by omega
  go_enter Try.func7, Try.ntmps7
  go_upto_region 2 with fail
  clear h1 h2 h3 h4 hr
  go_upto_region 3 with (first
    | ((go_at_call 9; with_reducible refine (new_cap r _ hr2).mono ?_); rintro e w1 ⟨rfl, h1⟩; have H1 := Lib.hid h1; clear h1)
    | go_in)
  go_upto_region 5 with (first
    | ((go_at_call 11; with_reducible refine (no_any _ _).mono ?_); rintro e w' ⟨rfl, rfl⟩)
    | ((go_at_call 12; with_reducible refine (alive_ok _).mono ?_); rintro e w2 ⟨rfl, hb⟩; have HB := Lib.hid hb; clear hb)
    | go_in)
  have hm4 := make_four
  go_wp2
  have hbel : Below w.heap.size w (w2.alloc (.cells #[.int .i64 0, .int .i64 0, .int .i64 0, .int .i64 0] 3)) := (H1.out.below.trans (HB.out.mono H1.out.below.size)).trans ((below1 w2 _).mono (by have := H1.out.below.size; have := HB.out.size; omega))
  have HI := Lib.hid hbel
  clear hbel hm4
  go_loopw [37] (fun i wr => i = .int .i64 0 ∧ Below w.heap.size w wr) (fun _ _ => 0)
  case atStart => exact ⟨rfl, HI.out⟩
  case round =>
    obtain ⟨rfl, hb⟩ := hrel
    go_wp2
    go_ret
    exact ⟨rfl, hb⟩

theorem room_walk (a : Int) (ao : Option Addr) (len cap : Nat) (zs : List Int) (w : World) (ha : (Lit.int .i64 a).wf = true) (hz : IsInts w ao len cap zs) :
    Calls Try.prog 7 #[.int .i64 a, .slice ao len cap] w fun e w' => e = .returned (.bool true) ∧ Below w.heap.size w w' := by
  rcases hz with ⟨rfl, rfl, rfl, rfl⟩ | ⟨x, rfl, hl, hm, hzl, hcell, hwz⟩
  · exact room_none a none 0 w ha
  · by_cases h0 : len = 0
    · subst h0
      exact room_none a _ cap w ha
    · by_cases h30 : 30 < len
      · exact room_long a _ len cap w ha h30 (by unfold maxLen at hm; omega)
      · obtain ⟨b, off, spot⟩ := x
        have hc := hcell 0 (by omega)
        have hspot : spot = none := by simpa [Addr.add] using World.cell?_spot hc
        subst hspot
        have hlt := World.block_lt_of_cell? w _ hc
        refine room_short a b off len cap zs w ha (by omega) hl (fun i hi => ?_) (fun i hi => ?_) (fun _ => ?_)
        · have h := hcell i (by omega)
          have e : ((⟨b, off, none⟩ : Addr).add i) = ⟨b, off + i, none⟩ := by
            unfold Addr.add
            by_cases hi0 : i = 0 <;> simp [hi0]
          rw [e] at h
          exact h
        · refine hwz _ ?_
          have hi2 : i < zs.length := by omega
          rw [List.getD_eq_getElem?_getD, List.getElem?_eq_getElem hi2]
          exact List.getElem_mem _
        · simpa [Addr.add] using hlt

set_option maxRecDepth 100000 in
theorem room_lifted (os : Os) (started : os.Started) (H : Type) (enc : TypeId × Value → H) :
    ReturnsInHanded {} Try.checked os 7 .any (Rows.vfsRoomSpec.pre6 enc Try.prog Try.f7 Rows.vfsRoomRow.domain false) (Rows.vfsRoomSpec.post enc Try.prog Try.f7 false true false false) := by
  refine returnsInHanded_of_change (C := Try.checked) ownKn started (by kernel_rfl) Try.func7
    (ChangeSpec.witness6 (enc := enc) (C := Try.checked) false ⟨#[], #[.int .i64 0, .slice none 0 0], []⟩ 8 (by kernel_rfl) (by kernel_rfl) (by kernel_rfl) (by kernel_rfl)) ?_
  intro W base args ds gs before hval0 hW hcnd _
  have hval : ∀ (j : Nat) t v, Try.f7.params[j]? = some t → args[j]? = some v → Value.okWide Try.prog W .any base t v := hval0
  have hW' := hW
  obtain ⟨p, q, hA0, hV, rfl, hfz, hnd⟩ := hW
  have hA : DataW.TrodAll enc Try.prog W 0 (fun _ => true) true Try.f7.params.toList args.toList ds p := hA0
  rw [Try.params7] at hA hval
  obtain ⟨v0, vs0, d0, ds0, p0, q0, hargs, rfl, rfl, h0, r0⟩ := trodAll_cons hA
  obtain ⟨v1, vs1, d1, ds1, p1, q1, rfl, rfl, rfl, h1, r1⟩ := trodAll_cons r0
  obtain ⟨rfl, rfl, rfl⟩ := trodAll_nil r1
  obtain rfl : args = #[v0, v1] := by cases args; simp_all
  obtain ⟨rfl, rfl⟩ := trodVars_none hV
  obtain ⟨a0, rfl, rfl, rfl, w0⟩ := open_int Try.underlying3 (hval 0 3 v0 rfl rfl) h0
  obtain ⟨a1, len1, cap1, rfl⟩ := okWide_slice Try.underlying36 (hval 1 36 v1 rfl rfl)
  have k1 := h1
  have lt1 : ∀ x ∈ p1, x.block < W.heap.size := by obtain ⟨m, hm⟩ := k1; exact DataW.trod_lt m _ _ _ hm
  obtain ⟨z1, w1⟩ : ∃ zs, IsInts W a1 len1 cap1 zs := by
    obtain ⟨fuel, hf⟩ := h1
    rcases open_ints Try.underlying36 Try.underlying3 (by kernel_rfl) hf with ⟨hcs, _⟩ | ⟨x, l, c, zs, hcs, _, hl, hm, hz, _, hcell, hwz⟩
    · simp [Value.cells] at hcs
      obtain ⟨rfl, rfl, rfl⟩ := hcs
      exact ⟨[], .inl ⟨rfl, rfl, rfl, rfl⟩⟩
    · simp [Value.cells] at hcs
      obtain ⟨rfl, rfl, rfl⟩ := hcs
      exact ⟨zs, .inr ⟨_, rfl, hl, hm, by simpa using hz, hcell, hwz⟩⟩
  clear hA0 hval0
  refine (room_walk a0 a1 len1 cap1 z1 W w0 w1).mono fun e W' ⟨he, bel⟩ => ?_
  subst he
  exact ⟨_, rfl, _, _, _, [], _, [], hW', trodAll_mk1 (shut_bool Try.underlying4 _), (trodAll_cons_mk (shut_int Try.underlying3 w0) (trodAll_cons_mk (Below.trod laidTry (by kernel_rfl) (of_decide_eq_true (by kernel_rfl)) k1 bel lt1) trodAll_mk0)), rfl, bel.frame _, fun h => by cases h⟩

theorem room_over : Rows.vfsRoomRow.holds Try.pinned (OpenSpec.ofChange Rows.vfsRoomSpec) :=
  OpenClaim.holds_of_wide 7 Try.f7 rfl rfl rfl rfl rfl rfl rfl ⟨rfl, rfl, rfl, rfl, rfl⟩ rfl rfl rfl rfl rfl (by kernel_rfl) Try.func7 (by kernel_rfl)
    (of_decide_eq_true (by kernel_rfl)) (by unfold Func.isWrapper; first | (rw [if_pos (by decide +kernel)]; kernel_rfl) | (rw [if_neg (by decide +kernel)]; exact ⟨rfl, rfl⟩))
    (fun os started H enc _ => room_lifted os started H enc)

theorem vfsRoom_holds : Rows.VfsRoomSaid := room_over
#print axioms vfsRoom_holds
end Go.Proofs.Ytdaipgeecmngfaa
