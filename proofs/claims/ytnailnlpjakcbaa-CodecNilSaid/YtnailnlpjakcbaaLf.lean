/- For every input CodecNil returns true and leaves its argument as it was: a reader and a writer that are none have nothing. No condition. -/
import Derived.Test.YtnailnlpjakcbaaC6
import Derived.Test.YtnailnlpjakcbaaC7
import Derived.Test.YtnailnlpjakcbaaD4
import Derived.Test.YtnailnlpjakcbaaE3
import Derived.SizedLaws
namespace Go.Proofs.Ytnailnlpjakcbaa
open Go.ChangeShapes Go.WideShapes Go.ChangeAt Go.RowKit
open Go.ChangeMaps (open_string shut_string)
set_option linter.unusedVariables false

set_option maxRecDepth 100000 in
set_option maxHeartbeats 1000000 in
theorem nil_go (s : ByteArray) (w : World) (hs : s.size ≤ 140737488351232) : Calls Try.prog 10 #[.string s] w fun e w' => e = .returned (.bool true) ∧ Below w.heap.size w w' := by
  go_enter Try.func10, Try.ntmps10
  go_wp2_with (first
    | (go_at_call 28; refine (wU_nil _ 1 1 _ (by omega) (hb_at (hb_new _ _) 0 rfl)).mono ?_; rintro e w1 ⟨rfl, hb1⟩)
    | (go_at_call 29; refine (wI_nil _ 1 1 _ (by omega) (hb_at (hb_new _ _) 0 rfl)).mono ?_; rintro e w2 ⟨rfl, hb2⟩)
    | (go_at_call 30; refine (wT_nil _ 1 s _ hs (hb_at (hb_new _ _) 0 rfl)).mono ?_; rintro e w3 ⟨rfl, hb3⟩)
    | (go_at_call 32; refine (wString_nil _).mono ?_; rintro e w4 ⟨rfl, rfl⟩)
    | (go_at_call 34; refine (rU_nil _).mono ?_; rintro e w4 ⟨rfl, rfl⟩)
    | (go_at_call 35; refine (rI_nil _).mono ?_; rintro e w4 ⟨rfl, rfl⟩)
    | (go_at_call 36; refine (rT_nil _).mono ?_; rintro e w4 ⟨rfl, rfl⟩)
    | (go_at_call 38; refine (bad_nil _).mono ?_; rintro e w4 ⟨rfl, rfl⟩)
    | (go_at_call 37; refine (done_nil _).mono ?_; rintro e w4 ⟨rfl, rfl⟩)
    | (go_at_call 11; refine (alive_ok _).mono ?_; rintro e w9 ⟨rfl, hb⟩))
  go_ret
  have z1 := hb1.size
  have z2 := hb2.size
  have z3 := hb3.size
  simp only [World.size_alloc] at z1 z2 z3
  have b1 := (below_alloc w (.cells #[.int .u64 1] 22)).trans (hb1.mono (by rw [World.size_alloc]; omega))
  have b2 := (b1.alloc b1.size (.cells #[.int .i64 1] 3)).trans (hb2.mono (by rw [World.size_alloc]; omega))
  have b3 := (b2.alloc b2.size (.cells #[.string s] 9)).trans (hb3.mono (by rw [World.size_alloc]; omega))
  exact ⟨rfl, b3.trans (hb.mono (by omega))⟩

theorem nil_walk (s : ByteArray) (w : World) (hs : s.size ≤ maxLen) (hr : s.data.toList.length ≤ reachBytes) : Calls Try.prog 10 #[.string s] w fun e w' => e = .returned (.bool true) ∧ Below w.heap.size w w' := by
  have h : s.data.toList.length = s.size := by simp
  have h2 : reachBytes = 140737488351232 := by decide
  exact nil_go s w (by omega)

set_option maxRecDepth 100000 in
theorem codecNil_lifted (os : Os) (started : os.Started) (H : Type) (enc : TypeId × Value → H) :
    ReturnsInHanded {} Try.checked os 10 .any (Rows.codecNilSpec.pre6 enc Try.prog Try.f10 Rows.codecNilRow.domain false) (Rows.codecNilSpec.post enc Try.prog Try.f10 false true false false) := by
  refine returnsInHanded_of_change_sized (C := Try.checked) ownKn started (by kernel_rfl) Try.func10
    (ChangeSpec.witness6 (enc := enc) (C := Try.checked) false ⟨#[], #[.string ⟨#[]⟩], []⟩ 8 (by kernel_rfl) (by kernel_rfl) (by kernel_rfl) (by kernel_rfl)) ?_
  intro W base args ds gs before hval0 hW hcnd hsz0 _
  have hsz : (DataW.weightsEach Try.prog (Try.f10.params.toList ++ Rows.codecNilSpec.plain.varTypes Try.prog) (ds ++ gs)).all (· ≤ reachBytes) = true := hsz0
  clear hsz0
  have hval : ∀ (j : Nat) t v, Try.f10.params[j]? = some t → args[j]? = some v → Value.okWide Try.prog W .any base t v := hval0
  have hW' := hW
  obtain ⟨p, q, hA0, hV, rfl, hfz, hnd⟩ := hW
  have hA : DataW.TrodAll enc Try.prog W 0 (fun _ => true) true Try.f10.params.toList args.toList ds p := hA0
  rw [Try.params10] at hA hval hsz
  obtain ⟨v0, vs0, d0, ds0, p0, q0, hargs, rfl, rfl, h0, r0⟩ := trodAll_cons hA
  obtain ⟨rfl, rfl, rfl⟩ := trodAll_nil r0
  obtain rfl : args = #[v0] := by cases args; simp_all
  obtain ⟨rfl, rfl⟩ := trodVars_none hV
  have lt0 : ∀ x ∈ p0, x.block < W.heap.size := by obtain ⟨m, hm⟩ := h0; exact DataW.trod_lt m _ _ _ hm
  have k0 := h0
  obtain ⟨a0, rfl, rfl, rfl, b0⟩ := open_string Try.underlying9 (hval 0 9 v0 rfl rfl) h0
  have c0 := sized_string hsz (j := 0) rfl rfl
  clear hA0 hval0
  refine (nil_walk a0 W b0 c0).mono fun e W' ⟨he, bel⟩ => ?_
  subst he
  exact ⟨_, rfl, _, _, _, [], _, [], hW', trodAll_mk1 (shut_bool Try.underlying4 _),
    (trodAll_cons_mk (Below.trod laidTry (by kernel_rfl) (of_decide_eq_true (by kernel_rfl)) k0 bel lt0) trodAll_mk0), rfl, bel.frame _, fun h => by cases h⟩

theorem codecNil_over : Rows.codecNilRow.holds Try.pinned (OpenSpec.ofChange Rows.codecNilSpec) :=
  OpenClaim.holds_of_wide 10 Try.f10 rfl rfl rfl rfl rfl rfl rfl ⟨rfl, rfl, rfl, rfl, rfl⟩ rfl rfl rfl rfl rfl (by kernel_rfl) Try.func10 (by kernel_rfl)
    (of_decide_eq_true (by kernel_rfl)) (by unfold Func.isWrapper; first | (rw [if_pos (by decide +kernel)]; kernel_rfl) | (rw [if_neg (by decide +kernel)]; exact ⟨rfl, rfl⟩))
    (fun os started H enc _ => codecNil_lifted os started H enc)

theorem codecNil_holds : Rows.CodecNilSaid := codecNil_over
#print axioms codecNil_holds
end Go.Proofs.Ytnailnlpjakcbaa
