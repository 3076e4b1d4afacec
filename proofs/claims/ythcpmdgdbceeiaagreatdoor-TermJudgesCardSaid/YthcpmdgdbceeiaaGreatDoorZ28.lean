/- Texts in a row: Th Lx Yj. -/
import Derived.Test.YthcpmdgdbceeiaaGreatDoorZ1
import Derived.ProofKit
import Derived.LaidMore
import Derived.OpenShut
import Derived.ShutString
import Derived.ChangeOld
import Derived.ChangeSlices
import Derived.Lib.SmallJoins
import Derived.Stop.Joined
import Derived.Test.YthcpmdgdbceeiaaGreatDoorZ27
import Derived.ChangeSame
import Derived.Deep.Slices
import Derived.Deep.Fields
import Derived.Lib.LaidTab
import Derived.Lib.AppendIntMem
import Derived.Test.YthcpmdgdbceeiaaGreatDoorTie
import Derived.Test.YthcpmdgdbceeiaaGreatDoorCards
import Derived.SevenTiedAt
/- Arguments by value: a term; what the row assumes of the listed variables is met by the door's own heap. -/
namespace Go.Proofs.YthcpmdgdbceeiaaGreatDoor
open Go.ChangeShapes Go.WideShapes Go.ChangeAt Go.RowKit
theorem ownKn : ownKnob Tryz.prog.godebug = none := by kernel_rfl
theorem laidTry : laidOutB Tryz.prog = true := by kernel_rfl
set_option maxRecDepth 100000
section
variable {H : Type} {enc : TypeId × Value → H} {W : World} {base : Nat} {v : Value} {d : DataW H} {p : List MemPlace}
theorem arg_t (hval : Value.okWide Tryz.prog W .any base 24 v) (h : DataW.Trod enc Tryz.prog W 0 (fun _ => true) true 24 v d p) : ∃ (m : Nat) (t : Tm), IsT W m v t := by
  obtain ⟨cs, rfl, hsz⟩ := okWide_struct Tryz.underlying24 hval
  obtain ⟨fuel, hf⟩ := h
  obtain ⟨k, p', n, N, s, t, e, ht⟩ := trod_term fuel _ _ hf
  obtain ⟨l⟩ := cs
  simp [Value.cells] at e
  subst e
  exact ⟨fuel, t, ht⟩
end
theorem door_met (os : Os) (args : Array Value) : laidMetH Tryz.prog Rows.termSamesRow.laid ((World.doorLaid Tryz.prog 71 os).forCall (fun _ _ => 0) ⟨#[], args, []⟩).memory :=
  laidMetH_of_parts3 (fuel := 8) (laidMet_of_run' 8 (by kernel_rfl) (by kernel_rfl)) (by kernel_rfl) (by kernel_rfl)
end Go.Proofs.YthcpmdgdbceeiaaGreatDoor
/- Arguments by value: tokens; what the row assumes of the listed tables: it is met by the door's own heap; what it gives. -/
namespace Go.Proofs.YthcpmdgdbceeiaaGreatDoor
open Go.ChangeShapes Go.WideShapes Go.ChangeAt Go.RowKit Go.Joins Go.Deep
open Go.ChangeMaps (open_string shut_string)
set_option maxRecDepth 100000
set_option linter.unusedSimpArgs false
set_option linter.unusedVariables false
theorem gE : Tryz.prog.globalNamed "touchstone/lex.escapes" = some 0 := by kernel_rfl
theorem tE : (Tryz.prog.globals[0]?).map (·.type) = some 99 := by kernel_rfl
theorem gP : Tryz.prog.globalNamed "internal/strconv.uint64pow10" = some 1 := by kernel_rfl
theorem tP : (Tryz.prog.globals[1]?).map (·.type) = some 153 := by kernel_rfl
theorem dP : (Rows.laid_internal_strconv_uint64pow10 : DataW Unit) = Lib.tabData .u64 Lib.pow10Tab := by kernel_rfl
theorem cells99 : Tryz.prog.cellsOf 99 = 8 := by kernel_rfl
theorem cells98 : Tryz.prog.cellsOf 98 = 2 := by kernel_rfl
theorem cells5 : Tryz.prog.cellsOf 5 = 1 := by kernel_rfl
theorem pair_cells {fuel : Nat} {W : World} {c0 c1 : Value} {x y : Int} {p : List MemPlace} (h : DataW.trod (fun _ => ()) Tryz.prog W 0 (fun _ => true) false fuel 98 [c0, c1] = some (.agg [.lit (.int .u8 x), .lit (.int .u8 y)], p)) : c0 = .int .u8 x ∧ c1 = .int .u8 y := by
  obtain ⟨ys, n, _, hx, _, hys, hfs⟩ := DataW.trod_struct Tryz.underlying98 h
  have hy2 : ys.length = 2 := hys
  match ys, hy2 with
  | [y0, y1], _ =>
    have g0 : DataW.trod (fun _ => ()) Tryz.prog W 0 (fun _ => true) false n 5 (([c0, c1].drop 0).take (Tryz.prog.cellsOf 5)) = some y0 := hfs 0 _ rfl
    have g1 : DataW.trod (fun _ => ()) Tryz.prog W 0 (fun _ => true) false n 5 (([c0, c1].drop 1).take (Tryz.prog.cellsOf 5)) = some y1 := hfs 1 _ rfl
    rw [cells5] at g0 g1
    obtain ⟨z0, e0, f0, _⟩ := DataW.trod_int Tryz.underlying5 g0
    obtain ⟨z1, e1, f1, _⟩ := DataW.trod_int Tryz.underlying5 g1
    subst f0 f1
    simp at hx e0 e1
    obtain ⟨⟨h1, h2⟩, _⟩ := hx
    subst h1 h2 e0 e1
    exact ⟨rfl, rfl⟩
theorem esc_cells {fuel : Nat} {W : World} {cs : List Value} {p : List MemPlace} (h : DataW.trod (fun _ => ()) Tryz.prog W 0 (fun _ => true) false fuel 99 cs = some (Rows.laid_touchstone_lex_escapes, p)) :
    cs = [.int .u8 92, .int .u8 92, .int .u8 34, .int .u8 34, .int .u8 110, .int .u8 10, .int .u8 116, .int .u8 9] := by
  obtain ⟨xs, m, _, hx, hl, hxl, hf⟩ := DataW.trod_array Tryz.underlying99 h
  rw [cells99] at hl
  match cs, hl, xs, hxl with
  | [c0, c1, c2, c3, c4, c5, c6, c7], _, [x0, x1, x2, x3], _ =>
    have f0 := hf 0 (by omega)
    have f1 := hf 1 (by omega)
    have f2 := hf 2 (by omega)
    have f3 := hf 3 (by omega)
    rw [cells98] at f0 f1 f2 f3
    unfold Rows.laid_touchstone_lex_escapes at hx
    simp only [List.map_cons, List.map_nil, Prod.mk.injEq, DataW.agg.injEq, List.cons.injEq, and_true] at hx
    obtain ⟨⟨h0, h1, h2, h3⟩, _⟩ := hx
    obtain ⟨d0, p0⟩ := x0
    obtain ⟨d1, p1⟩ := x1
    obtain ⟨d2, p2⟩ := x2
    obtain ⟨d3, p3⟩ := x3
    simp only [] at h0 h1 h2 h3
    subst h0 h1 h2 h3
    obtain ⟨rfl, rfl⟩ := pair_cells f0
    obtain ⟨rfl, rfl⟩ := pair_cells f1
    obtain ⟨rfl, rfl⟩ := pair_cells f2
    obtain ⟨rfl, rfl⟩ := pair_cells f3
    rfl
/-- What the listed tables give. -/
theorem tabs_of {W : World} (h : laidMetH Tryz.prog Rows.termJudgesRow.laid W) : LxW W := by
  rw [MakeChecks.laidMetH_plain _ _ _ (by kernel_rfl)] at h
  obtain ⟨ps, ⟨g0, t0, cs0, f0, p0, q0, _, _, _, _, ⟨g1, t1, cs1, f1, p1, q1, _, _, _, _, ⟨g2, t2, cs2, f2, p2, q2, hg2, ht2, hv2, hd2, ⟨g3, t3, cs3, f3, p3, q3, _, _, _, _, ⟨g4, t4, cs4, f4, p4, q4, _, _, _, _, ⟨g5, t5, cs5, f5, p5, q5, hg5, ht5, hv5, hd5, _, e5⟩, e4⟩, e3⟩, e2⟩, e1⟩, e0⟩, _, hps⟩ := h
  constructor
  · obtain rfl := Option.some.inj (gE.symm.trans hg5)
    obtain rfl := Option.some.inj (tE.symm.trans ht5)
    have hc := esc_cells hd5
    have hsz : cs5.size = 8 := by
      have := congrArg List.length hc
      simpa using this
    have hmem : MemPlace.cell 0 0 ∈ ps := by
      rw [e0, e1, e2, e3, e4, e5]
      simp only [List.mem_append]
      refine .inr (.inr (.inr (.inr (.inr (.inl (.inl ?_))))))
      rw [hsz]
      decide
    obtain ⟨⟨c, t, hh⟩, _⟩ := hps 0 0 hmem
    refine ⟨t, ?_⟩
    unfold World.var? at hv5
    rw [gE] at hv5
    simp only [Option.bind_some, hh, Option.some.injEq] at hv5
    subst hv5
    rw [hh]
    congr 2
    apply Array.ext'
    exact hc
  · obtain rfl := Option.some.inj (gP.symm.trans hg2)
    obtain rfl := Option.some.inj (tP.symm.trans ht2)
    rw [dP] at hd2
    have hc := Lib.cells_of_tab Tryz.underlying153 Tryz.underlying96 (by kernel_rfl) (by kernel_rfl) hd2
    refine Lib.tabBelow_of_tabIs ?_
    unfold Lib.TabIs
    rw [hv2, ← hc]
end Go.Proofs.YthcpmdgdbceeiaaGreatDoor
/- For every term TermJudges returns true and leaves it as it was: of a term of at most 600 terms and names, whether it is a type, a pattern, an expression, and how many terms it has, is what the document says; the chapter's example holds. No condition; the six tables and values that the program can reach are tied to its text. -/
namespace Go.Proofs.YthcpmdgdbceeiaaGreatDoor
open Go.ChangeShapes Go.WideShapes Go.ChangeAt Go.RowKit
open Go.ChangeMaps (open_string shut_string)
set_option linter.unusedVariables false

theorem door_met_termJudges (os : Os) (args : Array Value) : laidMetH Tryz.prog Rows.termJudgesRow.laid ((World.doorLaid Tryz.prog 71 os).forCall (fun _ _ => 0) ⟨#[], args, []⟩).memory :=
  laidMetH_of_parts3 (fuel := 8) (laidMet_of_run' 8 (by kernel_rfl) (by kernel_rfl)) (by kernel_rfl) (by kernel_rfl)
set_option maxRecDepth 100000 in
theorem termJudges_lifted (os : Os) (started : os.Started) (H : Type) (enc : TypeId × Value → H) :
    ReturnsInHanded {} Tryz.checked os 3 .any (fun w args => (Rows.termJudgesSpec.pre enc Tryz.prog Tryz.f3 [] false w args ∧ laidMetH Tryz.prog Rows.termJudgesRow.laid w) ∧ sizedMet enc Tryz.prog Tryz.f3 (OpenSpec.ofChange Rows.termJudgesSpec) false w args)
      (Rows.termJudgesSpec.post enc Tryz.prog Tryz.f3 false true false false) := by
  refine returnsInHanded_of_change_and (C := Tryz.checked) (X := fun w _ => laidMetH Tryz.prog Rows.termJudgesRow.laid w) (fun _ _ _ hh h => h.of_heap hh) ownKn started (by kernel_rfl) Tryz.func3
    (ChangeSpec.witness_shaped (enc := enc) (C := Tryz.checked) (os := os) (X := fun w _ => laidMetH Tryz.prog Rows.termJudgesRow.laid w) false (World.doorLaid Tryz.prog 71 os) #[.agg #[.int .i64 0, .string ⟨#[]⟩, .string ⟨#[]⟩, .int .i64 0, .slice none 0 0]] 8 rfl (World.shaped_of_RefB (by kernel_rfl) (by kernel_rfl)) (by kernel_rfl) (by kernel_rfl) (by kernel_rfl) (door_met_termJudges os _)) ?_
  intro W base args ds gs before hval0 hW _ _ hL _
  have hval : ∀ (j : Nat) t v, Tryz.f3.params[j]? = some t → args[j]? = some v → Value.okWide Tryz.prog W .any base t v := hval0
  have hW' := hW
  obtain ⟨p, q, hA0, hV, rfl, hfz, hnd⟩ := hW
  have hA : DataW.TrodAll enc Tryz.prog W 0 (fun _ => true) true Tryz.f3.params.toList args.toList ds p := hA0
  rw [Tryz.params3] at hA hval
  obtain ⟨v0, vs0, d0, ds0, p0, q0, hargs, rfl, rfl, h0, r0⟩ := trodAll_cons hA
  obtain ⟨rfl, rfl, rfl⟩ := trodAll_nil r0
  obtain rfl : args = #[v0] := by cases args; simp_all
  obtain ⟨rfl, rfl⟩ := trodVars_none hV
  have lt0 : ∀ x ∈ p0, x.block < W.heap.size := by obtain ⟨m, hm⟩ := h0; exact DataW.trod_lt m _ _ _ hm
  have k0 := h0
  obtain ⟨m0, t0, i0, z0⟩ := arg_t2 (hval 0 24 v0 rfl rfl) h0
  clear hA0 hval0
  refine (judges_walk m0 v0 t0 W i0 z0 (tabs_of hL)).mono fun e W' ⟨he, bel⟩ => ?_
  subst he
  exact ⟨_, rfl, _, _, _, [], _, [], hW', trodAll_mk1 (shut_bool Tryz.underlying4 _),
    (trodAll_cons_mk (Below.trod laidTry (by kernel_rfl) (of_decide_eq_true (by kernel_rfl)) k0 bel lt0) trodAll_mk0), rfl, bel.frame _, fun h => by cases h⟩

theorem termJudges_over : Rows.termJudgesRow.holds Tryz.pinned (OpenSpec.ofChange Rows.termJudgesSpec) :=
  OpenClaim.holds_of_wide 3 Tryz.f3 rfl rfl rfl rfl rfl rfl rfl ⟨rfl, rfl, rfl, rfl, rfl⟩ rfl rfl rfl rfl rfl (by kernel_rfl) Tryz.func3 (by kernel_rfl)
    (of_decide_eq_true (by kernel_rfl)) (by unfold Func.isWrapper; first | (rw [if_pos (by decide +kernel)]; kernel_rfl) | (rw [if_neg (by decide +kernel)]; exact ⟨rfl, rfl⟩))
    (fun os started H enc _ => termJudges_lifted os started H enc)

theorem termJudges_holds : Rows.TermJudgesCardSaid :=
  Claim7.holds_tied_plain_at .later [] [.data, .data, .data, .sentinel, .sentinel, .data] true (true, "9d0aa53789ba8d0748230f75465fd37a538eda4db994ac76c886f42fff0e0f34") true
    termJudges_over (fun _ h => by cases h) (by kernel_rfl) (fun _ h => by cases h) termJudges_row_tie rfl ⟨rfl, rfl⟩ (by kernel_rfl) rfl
    (fun f fn hf hfn => by
      obtain rfl : f = 3 := Option.some.inj ((show Tryz.prog.funcNamed "touchstone/touchstonelaw07.TermJudges" = some 3 by kernel_rfl).symm.trans hf) |>.symm
      obtain rfl : fn = Tryz.f3 := (Option.some.inj (Tryz.func3.symm.trans hfn)).symm
      exact ⟨by kernel_rfl, fun j t ht => by
        rw [Tryz.params3] at ht
        have hm : t ∈ [24] := by simpa using Array.mem_of_getElem? ht
        have hall : ([24].all fun u => !Tryz.prog.wantsStandIn u) = true := by kernel_rfl
        exact (show Tryz.prog.wantsStandIn t = false by simpa using List.all_eq_true.1 hall t hm)⟩)
    (by kernel_rfl)
#print axioms termJudges_holds
end Go.Proofs.YthcpmdgdbceeiaaGreatDoor
