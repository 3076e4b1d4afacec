/- Arguments by value: tokens; what the row assumes of the listed tables: it is met by the door's own heap; what it gives. -/
import Derived.Test.YtpedmkdpbdhenaaGreatDoorLt
import Derived.ProofKit
import Derived.LaidMore
import Derived.OpenShut
import Derived.ShutString
import Derived.ChangeOld
import Derived.ChangeSlices
import Derived.ChangeSame
import Derived.Deep.Slices
import Derived.Deep.Fields
import Derived.Lib.SmallJoins
import Derived.Lib.LaidTab
import Derived.Lib.AppendIntMem
import Derived.Stop.Joined
namespace Go.Proofs.YtpedmkdpbdhenaaGreatDoor
open Go.ChangeShapes Go.WideShapes Go.ChangeAt Go.RowKit Go.Joins Go.Deep
open Go.ChangeMaps (open_string shut_string)
set_option maxRecDepth 100000
set_option linter.unusedSimpArgs false
set_option linter.unusedVariables false
theorem ownKn : ownKnob Tryz.prog.godebug = none := by kernel_rfl
theorem laidTry : laidOutB Tryz.prog = true := by kernel_rfl
theorem TkAt.of {w : World} {b o i : Nat} {t : Tk} {a : Int} (h0 : w.cell? (((⟨b, o, none⟩ : Addr).add (i * 4)).add 0) = some (.int .i64 t.k)) (h1 : w.cell? (((⟨b, o, none⟩ : Addr).add (i * 4)).add 1) = some (.string t.s))
    (h2 : w.cell? (((⟨b, o, none⟩ : Addr).add (i * 4)).add 2) = some (.int .i64 t.n)) (h3 : w.cell? (((⟨b, o, none⟩ : Addr).add (i * 4)).add 3) = some (.int .i64 a)) : TkAt w b (o + i * 4) t a := by
  simp only [Addr.add_lit, Nat.add_zero] at h0 h1 h2 h3
  exact ⟨h0, h1, h2, h3⟩
def TkOk (x : Tk × Int) : Prop := x.1.s.size ≤ maxLen ∧ Fits x.1
theorem pick_list {α : Type} {P : Nat → α → Prop} (n : Nat) (h : ∀ i, i < n → ∃ x, P i x) : ∃ l : List α, l.length = n ∧ ∀ i x, l[i]? = some x → P i x := by
  induction n with
  | zero => exact ⟨[], rfl, fun i x hx => by simp at hx⟩
  | succ n ih =>
    obtain ⟨l, hl, hp⟩ := ih fun i hi => h i (by omega)
    obtain ⟨x, hx⟩ := h n (by omega)
    refine ⟨l ++ [x], by simp [hl], fun i y hy => ?_⟩
    rcases Nat.lt_or_ge i l.length with hi | hi
    · rw [List.getElem?_append_left hi] at hy
      exact hp i y hy
    · rw [List.getElem?_append_right hi] at hy
      have e : i - l.length = 0 := by
        rcases Nat.eq_zero_or_pos (i - l.length) with h0 | h0
        · exact h0
        · rw [List.getElem?_eq_none (by simp; omega)] at hy
          cases hy
      rw [e] at hy
      obtain rfl := Option.some.inj hy
      have e2 : i = n := by omega
      subst e2
      exact hx
theorem cells32 : Tryz.prog.cellsOf 32 = 4 := by kernel_rfl
section
variable {H : Type} {enc : TypeId × Value → H} {W : World} {base : Nat} {v : Value} {d : DataW H} {p : List MemPlace}
theorem arg_tokens (hval : Value.okWide Tryz.prog W .any base 22 v) (h : DataW.Trod enc Tryz.prog W 0 (fun _ => true) true 22 v d p) :
    ∃ l : List (Tk × Int), TksAt W v l ∧ (∀ x ∈ l, TkOk x) ∧ l.length ≤ maxLen := by
  obtain ⟨a, len, cap, rfl⟩ := okWide_slice Tryz.underlying22 hval
  obtain ⟨fuel, hf⟩ := h
  rcases open_slice Tryz.underlying22 hf with ⟨hcs, _⟩ | ⟨b, len', cap', m, n, D, Pl, hcs, _, hl, hm, hmm, _, hi⟩
  · simp [Value.cells] at hcs
    obtain ⟨rfl, rfl, rfl⟩ := hcs
    exact ⟨[], ⟨none, 0, rfl, fun i x hx => by simp at hx⟩, by simp, Nat.zero_le _⟩
  · simp [Value.cells] at hcs
    obtain ⟨rfl, rfl, rfl⟩ := hcs
    have hm2 : m = cap := by simpa using hmm
    by_cases hz : len = 0
    · subst hz
      exact ⟨[], ⟨some b, cap, rfl, fun i x hx => by simp at hx⟩, by simp, Nat.zero_le _⟩
    obtain ⟨b1, o1, rfl⟩ : ∃ b1 o1, b = ⟨b1, o1, none⟩ := by
      obtain ⟨cs, hc, _⟩ := hi 0 (by omega)
      rw [cells32] at hc
      obtain ⟨_, hcl, hat⟩ := World.cells?_some hc
      have h0 := hat 0 (by omega)
      rw [List.getElem?_eq_getElem (by omega)] at h0
      have h1 := World.cell?_spot h0
      obtain ⟨b1, o1, sp⟩ := b
      have h2 : sp = none := by simpa [Addr.add] using h1
      exact ⟨b1, o1, by rw [h2]⟩
    obtain ⟨l, hll, hp⟩ := pick_list (P := fun i x => TkAt W b1 (o1 + i * 4) x.1 x.2 ∧ TkOk x) len (fun i hi2 => by
      obtain ⟨cs, hc, ht⟩ := hi i (by omega)
      rw [cells32] at hc
      obtain ⟨ys, n', _, _, _, hys, hfs⟩ := DataW.trod_struct Tryz.underlying32 ht
      obtain ⟨_, hcl, hat⟩ := World.cells?_some hc
      match cs, hcl with
      | [c0, c1, c2, c3], _ =>
        have k3 : Tryz.prog.cellsOf 3 = 1 := by kernel_rfl
        have k9 : Tryz.prog.cellsOf 9 = 1 := by kernel_rfl
        have g0 : DataW.trod enc Tryz.prog W 0 (fun _ => true) true n' 3 (([c0, c1, c2, c3].drop 0).take (Tryz.prog.cellsOf 3)) = ys[0]? := hfs 0 _ rfl
        have g1 : DataW.trod enc Tryz.prog W 0 (fun _ => true) true n' 9 (([c0, c1, c2, c3].drop 1).take (Tryz.prog.cellsOf 9)) = ys[1]? := hfs 1 _ rfl
        have g2 : DataW.trod enc Tryz.prog W 0 (fun _ => true) true n' 3 (([c0, c1, c2, c3].drop 2).take (Tryz.prog.cellsOf 3)) = ys[2]? := hfs 2 _ rfl
        have g3 : DataW.trod enc Tryz.prog W 0 (fun _ => true) true n' 3 (([c0, c1, c2, c3].drop 3).take (Tryz.prog.cellsOf 3)) = ys[3]? := hfs 3 _ rfl
        have hy4 : ys.length = 4 := hys
        rw [k3, List.getElem?_eq_getElem (by omega)] at g0 g2 g3
        rw [k9, List.getElem?_eq_getElem (by omega)] at g1
        obtain ⟨z0, e0, _, _⟩ := DataW.trod_int Tryz.underlying3 g0
        obtain ⟨s1, e1, _, w1⟩ := DataW.trod_string Tryz.underlying9 g1
        obtain ⟨z2, e2, _, w2⟩ := DataW.trod_int Tryz.underlying3 g2
        obtain ⟨z3, e3, _, w3⟩ := DataW.trod_int Tryz.underlying3 g3
        have b2 := bounds_i64 w2
        have a0 := hat 0 (by omega)
        have a1 := hat 1 (by omega)
        have a2 := hat 2 (by omega)
        have a3 := hat 3 (by omega)
        simp at e0 e1 e2 e3
        subst e0 e1 e2 e3
        exact ⟨(⟨z0, s1, z2⟩, z3), TkAt.of a0 a1 a2 a3, w1, b2⟩)
    refine ⟨l, ⟨some ⟨b1, o1, none⟩, cap, by rw [hll], fun i x hx => ⟨b1, o1, rfl, (hp i x hx).1⟩⟩, fun x hx => ?_, by omega⟩
    obtain ⟨i, hi3, hxi⟩ := List.getElem_of_mem hx
    exact (hp i x (by rw [List.getElem?_eq_getElem hi3, hxi])).2
end
theorem gE : Tryz.prog.globalNamed "touchstone/lex.escapes" = some 0 := by kernel_rfl
theorem tE : (Tryz.prog.globals[0]?).map (·.type) = some 65 := by kernel_rfl
theorem gP : Tryz.prog.globalNamed "internal/strconv.uint64pow10" = some 2 := by kernel_rfl
theorem tP : (Tryz.prog.globals[2]?).map (·.type) = some 106 := by kernel_rfl
theorem dP : (Rows.laid_internal_strconv_uint64pow10 : DataW Unit) = Lib.tabData .u64 Lib.pow10Tab := by kernel_rfl
theorem cells65 : Tryz.prog.cellsOf 65 = 8 := by kernel_rfl
theorem cells64 : Tryz.prog.cellsOf 64 = 2 := by kernel_rfl
theorem cells5 : Tryz.prog.cellsOf 5 = 1 := by kernel_rfl
theorem pair_cells {fuel : Nat} {W : World} {c0 c1 : Value} {x y : Int} {p : List MemPlace} (h : DataW.trod (fun _ => ()) Tryz.prog W 0 (fun _ => true) false fuel 64 [c0, c1] = some (.agg [.lit (.int .u8 x), .lit (.int .u8 y)], p)) : c0 = .int .u8 x ∧ c1 = .int .u8 y := by
  obtain ⟨ys, n, _, hx, _, hys, hfs⟩ := DataW.trod_struct Tryz.underlying64 h
  have hy2 : ys.length = 2 := hys
  match ys, hy2 with
  | [y0, y1], _ =>
    have g0 : DataW.trod (fun _ => ()) Tryz.prog W 0 (fun _ => true) false n 5 (([c0, c1].drop 0).take (Tryz.prog.cellsOf 5)) = some y0 := hfs 0 _ rfl
    have g1 : DataW.trod (fun _ => ()) Tryz.prog W 0 (fun _ => true) false n 5 (([c0, c1].drop 1).take (Tryz.prog.cellsOf 5)) = some y1 := hfs 1 _ rfl
    rw [cells5] at g0 g1
    obtain ⟨z0, e0, f0, _⟩ := DataW.trod_int Tryz.underlying5 g0
    obtain ⟨z1, e1, f1, _⟩ := DataW.trod_int Tryz.underlying5 g1
    subst f0 f1
    simp at hx e0 e1
    obtain ⟨⟨h1, h2⟩, _⟩ := hx
    subst h1 h2 e0 e1
    exact ⟨rfl, rfl⟩
theorem esc_cells {fuel : Nat} {W : World} {cs : List Value} {p : List MemPlace} (h : DataW.trod (fun _ => ()) Tryz.prog W 0 (fun _ => true) false fuel 65 cs = some (Rows.laid_touchstone_lex_escapes, p)) :
    cs = [.int .u8 92, .int .u8 92, .int .u8 34, .int .u8 34, .int .u8 110, .int .u8 10, .int .u8 116, .int .u8 9] := by
  obtain ⟨xs, m, _, hx, hl, hxl, hf⟩ := DataW.trod_array Tryz.underlying65 h
  rw [cells65] at hl
  match cs, hl, xs, hxl with
  | [c0, c1, c2, c3, c4, c5, c6, c7], _, [x0, x1, x2, x3], _ =>
    have f0 := hf 0 (by omega)
    have f1 := hf 1 (by omega)
    have f2 := hf 2 (by omega)
    have f3 := hf 3 (by omega)
    rw [cells64] at f0 f1 f2 f3
    unfold Rows.laid_touchstone_lex_escapes at hx
    simp only [List.map_cons, List.map_nil, Prod.mk.injEq, DataW.agg.injEq, List.cons.injEq, and_true] at hx
    obtain ⟨⟨h0, h1, h2, h3⟩, _⟩ := hx
    obtain ⟨d0, p0⟩ := x0
    obtain ⟨d1, p1⟩ := x1
    obtain ⟨d2, p2⟩ := x2
    obtain ⟨d3, p3⟩ := x3
    simp only [] at h0 h1 h2 h3
    subst h0 h1 h2 h3
    obtain ⟨rfl, rfl⟩ := pair_cells f0
    obtain ⟨rfl, rfl⟩ := pair_cells f1
    obtain ⟨rfl, rfl⟩ := pair_cells f2
    obtain ⟨rfl, rfl⟩ := pair_cells f3
    rfl
/-- What the listed tables give. -/
theorem tabs_of {W : World} (h : laidMetH Tryz.prog Rows.lexTellsRow.laid W) : LxW W := by
  rw [MakeChecks.laidMetH_plain _ _ _ (by kernel_rfl)] at h
  obtain ⟨ps, ⟨g0, t0, cs0, f0, p0, q0, _, _, _, _, ⟨g1, t1, cs1, f1, p1, q1, _, _, _, _, ⟨g2, t2, cs2, f2, p2, q2, hg2, ht2, hv2, hd2, ⟨g3, t3, cs3, f3, p3, q3, _, _, _, _, ⟨g4, t4, cs4, f4, p4, q4, _, _, _, _, ⟨g5, t5, cs5, f5, p5, q5, hg5, ht5, hv5, hd5, _, e5⟩, e4⟩, e3⟩, e2⟩, e1⟩, e0⟩, _, hps⟩ := h
  constructor
  · obtain rfl := Option.some.inj (gE.symm.trans hg5)
    obtain rfl := Option.some.inj (tE.symm.trans ht5)
    have hc := esc_cells hd5
    have hsz : cs5.size = 8 := by
      have := congrArg List.length hc
      simpa using this
    have hmem : MemPlace.cell 0 0 ∈ ps := by
      rw [e0, e1, e2, e3, e4, e5]
      simp only [List.mem_append]
      refine .inr (.inr (.inr (.inr (.inr (.inl (.inl ?_))))))
      rw [hsz]
      decide
    obtain ⟨⟨c, t, hh⟩, _⟩ := hps 0 0 hmem
    refine ⟨t, ?_⟩
    unfold World.var? at hv5
    rw [gE] at hv5
    simp only [Option.bind_some, hh, Option.some.injEq] at hv5
    subst hv5
    rw [hh]
    congr 2
    apply Array.ext'
    exact hc
  · obtain rfl := Option.some.inj (gP.symm.trans hg2)
    obtain rfl := Option.some.inj (tP.symm.trans ht2)
    rw [dP] at hd2
    have hc := Lib.cells_of_tab Tryz.underlying106 Tryz.underlying86 (by kernel_rfl) (by kernel_rfl) hd2
    refine Lib.tabBelow_of_tabIs ?_
    unfold Lib.TabIs
    rw [hv2, ← hc]
end Go.Proofs.YtpedmkdpbdhenaaGreatDoor
