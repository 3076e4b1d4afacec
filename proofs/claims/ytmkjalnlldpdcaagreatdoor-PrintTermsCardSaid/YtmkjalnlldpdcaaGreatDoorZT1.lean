/- Texts in a row: Y0 A0 S1 Wa. -/
import Derived.WalkKit
import Derived.WalkSpells
import Derived.WalkLawsBesides
import Derived.Lib.Hide
import Derived.Laws.AppendOwn
import Derived.Below
import Derived.Outline
import Derived.Deep.RegionHeld3
import Derived.StillTailTactics
import Derived.BigQuiet
import Derived.Deep.QuietTactic
import Derived.Deep.RegionWith
import Derived.Test.YtmkjalnlldpdcaaGreatDoorRows
import Derived.Shelf.Strings.Builder1
import Derived.Shelf.Strings.Builder2
import Derived.Shelf.Strings.BuilderF
import Derived.Shelf.Strings.BuilderK
import Derived.Shelf.Strconv.Atoi
import Derived.Shelf.Strconv.Itoa0
import Derived.Shelf.Strconv.Itoa1
import Derived.Shelf.LaysM
import Derived.Shelf.Strconv.Itoa2
import Derived.Shelf.Strconv.Itoa3
import Derived.Shelf.Strconv.Clone
import Derived.Shelf.Strings.Search1
import Derived.Shelf.Strings.Search2
import Derived.Shelf.Strings.Cut
import Derived.Shelf.Strings.Shaped
import Derived.Shelf.Strings.Prefix
import Derived.Test.YtmkjalnlldpdcaaGreatDoorProg
import Derived.Deep.AppendSrc
import Derived.Deep.DeepCutAuto
import Derived.Lib.UnsafeStr
set_option maxHeartbeats 16000000
set_option maxRecDepth 100000
/- Short forms of what the texts say often: each is its default argument. -/
namespace Go.Proofs.YtmkjalnlldpdcaaGreatDoor
open Go.RowKit
set_option linter.unusedVariables false
theorem Hd {p : Prop} (h : p) : Hid p := Lib.hid h
theorem tk {P : Program} {ops : Array Oper} {Q : Exit → Act → World → Prop} {md : Region.Mode} {S : World → Prop} (i s : Nat) {op : Op} {ty : TypeId} {pos : String} {af : Array Edge} {gd : Option (Nat × Bool)} {v : Value} {fuel : Nat} {listed l2 : Array Bool} {a a2 : Act} {w : World}
    (h : wpAnyH P md ops Q S fuel l2 a2 w) (hi : ops[i]? = some ⟨some s, op, ty, pos, af, gd⟩ := by rfl) (hs : Region.noSelect ops = true := by kernel_rfl) (hf : Region.free md ops listed i = true := by kernel_rfl) (hr : (Region.ready md ops listed).contains i = true := by kernel_rfl)
    (hQ : ∀ (c : List PanicEntry) (a : Act) (w : World), Q (.panic c) (a.put (some s) v) w → Q (.panic c) a w := by exact fun _ _ _ h => h) (hg : Region.wanted ⟨some s, op, ty, pos, af, gd⟩ (yielded ops a.tmps) = true := by rfl)
    (hy : ∀ (w : World), S w → Sem.run P (execOp a.eval ⟨some s, op, ty, pos, af, gd⟩) w = Result.ok (Next.value v) w := by intro w hSw; (try dsimp only at hSw); go_simp; first | done | with_reducible rfl)
    (hS : S w := by assumption) (hl : listed.setIfInBounds i true = l2 := by (try simp only [List.setIfInBounds_toArray, List.set_cons_zero, List.set_cons_succ]); rfl)
    (ha : a.put (some s) v = a2 := by (try simp only [Act.put, List.setIfInBounds_toArray, List.set_cons_zero, List.set_cons_succ]); rfl) : wpAnyH P md ops Q S (fuel + 1) listed a w := by
  subst hl ha
  exact wpAnyH_take hi hs hf hr hQ (Or.inl ⟨hg, hy⟩) hS h
theorem Q1 {P : Prop} (h : P := by exact ⟨Hd (hHeld.1.out.trans (hb.mono hHeld.1.out.size)), keep_cell hb hHeld.2.1, keep_cell hb hHeld.2.2.1, keep_cell hb hHeld.2.2.2.1, keep_cell hb hHeld.2.2.2.2.1, keep_cell hb hHeld.2.2.2.2.2.1, keep_cell hb hHeld.2.2.2.2.2.2.1, keep_cell hb hHeld.2.2.2.2.2.2.2.1, keep_cell hb hHeld.2.2.2.2.2.2.2.2.1, keep_cell hb hHeld.2.2.2.2.2.2.2.2.2.1, keep_cell hb hHeld.2.2.2.2.2.2.2.2.2.2.1, keep_cell hb hHeld.2.2.2.2.2.2.2.2.2.2.2⟩) : P := h
theorem Q2 {P : Prop} (h : P := by have h := sat_lit (w.alloc (.cells #[.int .i64 0, .string ⟨#[]⟩, .int .i64 0, .int .i64 0] 159)) sgnL #[.string ⟨#[61]⟩, .string ⟨#[124]⟩, .string ⟨#[40]⟩, .string ⟨#[41]⟩, .string ⟨#[44]⟩, .string ⟨#[59]⟩, .string ⟨#[58]⟩, .string ⟨#[46]⟩, .string ⟨#[64]⟩] rfl 9; rw [World.size_alloc] at h; exact h) : P := h
theorem Q3 {P : Prop} (h : P := by exact ⟨Hd (below_drewN (below_alloc wr _) 1), keep_cell (below_drewN (below_alloc wr (.cells #[.int .i64 k1', .string p1', .string n1', .int .i64 N1', .slice q3 l3 c3] 24)) 1) m0, hb_at K0.out 0 rfl, hb_at K0.out 1 rfl, hb_at K0.out 2 rfl, hb_at K0.out 3 rfl, hb_at K0.out 4 rfl⟩) : P := h
theorem Q4 {P : Prop} (h : P := by first | exact HG2.out.trans hg | exact (HG2.out.alloc _).trans hg | exact ((HG2.out.alloc _).alloc _).trans hg | exact (((HG2.out.alloc _).alloc _).alloc _).trans hg | exact HG2.out.drew.trans hg | exact (HG2.out.alloc _).drew.trans hg) : P := h
theorem Q5 {P : Prop} (h : P := by first | exact HG1.out.trans hg | exact (HG1.out.alloc _).trans hg | exact ((HG1.out.alloc _).alloc _).trans hg | exact (((HG1.out.alloc _).alloc _).alloc _).trans hg | exact HG1.out.drew.trans hg | exact (HG1.out.alloc _).drew.trans hg) : P := h
theorem Q6 {P : Prop} (h : P := by first | exact HG4.out.trans hg | exact (HG4.out.alloc _).trans hg | exact ((HG4.out.alloc _).alloc _).trans hg | exact (((HG4.out.alloc _).alloc _).alloc _).trans hg | exact HG4.out.drew.trans hg | exact (HG4.out.alloc _).drew.trans hg) : P := h
theorem Q7 {P : Prop} (h : P := by first | exact HG0.out.trans hg | exact (HG0.out.alloc _).trans hg | exact ((HG0.out.alloc _).alloc _).trans hg | exact (((HG0.out.alloc _).alloc _).alloc _).trans hg | exact HG0.out.drew.trans hg | exact (HG0.out.alloc _).drew.trans hg) : P := h
theorem Q8 {P : Prop} (h : P := by first | exact HG3.out.trans hg | exact (HG3.out.alloc _).trans hg | exact ((HG3.out.alloc _).alloc _).trans hg | exact (((HG3.out.alloc _).alloc _).alloc _).trans hg | exact HG3.out.drew.trans hg | exact (HG3.out.alloc _).drew.trans hg) : P := h
theorem Q9 {P : Prop} (h : P := by first | exact HG8.out.trans hg | exact (HG8.out.alloc _).trans hg | exact ((HG8.out.alloc _).alloc _).trans hg | exact (((HG8.out.alloc _).alloc _).alloc _).trans hg | exact HG8.out.drew.trans hg | exact (HG8.out.alloc _).drew.trans hg) : P := h
theorem Q10 {P : Prop} (h : P := by first | exact HG6.out.trans hg | exact (HG6.out.alloc _).trans hg | exact ((HG6.out.alloc _).alloc _).trans hg | exact (((HG6.out.alloc _).alloc _).alloc _).trans hg | exact HG6.out.drew.trans hg | exact (HG6.out.alloc _).drew.trans hg) : P := h
theorem Q11 {P : Prop} (h : P := by first | exact HG7.out.trans hg | exact (HG7.out.alloc _).trans hg | exact ((HG7.out.alloc _).alloc _).trans hg | exact (((HG7.out.alloc _).alloc _).alloc _).trans hg | exact HG7.out.drew.trans hg | exact (HG7.out.alloc _).drew.trans hg) : P := h
theorem Q12 {P : Prop} (h : P := by first | exact HG5.out.trans hg | exact (HG5.out.alloc _).trans hg | exact ((HG5.out.alloc _).alloc _).trans hg | exact (((HG5.out.alloc _).alloc _).alloc _).trans hg | exact HG5.out.drew.trans hg | exact (HG5.out.alloc _).drew.trans hg) : P := h
theorem Q13 {P : Prop} (h : P := by exact ⟨Hd (hHeld.1.out.trans (hb.mono hHeld.1.out.size)), keep_cell hb hHeld.2.1, keep_cell hb hHeld.2.2.1, keep_cell hb hHeld.2.2.2.1, keep_cell hb hHeld.2.2.2.2.1, keep_cell hb hHeld.2.2.2.2.2.1, keep_cell hb hHeld.2.2.2.2.2.2⟩) : P := h
theorem Q14 {P : Prop} (h : P := by first | exact HR1.out | exact HR1.out.alloc _ | exact (HR1.out.alloc _).alloc _ | exact ((HR1.out.alloc _).alloc _).alloc _ | exact HR1.out.upto (fun _ _ _ => rfl) | exact (HR1.out.alloc _).upto (fun _ _ _ => rfl)) : P := h
theorem Q15 {P : Prop} (h : P := by first | exact HR2.out | exact HR2.out.alloc _ | exact (HR2.out.alloc _).alloc _ | exact ((HR2.out.alloc _).alloc _).alloc _ | exact HR2.out.upto (fun _ _ _ => rfl) | exact (HR2.out.alloc _).upto (fun _ _ _ => rfl)) : P := h
theorem Q16 {P : Prop} (h : P := by first | exact HR0.out | exact HR0.out.alloc _ | exact (HR0.out.alloc _).alloc _ | exact ((HR0.out.alloc _).alloc _).alloc _ | exact HR0.out.upto (fun _ _ _ => rfl) | exact (HR0.out.alloc _).upto (fun _ _ _ => rfl)) : P := h
theorem Q17 {P : Prop} (h : P := by first | exact HR4.out | exact HR4.out.alloc _ | exact (HR4.out.alloc _).alloc _ | exact ((HR4.out.alloc _).alloc _).alloc _ | exact HR4.out.upto (fun _ _ _ => rfl) | exact (HR4.out.alloc _).upto (fun _ _ _ => rfl)) : P := h
theorem Q18 {P : Prop} (h : P := by first | exact HR3.out | exact HR3.out.alloc _ | exact (HR3.out.alloc _).alloc _ | exact ((HR3.out.alloc _).alloc _).alloc _ | exact HR3.out.upto (fun _ _ _ => rfl) | exact (HR3.out.alloc _).upto (fun _ _ _ => rfl)) : P := h
theorem Q19 {P : Prop} (h : P := by first | exact HR8.out | exact HR8.out.alloc _ | exact (HR8.out.alloc _).alloc _ | exact ((HR8.out.alloc _).alloc _).alloc _ | exact HR8.out.upto (fun _ _ _ => rfl) | exact (HR8.out.alloc _).upto (fun _ _ _ => rfl)) : P := h
theorem Q20 {P : Prop} (h : P := by first | exact HR6.out | exact HR6.out.alloc _ | exact (HR6.out.alloc _).alloc _ | exact ((HR6.out.alloc _).alloc _).alloc _ | exact HR6.out.upto (fun _ _ _ => rfl) | exact (HR6.out.alloc _).upto (fun _ _ _ => rfl)) : P := h
theorem Q21 {P : Prop} (h : P := by first | exact HR7.out | exact HR7.out.alloc _ | exact (HR7.out.alloc _).alloc _ | exact ((HR7.out.alloc _).alloc _).alloc _ | exact HR7.out.upto (fun _ _ _ => rfl) | exact (HR7.out.alloc _).upto (fun _ _ _ => rfl)) : P := h
theorem Q22 {P : Prop} (h : P := by first | exact HR5.out | exact HR5.out.alloc _ | exact (HR5.out.alloc _).alloc _ | exact ((HR5.out.alloc _).alloc _).alloc _ | exact HR5.out.upto (fun _ _ _ => rfl) | exact (HR5.out.alloc _).upto (fun _ _ _ => rfl)) : P := h
theorem Q23 {P : Prop} (h : P := by exact ⟨Hd (hHeld.1.out.trans (hb.mono hHeld.1.out.size)), keep_cell hb hHeld.2.1, keep_cell hb hHeld.2.2.1, keep_cell hb hHeld.2.2.2.1, keep_cell hb hHeld.2.2.2.2.1, keep_cell hb hHeld.2.2.2.2.2⟩) : P := h
theorem Q24 {P : Prop} (h : P := by rw [cnt_stop (j := k) HP.out (fun c hc => by have := (List.getElem?_eq_some_iff.1 hc).1; rw [List.length_drop, len_list] at this; omega) (by rw [List.length_drop, len_list]; omega)]) : P := h
theorem Q25 {P : Prop} (h : P := by first | exact Rg.refl _ _ | exact (Rg.refl _ _).drew | exact (Rg.refl _ _).alloc _ | exact ((Rg.refl _ _).alloc _).drew | exact ((Rg.refl _ _).alloc _).alloc _) : P := h
theorem Q26 {P : Prop} (h : P := by first | exact HG1.out.trans (Rg.of_below hb) | exact (HG1.out.alloc _).trans (Rg.of_below hb) | exact ((HG1.out.alloc _).alloc _).trans (Rg.of_below hb)) : P := h
theorem Q27 {P : Prop} (h : P := by first | exact HG0.out.trans (Rg.of_below hb) | exact (HG0.out.alloc _).trans (Rg.of_below hb) | exact ((HG0.out.alloc _).alloc _).trans (Rg.of_below hb)) : P := h
theorem Q28 {P : Prop} (h : P := by rw [cnt_stop (j := k) HP.out (fun c hc => by rw [List.getElem?_drop, HX.out] at hc; cases hc; exact HB.out) (by rw [List.length_drop, len_list]; omega)]) : P := h
theorem Q29 {P : Prop} (h : P := by first | exact HG3.out.trans (Rg.of_below hb) | exact (HG3.out.alloc _).trans (Rg.of_below hb) | exact ((HG3.out.alloc _).alloc _).trans (Rg.of_below hb)) : P := h
theorem Q30 {P : Prop} (h : P := by rw [cnt_stop (j := s.size) HP.out (fun c hc => by have := (List.getElem?_eq_some_iff.1 hc).1; rw [len_list] at this; omega) Q65]) : P := h
theorem Q31 {P : Prop} (h : P := by obtain ⟨d, h⟩ := HV1.out; exact ⟨d, h.move fun b hb _ => ⟨by unfold New at hb; rw [World.size_alloc] at hb; exact hb, rfl⟩⟩) : P := h
theorem Q32 {P : Prop} (h : P := by have h9 : kk1 = 26 ∨ kk1 = 27 ∨ kk1 = 28 ∨ kk1 = 29 := (by omega); rcases h9 with rfl | rfl | rfl | rfl <;> simp [openM, kdM]) : P := h
theorem Q33 {P : Prop} (h : P := by rw [cnt_stop (j := k) HP.out (fun c hc => by rw [HX.out] at hc; cases hc; exact HB.out) Q65]) : P := h
theorem Q34 {P : Prop} (h : P := by first | exact HR1.out.below hb | exact (HR1.out.alloc _).below hb | exact ((HR1.out.alloc _).alloc _).below hb) : P := h
theorem Q35 {P : Prop} (h : P := by first | exact HR0.out.below hb | exact (HR0.out.alloc _).below hb | exact ((HR0.out.alloc _).alloc _).below hb) : P := h
theorem Q36 {P : Prop} (h : P := by exact ⟨Hd (below_drewN (Below.refl _ _) 1), x4, y0, y1, y2, y3, y4, z0, z1, z2, z3, z4⟩) : P := h
theorem Q37 {P : Prop} (h : P := by exact ⟨Hd (below_drewN (Below.refl _ _) 1), x0, x1, x2, x3, x4⟩) : P := h
theorem Q38 {P : Prop} (h : P := by simp [results, Tryz.results201, go_sem, r0, r1, r2, r3, tk0, Tk.v]) : P := h
theorem Q39 {P : Prop} (h : P := by simp [results, Tryz.results239, go_sem, r0, r1, r2, r3, tk0, Tk.v]) : P := h
theorem Q40 {P : Prop} (h : P := by simp [results, Tryz.results223, go_sem, r0, r1, r2, r3, tk0, Tk.v]) : P := h
theorem Q41 {P : Prop} (h : P := by simp [results, Tryz.results225, go_sem, r0, r1, r2, r3, Tk.v, tk0]) : P := h
theorem Q42 {P : Prop} (h : P := by simp [results, Tryz.results222, go_sem, r0, r1, r2, r3, tk0, Tk.v]) : P := h
theorem Q43 {P : Prop} (h : P := by simp [results, Tryz.results226, go_sem, r0, r1, r2, r3, Tk.v]) : P := h
theorem Q44 {P : Prop} (h : P := by have := HL1.out; simp [openM, kdM, ← HL1.out] <;> omega) : P := h
theorem Q45 {P : Prop} (h : P := by simp [results, Tryz.results172, go_sem, r0, r1, r2, r3]) : P := h
theorem Q46 {P : Prop} (h : P := by have h := hgr10.size; rw [World.size_alloc] at h; omega) : P := h
theorem Q47 {P : Prop} (h : P := by first | omega | (simp [ByteArray.size_append]; omega)) : P := h
theorem Q48 {P : Prop} (h : P := by simp [results, Tryz.results161, go_sem, q0, q1, q2]) : P := h
theorem Q49 {P : Prop} (h : P := by simp [results, Tryz.results227, go_sem, q0, q1, q2]) : P := h
theorem Q50 {P : Prop} (h : P := by rw [hSA, hSC]; apply ByteArray.ext; simp [ofL]) : P := h
theorem Q51 {P : Prop} (h : P := by simp only [List.length_append] at hl12; omega) : P := h
theorem Q52 {P : Prop} (h : P := by show w.heap.size ≠ w.heap.size + 1; omega) : P := h
theorem Q53 {P : Prop} (h : P := by simp [results, Tryz.results253, go_sem]) : P := h
theorem Q54 {P : Prop} (h : P := by rw [List.length_map, tls_ofL]; exact hl) : P := h
theorem Q55 {P : Prop} (h : P := by rw [ByteArray.size_extract]; omega) : P := h
theorem Q56 {P : Prop} (h : P := by have := HBB1.out.size; simp; omega) : P := h
theorem Q57 {P : Prop} (h : P := by rw [World.size_alloc]; omega) : P := h
theorem Q58 {P : Prop} (h : P := by show b < w8.heap.size; omega) : P := h
theorem Q59 {P : Prop} (h : P := by rw [h, ByteArray.toList_eq]) : P := h
theorem Q60 {P : Prop} (h : P := by rw [e, ByteArray.toList_eq]) : P := h
theorem Q61 {P : Prop} (h : P := by rw [List.length_map]; omega) : P := h
theorem Q62 {P : Prop} (h : P := by have := hX5.1.size; omega) : P := h
theorem Q63 {P : Prop} (h : P := by simp at hl ⊢; omega) : P := h
theorem Q64 {P : Prop} (h : P := by simp [Value.oneCell']) : P := h
theorem Q65 {P : Prop} (h : P := by rw [len_list]; omega) : P := h
theorem Q66 {P : Prop} (h : P := by unfold maxLen; omega) : P := h
theorem Q67 {P : Prop} (h : P := by rw [HM.out]; omega) : P := h
theorem Q68 {P : Prop} (h : P := by rw [HL.out]; omega) : P := h
theorem Q69 {P : Prop} (h : P := by simp; omega) : P := h
theorem Q70 {P : Prop} (h : P := by kernel_rfl) : P := h
theorem Q71 {P : Prop} (h : P := by assumption) : P := h
end Go.Proofs.YtmkjalnlldpdcaaGreatDoor
namespace Go.Proofs.YtmkjalnlldpdcaaGreatDoor
open Go.RowKit

theorem ret_int {k : IntKind} {a b : Int} (h : a = b) : Ending.returned (.int k a) = .returned (.int k b) := by rw [h]
theorem ret_bool {a b : Bool} (h : a = b) : Ending.returned (.bool a) = .returned (.bool b) := by rw [h]
section
variable {w w' : World} {b : Nat} {x : Obj}
theorem hb_lt (h : w.heap[b]? = some x) : b < w.heap.size := by
 rcases Nat.lt_or_ge b w.heap.size with h1 | h1
 · exact h1
 · simp [Array.getElem?_eq_none h1] at h
theorem hb_alloc (h : w.heap[b]? = some x) (o : Obj) : (w.alloc o).heap[b]? = some x := by rw [Below.heap_alloc w o b (hb_lt h), h]
theorem hb_set_other (h : w.heap[b]? = some x) {a : Addr} (v : Value) (hn : b ≠ a.block) : (w.setCell a v).heap[b]? = some x := by rw [Below.heap_setCell w a v b hn, h]
theorem hb_set_same {c : Array Value} {t : TypeId} {f : Nat × Nat} (h : w.heap[b]? = some (.cells c t f)) (i : Nat) (v : Value) : (w.setCell ⟨b, i, none⟩ v).heap[b]? = some (.cells (c.setIfInBounds i v) t f) := by
 unfold World.setCell
 simp only [Array.getElem?_modify]
 simp [h]
theorem hb_grown {row : Option Nat} (h : w.heap[b]? = some x) (hg : w.grownBy w' row) (hn : some b ≠ row) : w'.heap[b]? = some x := by rw [hg.block b (hb_lt h) hn, h]
theorem hb_below {B : Nat} (h : w.heap[b]? = some x) (hg : Below B w w') (hn : b < B) : w'.heap[b]? = some x := by rw [hg.block b hn, h]
theorem hb_cell {c : Array Value} {t : TypeId} {f : Nat × Nat} (h : w.heap[b]? = some (.cells c t f)) (i : Nat) : w.cell? ⟨b, i, none⟩ = c[i]? := by simp [World.cell?, h]
theorem add_zero_none (b j : Nat) : ((⟨b, 0, none⟩ : Addr).add j) = ⟨b, j, none⟩ := by
 unfold Addr.add
 by_cases hj : j = 0 <;> simp [hj]
theorem hb_cell_add {c : Array Value} {t : TypeId} {f : Nat × Nat} (h : w.heap[b]? = some (.cells c t f)) (j : Nat) : w.cell? ((⟨b, 0, none⟩ : Addr).add j) = c[j]? := by
 rw [add_zero_none, hb_cell h]
theorem hb_at {c : Array Value} {t : TypeId} {f : Nat × Nat} (h : w.heap[b]? = some (.cells c t f)) (i : Nat) {v : Value} (hv : c[i]? = some v) : w.cell? ⟨b, i, none⟩ = some v := by rw [hb_cell h, hv]
theorem hb5 {b : Nat} {w : World} {c0 c1 c2 c3 c4 : Value} {t : TypeId} {f : Nat × Nat} (h : w.heap[b]? = some (.cells #[c0, c1, c2, c3, c4] t f)) : w.cell? ⟨b, 0, none⟩ = some c0 ∧ w.cell? ⟨b, 1, none⟩ = some c1 ∧ w.cell? ⟨b, 2, none⟩ = some c2 ∧ w.cell? ⟨b, 3, none⟩ = some c3 ∧ w.cell? ⟨b, 4, none⟩ = some c4 := ⟨hb_at h 0 rfl, hb_at h 1 rfl, hb_at h 2 rfl, hb_at h 3 rfl, hb_at h 4 rfl⟩
theorem hb_free {c : Array Value} {t : TypeId} (h : w.heap[b]? = some (.cells c t (0, 0))) (i : Nat) : w.frozen? ⟨b, i, none⟩ = false := by simp [World.frozen?, h]
theorem hb_drewN (h : w.heap[b]? = some x) (n : Nat) : (w.drewN n).heap[b]? = some x := h
theorem hb_new (w : World) (o : Obj) : (w.alloc o).heap[w.heap.size]? = some o := heap_alloc_new w o
end
theorem grown_set (w : World) (a : Addr) (v : Value) : w.grownBy (w.setCell a v) (some a.block) :=
 ⟨rfl, rfl, rfl, by simp [World.setCell], fun k _ hk => Below.heap_setCell w a v k (fun e => hk (by rw [e]))⟩
theorem own_ne {w : World} {base : Nat} {e : TypeId} {size : Nat} {v : Value} {n : Nat} {xs : List Value} {k : Nat} {x : Obj} (h : w.ownsRow base e size v n xs) (hk : w.heap[k]? = some x) (hx : ∀ cs f, x ≠ .cells cs e f) : some k ≠ v.ownBlock := by
 intro hv
 rcases h with ⟨_, ⟨rfl, _⟩ | ⟨g, cap, cur, rfl, _, hb, _⟩⟩
 · cases hv
 · simp [Value.ownBlock] at hv
   subst hv
   rw [hb] at hk
   exact hx _ _ (Option.some.inj hk).symm
theorem own_kept {w w' : World} {base : Nat} {e : TypeId} {size : Nat} {v : Value} {n : Nat} {xs : List Value} (h : w.ownsRow base e size v n xs) (hk : ∀ g x, v.ownBlock = some g → w.heap[g]? = some x → w'.heap[g]? = some x) : w'.ownsRow base e size v n xs := by
 obtain ⟨hl, h⟩ := h
 refine ⟨hl, ?_⟩
 rcases h with h | ⟨g, cap, cur, rfl, hb, hg, r⟩
 · exact .inl h
 · exact .inr ⟨g, cap, cur, rfl, hb, hk g _ rfl hg, r⟩
theorem new_cells (w : World) (cs : Array Value) (t : TypeId) (l : List Value) (hl : cs.toList = l) : ∀ j u, l[j]? = some u → (w.alloc (.cells cs t)).cell? ((⟨w.heap.size, 0, none⟩ : Addr).add j) = some u := by
 intro j u h
 subst hl
 rw [add_zero_none, hb_cell (heap_alloc_new w _)]
 simpa using h
theorem below_alloc (w : World) (o : Obj) : Below w.heap.size w (w.alloc o) := (Below.refl _ _).alloc (Nat.le_refl _) o
theorem below_drewN {B : Nat} {a w : World} (h : Below B a w) (n : Nat) : Below B a (w.drewN n) := ⟨h.os, h.tape, h.output, h.size, h.block⟩
def Reads (w : World) (v : Value) (xs : List Value) : Prop :=
 (v = .slice none 0 0 ∧ xs = []) ∨ ∃ a c, v = .slice (some a) xs.length c ∧ ∀ k x, xs[k]? = some x → w.cell? (a.add k) = some x
theorem Reads.below {w w' : World} {v : Value} {xs : List Value} (h : Reads w v xs) (hb : Below w.heap.size w w') : Reads w' v xs := by
 rcases h with h | ⟨a, c, rfl, h⟩
 · exact .inl h
 · refine .inr ⟨a, c, rfl, fun k x hx => ?_⟩
   have h1 := h k x hx
   rw [hb.cell (block_lt_of_cell h1), h1]
end Go.Proofs.YtmkjalnlldpdcaaGreatDoor
namespace Go.Proofs
open Go.Shelf
def Tryz.lays170_ren : Go.Shelf.Ren := ⟨fun | 170 => 252 | n => n, fun | 70 => 71 | 3 => 3 | 0 => 0 | 72 => 74 | 37 => 72 | 5 => 5 | n => n, fun | n => n⟩
theorem Tryz.lays170 : Go.Proofs.Lays.n170 Tryz.prog Tryz.lays170_ren := {
 mixed := by kernel_rfl
 f170 := Tryz.func252.trans (congrArg some (by kernel_rfl))
 t0 := Tryz.underlying0
 a0 := Tryz.isAgg0
 z0 := Tryz.sizeOf0
 v0 := Tryz.zeroValue0
 t3 := Tryz.underlying3
 a3 := Tryz.isAgg3
 z3 := Tryz.sizeOf3
 v3 := Tryz.zeroValue3
 t37 := Tryz.underlying72
 a37 := Tryz.isAgg72
 z37 := Tryz.sizeOf72
 v37 := Tryz.zeroValue72
 t70 := Tryz.underlying71
 a70 := Tryz.isAgg71
 z70 := Tryz.sizeOf71
 v70 := Tryz.zeroValue71
 t72 := Tryz.underlying74
 a72 := Tryz.isAgg74
 z72 := Tryz.sizeOf74
 v72 := Tryz.zeroValue74 }
open Go.RowKit in
theorem Tryz.Builder_Len (B b : Nat) (bs : List Value) (w : World) (h : Lib.IsBuilder 74 5 B b bs w) :
 Calls Tryz.prog 252 #[.pointer (some ⟨b, 0, none⟩)] w fun e w' => e = .returned (.int .i64 bs.length) ∧ w' = w := Any.Builder_Len Tryz.lays170 B b bs w h
def Tryz.lays169_ren : Go.Shelf.Ren := ⟨fun | 169 => 48 | n => n, fun | 70 => 71 | 9 => 9 | 0 => 0 | 72 => 74 | 37 => 72 | 127 => 129 | 3 => 3 | 5 => 5 | n => n, fun | n => n⟩
theorem Tryz.lays169 : Go.Proofs.Lays.n169 Tryz.prog Tryz.lays169_ren := {
 mixed := by kernel_rfl
 f169 := Tryz.func48.trans (congrArg some (by kernel_rfl))
 t0 := Tryz.underlying0
 a0 := Tryz.isAgg0
 z0 := Tryz.sizeOf0
 v0 := Tryz.zeroValue0
 t3 := Tryz.underlying3
 a3 := Tryz.isAgg3
 z3 := Tryz.sizeOf3
 v3 := Tryz.zeroValue3
 t9 := Tryz.underlying9
 a9 := Tryz.isAgg9
 z9 := Tryz.sizeOf9
 v9 := Tryz.zeroValue9
 t37 := Tryz.underlying72
 a37 := Tryz.isAgg72
 z37 := Tryz.sizeOf72
 v37 := Tryz.zeroValue72
 t70 := Tryz.underlying71
 a70 := Tryz.isAgg71
 z70 := Tryz.sizeOf71
 v70 := Tryz.zeroValue71
 t72 := Tryz.underlying74
 a72 := Tryz.isAgg74
 z72 := Tryz.sizeOf74
 v72 := Tryz.zeroValue74
 t127 := Tryz.underlying129
 a127 := Tryz.isAgg129
 z127 := Tryz.sizeOf129
 v127 := Tryz.zeroValue129 }
theorem Tryz.Builder_Extra_169 : Builder.Extra Tryz.prog Tryz.lays169_ren := {
 sizeBuilder := by kernel_rfl
 liesBuilder := by kernel_rfl
 t5 := Tryz.underlying5
 a5 := Tryz.isAgg5
 z5 := Tryz.sizeOf5
 v5 := Tryz.zeroValue5
 infoByte := by kernel_rfl
 cellsByte := by kernel_rfl
 sizeByte := by kernel_rfl
 neB5 := by decide }
open Go.RowKit in
theorem Tryz.Builder_String_any (B b : Nat) (l : List UInt8) (w : World) (h : Lib.IsBuilder 74 5 B b (Lib.byteCells l) w) (hBw : B ≤ w.heap.size) :
 Calls Tryz.prog 48 #[.pointer (some ⟨b, 0, none⟩)] w fun e w' => e = .returned (.string ⟨l.toArray⟩) ∧ Below B w w' := Any.Builder_String_any Tryz.lays169 Tryz.Builder_Extra_169 B b l w h hBw
def Tryz.laysM171_ren : Go.Shelf.Ren := ⟨fun | 171 => 151 | 243 => 203 | 246 => 245 | 283 => 264 | 284 => 265 | 285 => 266 | 286 => 267 | 129 => 276 | 317 => 275 | 318 => 277 | 319 => 278 | 320 => 279 | 337 => 286 | 338 => 287 | n => n, fun | 3 => 3 | 9 => 9 | 2 => 2 | 4 => 4 | 171 => 231 | 0 => 0 | 53 => 232 | 37 => 72 | 5 => 5 | 173 => 235 | 212 => 242 | 51 => 243 | 20 => 20 | 213 => 244 | 46 => 245 | 232 => 261 | 233 => 262 | n => n, fun | 17 => 1 | 18 => 5 | 19 => 6 | n => n⟩
theorem Tryz.laysM171 : Go.Proofs.LaysM.n171 Tryz.prog Tryz.laysM171_ren := {
 mixed := by kernel_rfl
 f129 := Tryz.func276.trans (congrArg some (by kernel_rfl))
 f171 := Tryz.func151.trans (congrArg some (by kernel_rfl))
 f243 := Tryz.func203.trans (congrArg some (by kernel_rfl))
 f246 := Tryz.func245.trans (congrArg some (by kernel_rfl))
 f283 := Tryz.func264.trans (congrArg some (by kernel_rfl))
 f284 := Tryz.func265.trans (congrArg some (by kernel_rfl))
 f285 := Tryz.func266.trans (congrArg some (by kernel_rfl))
 f286 := Tryz.func267.trans (congrArg some (by kernel_rfl))
 f317 := Tryz.func275.trans (congrArg some (by kernel_rfl))
 f318 := Tryz.func277.trans (congrArg some (by kernel_rfl))
 f319 := Tryz.func278.trans (congrArg some (by kernel_rfl))
 f320 := Tryz.func279.trans (congrArg some (by kernel_rfl))
 f337 := Tryz.func286.trans (congrArg some (by kernel_rfl))
 f338 := Tryz.func287.trans (congrArg some (by kernel_rfl))
 t0 := Tryz.underlying0
 a0 := Tryz.isAgg0
 z0 := Tryz.sizeOf0
 v0 := Tryz.zeroValue0
 t2 := Tryz.underlying2
 a2 := Tryz.isAgg2
 z2 := Tryz.sizeOf2
 v2 := Tryz.zeroValue2
 t3 := Tryz.underlying3
 a3 := Tryz.isAgg3
 z3 := Tryz.sizeOf3
 v3 := Tryz.zeroValue3
 t4 := Tryz.underlying4
 a4 := Tryz.isAgg4
 z4 := Tryz.sizeOf4
 v4 := Tryz.zeroValue4
 t5 := Tryz.underlying5
 a5 := Tryz.isAgg5
 z5 := Tryz.sizeOf5
 v5 := Tryz.zeroValue5
 t9 := Tryz.underlying9
 a9 := Tryz.isAgg9
 z9 := Tryz.sizeOf9
 v9 := Tryz.zeroValue9
 t20 := Tryz.underlying20
 a20 := Tryz.isAgg20
 z20 := Tryz.sizeOf20
 v20 := Tryz.zeroValue20
 t37 := Tryz.underlying72
 a37 := Tryz.isAgg72
 z37 := Tryz.sizeOf72
 v37 := Tryz.zeroValue72
 t46 := Tryz.underlying245
 a46 := Tryz.isAgg245
 z46 := Tryz.sizeOf245
 v46 := Tryz.zeroValue245
 t51 := Tryz.underlying243
 a51 := Tryz.isAgg243
 z51 := Tryz.sizeOf243
 v51 := Tryz.zeroValue243
 t53 := Tryz.underlying232
 a53 := Tryz.isAgg232
 z53 := Tryz.sizeOf232
 v53 := Tryz.zeroValue232
 t171 := Tryz.underlying231
 a171 := Tryz.isAgg231
 z171 := Tryz.sizeOf231
 v171 := Tryz.zeroValue231
 t173 := Tryz.underlying235
 a173 := Tryz.isAgg235
 z173 := Tryz.sizeOf235
 v173 := Tryz.zeroValue235
 t212 := Tryz.underlying242
 a212 := Tryz.isAgg242
 z212 := Tryz.sizeOf242
 v212 := Tryz.zeroValue242
 t213 := Tryz.underlying244
 a213 := Tryz.isAgg244
 z213 := Tryz.sizeOf244
 t232 := Tryz.underlying261
 a232 := Tryz.isAgg261
 z232 := Tryz.sizeOf261
 v232 := Tryz.zeroValue261
 t233 := Tryz.underlying262
 a233 := Tryz.isAgg262
 z233 := Tryz.sizeOf262
 v233 := Tryz.zeroValue262
 g17 := by kernel_rfl
 g18 := by kernel_rfl
 g19 := by kernel_rfl
 i0 := by kernel_rfl
 i2 := by kernel_rfl
 i3 := by kernel_rfl
 i4 := by kernel_rfl
 i5 := by kernel_rfl
 i9 := by kernel_rfl
 i20 := by kernel_rfl
 i37 := by kernel_rfl
 i46 := by kernel_rfl
 i51 := by kernel_rfl
 i53 := by kernel_rfl
 i171 := by kernel_rfl
 i173 := by kernel_rfl
 i212 := by kernel_rfl
 i232 := by kernel_rfl
 i233 := by kernel_rfl
 m17 := by kernel_rfl
 m18 := by kernel_rfl
 m19 := by kernel_rfl }
open Go.RowKit Go.Sort Go.Lib in
theorem Tryz.strconv_Itoa (n : Int) (h0 : -9223372036854775808 ≤ n) (h1 : n ≤ 9223372036854775807) (w : World) (htab : Lib.TabIs Tryz.prog w "internal/strconv.uint64pow10" .u64 Lib.pow10Tab) :
 Calls Tryz.prog 151 #[.int .i64 n] w fun e w' => e = .returned (.string ⟨(Lib.itoa n).toArray⟩) ∧ ∃ k os, w' = grow (w.drewN k) os := Any.strconv_Itoa Tryz.laysM171 n h0 h1 w htab
def Tryz.laysM316_ren : Go.Shelf.Ren := ⟨fun | 316 => 269 | n => n, fun | 9 => 9 | 3 => 3 | 4 => 4 | 37 => 72 | 0 => 0 | 127 => 129 | 5 => 5 | n => n, fun | n => n⟩
theorem Tryz.laysM316 : Go.Proofs.LaysM.n316 Tryz.prog Tryz.laysM316_ren := {
 mixed := by kernel_rfl
 f316 := Tryz.func269.trans (congrArg some (by kernel_rfl))
 t0 := Tryz.underlying0
 a0 := Tryz.isAgg0
 z0 := Tryz.sizeOf0
 v0 := Tryz.zeroValue0
 t3 := Tryz.underlying3
 a3 := Tryz.isAgg3
 z3 := Tryz.sizeOf3
 v3 := Tryz.zeroValue3
 t4 := Tryz.underlying4
 a4 := Tryz.isAgg4
 z4 := Tryz.sizeOf4
 v4 := Tryz.zeroValue4
 t9 := Tryz.underlying9
 a9 := Tryz.isAgg9
 z9 := Tryz.sizeOf9
 v9 := Tryz.zeroValue9
 t37 := Tryz.underlying72
 a37 := Tryz.isAgg72
 z37 := Tryz.sizeOf72
 v37 := Tryz.zeroValue72
 t127 := Tryz.underlying129
 a127 := Tryz.isAgg129
 z127 := Tryz.sizeOf129
 v127 := Tryz.zeroValue129
 t5 := Tryz.underlying5
 a5 := Tryz.isAgg5
 z5 := Tryz.sizeOf5
 v5 := Tryz.zeroValue5
 i0 := by kernel_rfl
 i3 := by kernel_rfl
 i4 := by kernel_rfl
 i5 := by kernel_rfl
 i9 := by kernel_rfl
 i37 := by kernel_rfl
 i127 := by kernel_rfl }
open Go.RowKit in
theorem Tryz.stringslite_Clone (s : ByteArray) (w : World) (hlim : s.size ≤ 281474976710656) :
 Calls Tryz.prog 269 #[.string s] w fun e w' => e = .returned (.string s) ∧ Below w.heap.size w w' := Any.stringslite_Clone Tryz.laysM316 s w hlim
def Tryz.lays219_ren : Go.Shelf.Ren := ⟨fun | 219 => 285 | 217 => 290 | 225 => 291 | 224 => 292 | 267 => 293 | 266 => 296 | 314 => 297 | n => n, fun | 9 => 9 | 3 => 3 | 4 => 4 | 5 => 5 | 46 => 245 | 146 => 267 | 51 => 243 | n => n, fun | 1 => 2 | n => n⟩
theorem Tryz.lays219 : Go.Proofs.Lays.n219 Tryz.prog Tryz.lays219_ren := {
 mixed := by kernel_rfl
 f217 := Tryz.func290.trans (congrArg some (by kernel_rfl))
 f219 := Tryz.func285.trans (congrArg some (by kernel_rfl))
 f224 := Tryz.func292.trans (congrArg some (by kernel_rfl))
 f225 := Tryz.func291.trans (congrArg some (by kernel_rfl))
 f266 := Tryz.func296.trans (congrArg some (by kernel_rfl))
 f267 := Tryz.func293.trans (congrArg some (by kernel_rfl))
 f314 := Tryz.func297.trans (congrArg some (by kernel_rfl))
 t3 := Tryz.underlying3
 a3 := Tryz.isAgg3
 z3 := Tryz.sizeOf3
 v3 := Tryz.zeroValue3
 t4 := Tryz.underlying4
 a4 := Tryz.isAgg4
 z4 := Tryz.sizeOf4
 v4 := Tryz.zeroValue4
 t5 := Tryz.underlying5
 a5 := Tryz.isAgg5
 z5 := Tryz.sizeOf5
 v5 := Tryz.zeroValue5
 t9 := Tryz.underlying9
 a9 := Tryz.isAgg9
 z9 := Tryz.sizeOf9
 v9 := Tryz.zeroValue9
 t46 := Tryz.underlying245
 a46 := Tryz.isAgg245
 z46 := Tryz.sizeOf245
 v46 := Tryz.zeroValue245
 t51 := Tryz.underlying243
 a51 := Tryz.isAgg243
 z51 := Tryz.sizeOf243
 v51 := Tryz.zeroValue243
 t146 := Tryz.underlying267
 a146 := Tryz.isAgg267
 z146 := Tryz.sizeOf267
 v146 := Tryz.zeroValue267
 g1 := by kernel_rfl }
open Go.RowKit Go.Lib in
theorem Tryz.stringslite_Index_one (s : ByteArray) (c : UInt8) (w : World) :
 Calls Tryz.prog 285 #[.string s, .string ⟨#[c]⟩] w fun e w' => e = .returned (.int .i64 (Lib.indexByte s.data.toList c)) ∧ w' = w := Any.stringslite_Index_one Tryz.lays219 s c w
def Tryz.lays99_ren : Go.Shelf.Ren := ⟨fun | 99 => 216 | 206 => 248 | n => n, fun | 9 => 9 | 4 => 4 | 3 => 3 | n => n, fun | n => n⟩
theorem Tryz.lays99 : Go.Proofs.Lays.n99 Tryz.prog Tryz.lays99_ren := {
 mixed := by kernel_rfl
 f99 := Tryz.func216.trans (congrArg some (by kernel_rfl))
 f206 := Tryz.func248.trans (congrArg some (by kernel_rfl))
 t3 := Tryz.underlying3
 a3 := Tryz.isAgg3
 z3 := Tryz.sizeOf3
 v3 := Tryz.zeroValue3
 t4 := Tryz.underlying4
 a4 := Tryz.isAgg4
 z4 := Tryz.sizeOf4
 v4 := Tryz.zeroValue4
 t9 := Tryz.underlying9
 a9 := Tryz.isAgg9
 z9 := Tryz.sizeOf9
 v9 := Tryz.zeroValue9 }
open Go.RowKit Go.Lib in
theorem Tryz.strings_HasPrefix (s p : ByteArray) (w : World) :
 Calls Tryz.prog 216 #[.string s, .string p] w fun e w' => e = .returned (.bool (Lib.hasPrefix s.data.toList p.data.toList)) ∧ w' = w := Any.strings_HasPrefix Tryz.lays99 s p w
def Tryz.lays101_ren : Go.Shelf.Ren := ⟨fun | 101 => 250 | 208 => 270 | 206 => 248 | n => n, fun | 9 => 9 | 4 => 4 | 3 => 3 | n => n, fun | n => n⟩
theorem Tryz.lays101 : Go.Proofs.Lays.n101 Tryz.prog Tryz.lays101_ren := {
 mixed := by kernel_rfl
 f101 := Tryz.func250.trans (congrArg some (by kernel_rfl))
 f206 := Tryz.func248.trans (congrArg some (by kernel_rfl))
 f208 := Tryz.func270.trans (congrArg some (by kernel_rfl))
 t3 := Tryz.underlying3
 a3 := Tryz.isAgg3
 z3 := Tryz.sizeOf3
 v3 := Tryz.zeroValue3
 t4 := Tryz.underlying4
 a4 := Tryz.isAgg4
 z4 := Tryz.sizeOf4
 v4 := Tryz.zeroValue4
 t9 := Tryz.underlying9
 a9 := Tryz.isAgg9
 z9 := Tryz.sizeOf9
 v9 := Tryz.zeroValue9 }
open Go.RowKit Go.Lib in
theorem Tryz.strings_TrimPrefix (s p : ByteArray) (w : World) :
 Calls Tryz.prog 250 #[.string s, .string p] w fun e w' => e = .returned (.string ⟨(Lib.trimPrefix s.data.toList p.data.toList).toArray⟩) ∧ w' = w := Any.strings_TrimPrefix Tryz.lays101 s p w
end Go.Proofs
namespace Go.Proofs.YtmkjalnlldpdcaaGreatDoor
open Go.RowKit
set_option linter.unusedSimpArgs false
set_option linter.unusedVariables false
abbrev bytesV (l : List UInt8) : List Value := Lib.byteCells l
theorem bytesV_len (l : List UInt8) : (bytesV l).length = l.length := by simp [bytesV, Lib.byteCells]
theorem bytesV_one (l : List UInt8) : ∀ u ∈ bytesV l, u.oneCell' = true := by
 intro u hu
 simp only [bytesV, Lib.byteCells, List.mem_map] at hu
 obtain ⟨c, _, rfl⟩ := hu
 rfl
theorem byteCells_eq (s : ByteArray) : byteCells s = bytesV s.data.toList := rfl
theorem run_append_str (w : World) (base : Nat) (ty : TypeId) (i : TypeInfo) (hi : Tryz.prog.info? 5 = some i) (hz : i.zero = some (.int .u8 0)) (hsize : i.size = 1) (hby : i.bytes = 1)
 (v : Value) (n : Nat) (xs : List Value) (hown : w.ownsRow base 5 1 v n xs) (s : ByteArray) (h63 : n + s.size ≤ 140737488355328) (hbase : base ≤ w.heap.size) :
 ∃ v' w', (Builtin.append_ #[72, 9] ty #[v, .string s]).run Tryz.prog w = .ok v' w' ∧ w'.ownsRow base 5 1 v' (n + s.size) (xs ++ bytesV s.data.toList) ∧ w.grownBy w' v.ownBlock := by
 have hS := Src.ofString (P := Tryz.prog) w Tryz.underlying9 s
 have hlen : (xs ++ bytesV s.data.toList).length = (n + s.size) * 1 := by
  rw [List.length_append, hown.1, bytesV_len, Array.length_toList]
  show n * 1 + s.size = _
  omega
 have hnl : (bytesV s.data.toList).length = s.size := byteCells_length s
 have grown : ∀ (old : Nat) (row : Option Nat), old < n + s.size →
   (w.drew.alloc (.cells ((xs ++ bytesV s.data.toList).toArray ++ Builtin.zeroCells (Value.int .u8 0).cells (grownCap w (n + s.size) old 5 - (n + s.size))) 5)).ownsRow base 5 1
    (.slice (some ⟨w.heap.size, 0, none⟩) (n + s.size) (grownCap w (n + s.size) old 5)) (n + s.size) (xs ++ bytesV s.data.toList) ∧
   w.grownBy (w.drew.alloc (.cells ((xs ++ bytesV s.data.toList).toArray ++ Builtin.zeroCells (Value.int .u8 0).cells (grownCap w (n + s.size) old 5 - (n + s.size))) 5)) row := by
  intro old row ho
  have hge := grownCap_ge w (n + s.size) old 5
  have hcm : grownCap w (n + s.size) old 5 ≤ maxLen := grownCap_le_maxLen w (n + s.size) old 5 Q66
  refine ⟨⟨hlen, .inr ⟨w.heap.size, _, _, rfl, hbase, heap_alloc_new w.drew _, hge, hcm, ?_, ?_⟩⟩, ⟨rfl, rfl, rfl, by simp, fun k hk _ => Below.heap_alloc w.drew _ k hk⟩⟩
  · simp only [Array.size_append, List.size_toArray, size_zeroCells, hlen]
    have : (Value.int IntKind.u8 0).cells.size = 1 := rfl
    rw [this]
    omega
  · simp only [Array.toList_append]
    rw [← hlen]
    exact List.take_left
 rcases hown.2 with ⟨rfl, rfl⟩ | ⟨g, cap, cur, rfl, hbg, hg, hnc, hcm, hcs, htake⟩
 · have hx : xs = [] := List.eq_nil_of_length_eq_zero (by simpa using hown.1)
   subst hx
   by_cases hm : s.size = 0
   · have hn : bytesV s.data.toList = [] := List.eq_nil_of_length_eq_zero (by rw [hnl, hm])
     refine ⟨.slice none 0 0, w, ?_, ?_, ⟨rfl, rfl, rfl, Nat.le_refl _, fun _ _ _ => rfl⟩⟩
     · have hc := hS.cells
       rw [hm] at hc
       rw [byteCells_eq, hn] at hc
       simp [Builtin.append_, run_underlying Tryz.underlying72, run_underlying Tryz.underlying9, sizeOf, typeInfo, hi, Builtin.lenOf, hm, hsize, hc, storeCells]
     · rw [hn, hm]
       exact World.ownsRow_nil w base 5 1
   · have hr := run_append_grow_src (P := Tryz.prog) w 72 9 ty 5 i _ Tryz.underlying72 hi hz none 0 0 [] (by rw [hsize]; exact run_firstCells_none w.drew 1 0 0 0) (.string s) s.size _ (by rw [hsize]; exact hS) (by omega) (by omega)
      (by rw [hby]; exact growslice_fits (by omega) (by omega))
     rw [byteCells_eq] at hr
     have hgr := grown 0 none (by omega)
     exact ⟨_, _, hr, hgr.1, hgr.2⟩
 · by_cases hroom : n + s.size ≤ cap
   · have hf := hS.cells
     rw [byteCells_eq] at hf
     have hst := run_storeCells_at Tryz.prog g n 5 (bytesV s.data.toList) 0 cur w hg (by omega) (bytesV_one _)
     simp only [Nat.add_zero] at hst
     have hr : (Builtin.append_ #[72, 9] ty #[.slice (some ⟨g, 0, none⟩) n cap, .string s]).run Tryz.prog w =
       .ok (.slice (some ⟨g, 0, none⟩) (n + s.size) cap) (w.setRow g (cur.toList.take n ++ bytesV s.data.toList ++ cur.toList.drop (n + (bytesV s.data.toList).length)).toArray) := by
      simp [Builtin.append_, run_underlying Tryz.underlying72, run_underlying Tryz.underlying9, sizeOf, typeInfo, hi, Builtin.lenOf, hroom, hf, Addr.add_lit, hst, hsize]
     refine ⟨_, _, hr, ⟨hlen, .inr ⟨g, cap, _, rfl, hbg, setRow_heap w g cur _ 5 _ hg, hroom, hcm, ?_, ?_⟩⟩, ⟨rfl, rfl, rfl, by simp, fun k _ hk => setRow_other w g k _ (fun e => hk (by simp [Value.ownBlock, e]))⟩⟩
     · simp only [List.size_toArray, List.length_append, List.length_take, List.length_drop, Array.length_toList, hnl]
       omega
     · have ht : cur.toList.take n = xs := by simpa using htake
       rw [ht, ← hlen]
       exact List.take_left
   · have holds : ∀ j u, xs[j]? = some u → w.cell? ((⟨g, 0, none⟩ : Addr).add j) = some u := hown.cells (g := g) rfl
     have hr := run_append_grow_src (P := Tryz.prog) w 72 9 ty 5 i _ Tryz.underlying72 hi hz (some ⟨g, 0, none⟩) n cap xs (by rw [hsize]; exact run_firstCells_some w.drew 1 n ⟨g, 0, none⟩ n cap xs hown.1 (by simpa using holds)) (.string s) s.size _ (by rw [hsize]; exact hS) (by omega) (by omega)
      (by rw [hby]; exact growslice_fits (by omega) (by omega))
     rw [byteCells_eq] at hr
     have hgr := grown cap (Value.ownBlock (.slice (some ⟨g, 0, none⟩) n cap)) (by omega)
     exact ⟨_, _, hr, hgr.1, hgr.2⟩

theorem wpList_append_str {ops : Array Oper} {rest : List Oper} {o : Oper} {a : Act} {w : World} {Q : Exit → Act → World → Prop} (hgd : o.guard = none) (s x : Operand)
 (ho : o.op = .call { callee := .builtin .append, args := #[s, x], argTypes := #[72, 9] })
 (base : Nat) (i : TypeInfo) (hi : Tryz.prog.info? 5 = some i) (hz : i.zero = some (.int .u8 0)) (hsize : i.size = 1) (hby : i.bytes = 1)
 (v : Value) (n : Nat) (xs : List Value) (hs : a.eval s = v) (hown : w.ownsRow base 5 1 v n xs) (t : ByteArray) (hx : a.eval x = .string t)
 (h63 : n + t.size ≤ 140737488355328) (hbase : base ≤ w.heap.size)
 (h : ∀ v' w', w'.ownsRow base 5 1 v' (n + t.size) (xs ++ bytesV t.data.toList) → w.grownBy w' v.ownBlock → wpList Tryz.prog ops Q rest (a.put o.dst v') w') : wpList Tryz.prog ops Q (o :: rest) a w :=
 wpList_plain hgd fun _ hK => by
  obtain ⟨v', w', hr, h2, h3⟩ := run_append_str w base o.type i hi hz hsize hby v n xs hown t h63 hbase
  unfold Oper.wp execOp
  simp only [ho, resolve, invoke, builtin, Sem.run_bind, Sem.run_pure, Result.andThen_ok, List.map_toArray, List.map_cons, List.map_nil, hs, hx, hr]
  exact hK _ _ (h v' w' h2 h3)

def Wr (B b : Nat) (l x : List UInt8) (w w' : World) : Prop := Lib.IsBuilder 76 5 B b (Lib.byteCells (l ++ x)) w' ∧ Below B w w' ∧ ∀ k cs T fr, k ≠ b → T ≠ 5 → w.heap[k]? = some (.cells cs T fr) → w'.heap[k]? = some (.cells cs T fr)
theorem isT_below {B b : Nat} {bs : List Value} {w w' : World} (h : Lib.IsBuilder 76 5 B b bs w) (hb : Below w.heap.size w w') : Lib.IsBuilder 76 5 B b bs w' := by
 have hg : w.grownBy w' none := ⟨hb.os, hb.tape, hb.output, hb.size, fun k hk _ => hb.block k hk⟩
 have one : ∀ p, Lib.BuilderAt 76 5 B b p bs w → Lib.BuilderAt 76 5 B b p bs w' := by
  rintro p ⟨hB, v, hbk, hown, hne⟩
  exact ⟨hB, v, by rw [hb.block b (Array.getElem?_eq_some_iff.1 hbk).1]; exact hbk, hown.kept hg (by cases e : v.ownBlock <;> simp), hne⟩
 exact h.elim (fun x => .inl (one _ x)) (fun x => .inr (one _ x))
theorem Wr.refl {B b : Nat} {l : List UInt8} {w : World} (h : Lib.IsBuilder 76 5 B b (Lib.byteCells l) w) : Wr B b l [] w w := ⟨by rw [List.append_nil]; exact h, Below.refl _ _, fun _ _ _ _ _ _ h => h⟩
theorem Wr.trans {B b : Nat} {l x y : List UInt8} {w w1 w2 : World} (h : Wr B b l x w w1) (k : Wr B b (l ++ x) y w1 w2) : Wr B b l (x ++ y) w w2 :=
 ⟨by rw [← List.append_assoc]; exact k.1, h.2.1.trans k.2.1, fun g cs T fr h1 h2 h3 => k.2.2 g cs T fr h1 h2 (h.2.2 g cs T fr h1 h2 h3)⟩
theorem Wr.grow {B b : Nat} {l x : List UInt8} {w w1 w2 : World} (h : Wr B b l x w w1) (hB : B ≤ w1.heap.size) (hb : Below w1.heap.size w1 w2) : Wr B b l x w w2 :=
 ⟨isT_below h.1 hb, h.2.1.trans (hb.mono hB), fun g cs T fr h1 h2 h3 => by
  have h4 := h.2.2 g cs T fr h1 h2 h3
  rw [hb.block g (hb_lt h4)]; exact h4⟩
theorem info74 : ∃ j, Tryz.prog.info? 74 = some j ∧ j.size ≠ 0 := by
 obtain ⟨j, hj, hjs⟩ := Option.map_eq_some_iff.1 Tryz.Builder_Extra_169.sizeBuilder
 exact ⟨j, hj, by rw [hjs]; decide⟩
theorem tk_used (b : Nat) (w : World) (h0 : w.cell? ⟨b, 0, none⟩ = some (.pointer (some ⟨b, 0, none⟩))) :
 Calls Tryz.prog 202 #[.pointer (some ⟨b, 0, none⟩)] w fun e w' => e = .returned (.tuple #[]) ∧ w = w' := by
 obtain ⟨j, hj, hjs⟩ := info74
 go_enter Tryz.func202, Tryz.ntmps202
 go_wp2
 rw [Lib.run_neq_ptr_same w _ Tryz.underlying71 hj]
 go_wp2
 go_end0
 exact ⟨rfl, rfl⟩
theorem tk_fresh (b : Nat) (w : World) (h0 : w.cell? ⟨b, 0, none⟩ = some (.pointer none)) (hsh : w.shape? b = some (76, 2)) (hfz : w.frozen? ⟨b, 0, none⟩ = false) :
 Calls Tryz.prog 202 #[.pointer (some ⟨b, 0, none⟩)] w fun e w' => e = .returned (.tuple #[]) ∧ w' = w.setCell ⟨b, 0, none⟩ (.pointer (some ⟨b, 0, none⟩)) := by
 obtain ⟨j, hj, hjs⟩ := info74
 go_enter Tryz.func202, Tryz.ntmps202
 go_wp2
 rw [Lib.run_to_unsafe w ⟨b, 0, none⟩ Tryz.underlying71 Tryz.underlying216 hj hjs hsh (Nat.zero_lt_succ 1)]
 simp only [Result.andThen]
 rw [Oper.upon_value]
 go_wp2
 rw [run_callFunc_extern Tryz.func244 Q70 Q70 Q70 (e := Extern.AbiNoEscape.same) Q70, Lib.run_noEscape]
 simp only [Result.andThen]
 rw [Oper.upon_value]
 go_wp2
 rw [Lib.run_from_unsafe w ⟨b, 0, none⟩ Tryz.underlying216 Tryz.underlying71 hj hsh Q70]
 simp only [Result.andThen]
 rw [Oper.upon_value]
 go_wp2
 go_end0
 exact ⟨rfl, rfl⟩
theorem tk_any (B b : Nat) (l : List UInt8) (w : World) (h : Lib.IsBuilder 76 5 B b (Lib.byteCells l) w) :
 Calls Tryz.prog 202 #[.pointer (some ⟨b, 0, none⟩)] w fun e w' => e = .returned (.tuple #[]) ∧ Lib.BuilderAt 76 5 B b (.pointer (some ⟨b, 0, none⟩)) (Lib.byteCells l) w' ∧ Below B w w' ∧ ∀ k, k ≠ b → w'.heap[k]? = w.heap[k]? := by
 rcases h with h | h
 · refine (tk_fresh b w h.cell0 h.shape h.frozen0).mono ?_
   rintro e w' ⟨rfl, rfl⟩
   exact ⟨rfl, h.used _, (Below.refl B w).setCell (p := ⟨b, 0, none⟩) h.1 _, fun k hk => Below.heap_setCell _ _ _ _ (by simpa using hk)⟩
 · refine (tk_used b w h.cell0).mono ?_
   rintro e w' ⟨rfl, rfl⟩
   exact ⟨rfl, h, Below.refl B _, fun _ _ => rfl⟩
theorem ws_any (B b : Nat) (l : List UInt8) (s : ByteArray) (w : World) (h : Lib.IsBuilder 76 5 B b (Lib.byteCells l) w) (hl : l.length + s.size ≤ 1000000000) (hBw : B ≤ w.heap.size) :
 Calls Tryz.prog 149 #[.pointer (some ⟨b, 0, none⟩), .string s] w fun e w' => e = .returned (.tuple #[.int .i64 s.size, .nilIface]) ∧ Wr B b l s.data.toList w w' := by
 have hlen : (Lib.byteCells l).length = l.length := Lib.byteCells_length l
 obtain ⟨i0, hi, hz0, hz1, hz2⟩ := info_parts Tryz.Builder_Extra_169.infoByte
 have HK := Hd (fun W hW => tk_any B b l W hW)
 have HH := Hd h
 clear h
 go_enter Tryz.func149, Tryz.ntmps149
 go_upto_region 2 with (go_at_call 202; refine (HK.out _ HH.out).mono ?_; rintro e w1 ⟨rfl, h1, hb1, ho1⟩)
 obtain ⟨hB, v, hbk, hown, hne⟩ := h1
 have hlt := hb_lt hbk
 have c0 : w1.cell? ⟨b, 0, none⟩ = some (.pointer (some ⟨b, 0, none⟩)) := by rw [Lib.cell_of_heap hbk]; rfl
 have c1 : w1.cell? ⟨b, 1, none⟩ = some v := by rw [Lib.cell_of_heap hbk]; rfl
 have hs1 := hb1.size
 have hs0 : B ≤ w1.heap.size := by have := hs1; omega
 go_wp2_with (at_builtin; refine wpList_append_str rfl _ _ rfl B i0 hi hz0 hz1 hz2 v _ _ rfl hown s rfl ?c1 hs0 ?_)
 case c1 => rw [hlen]; omega
 intro v' w2 hown' hgrow
 have hvb : ∀ (k : Nat) (cs : Array Value) (T : TypeId) (fr : Nat × Nat), T ≠ 5 → w1.heap[k]? = some (Obj.cells cs T fr) → w2.heap[k]? = some (Obj.cells cs T fr) := by
  intro k cs T fr hT hk
  rw [hgrow.block k (hb_lt hk) ?_]
  · exact hk
  · intro e
    rcases hown.2 with ⟨rfl, _⟩ | ⟨g, cap, cur, rfl, hbg, hg, _⟩
    · simp [Value.ownBlock] at e
    · simp [Value.ownBlock] at e
      subst e
      rw [hg] at hk
      cases hk
      exact hT rfl
 have hb2 : w2.heap[b]? = some (.cells #[.pointer (some ⟨b, 0, none⟩), v] 76 (0, 0)) := hvb b _ 76 _ (by decide) hbk
 have d0 : w2.cell? ⟨b, 0, none⟩ = some (.pointer (some ⟨b, 0, none⟩)) := by rw [Lib.cell_of_heap hb2]; rfl
 have d1 : w2.cell? ⟨b, 1, none⟩ = some v := by rw [Lib.cell_of_heap hb2]; rfl
 have f1 : w2.frozen? ⟨b, 1, none⟩ = false := Lib.frozen_of_heap hb2 1
 have hbc : Lib.byteCells (l ++ s.data.toList) = Lib.byteCells l ++ bytesV s.data.toList := by simp [Lib.byteCells, bytesV]
 have hln : (Lib.byteCells (l ++ s.data.toList)).length = (Lib.byteCells l).length + s.size := by
  rw [hbc, List.length_append]
  exact congrArg _ ((bytesV_len _).trans rfl)
 have fin : ∀ (W : World), W = w2.setCell ⟨b, 1, none⟩ v' → Wr B b l s.data.toList w W := by
  rintro W rfl
  refine ⟨.inr ?_, (hb1.grown hgrow hs0 (fun k hk => (hown.lt k hk).1)).setCell (p := ⟨b, 1, none⟩) hB _, ?_⟩
  · exact Lib.BuilderAt.put (T := 76) (e := 5) hB hb2 (bs' := Lib.byteCells (l ++ s.data.toList)) (by rw [hln, hbc, hlen]; exact hown') (by decide)
  · intro k cs T fr hk hT hw
    rw [Below.heap_setCell _ _ _ _ (by simpa using hk)]
    exact hvb k cs T fr hT (by rw [ho1 k hk]; exact hw)
 rcases hown'.2 with ⟨hv, h0⟩ | ⟨g, cap, cur, hv, _⟩
 · rw [hv] at fin ⊢
   go_wp2
   go_ret2
   exact ⟨rfl, fin _ rfl⟩
 · rw [hv] at fin ⊢
   go_wp2
   go_ret2
   exact ⟨rfl, fin _ rfl⟩
end Go.Proofs.YtmkjalnlldpdcaaGreatDoor
