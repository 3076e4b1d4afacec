/- Best: the greatest one of a list that may be. -/
import Derived.Test.YtmgnbpgcbehidaaJ1
import Derived.Test.YtmgnbpgcbehidaaA5
namespace Go.Proofs.Ytmgnbpgcbehidaa
open Go.RowKit
namespace Sv
/-- What Best answers. -/
def BestP (major : Int) (least : V) (l : List V) : Option V → Prop
  | none => ∀ x ∈ l, x.a = major → less x least = true
  | some y => y ∈ l ∧ y.a = major ∧ less y least = false ∧ ∀ x ∈ l, x.a = major → less x least = false → less y x = false
def optV : Option V → V
  | none => zero
  | some y => y
theorem best_skip {major : Int} {least : V} {l : List V} {k : Nat} {A : Option V} (hk : k < l.length) (h : BestP major least (l.take k) A) (hx : l[k].a ≠ major ∨ less l[k] least = true ∨ ∃ y, A = some y ∧ less y l[k] = false) : BestP major least (l.take (k + 1)) A := by
  cases A with
  | none =>
    intro x hm hm2
    rcases take_mem hk hm with h1 | rfl
    · exact h x h1 hm2
    · rcases hx with h2 | h2 | ⟨y, h2, _⟩
      · exact absurd hm2 h2
      · exact h2
      · cases h2
  | some y =>
    obtain ⟨a, b, c, d⟩ := h
    refine ⟨mem_more hk a, b, c, fun x hm hm2 hl => ?_⟩
    rcases take_mem hk hm with h1 | rfl
    · exact d x h1 hm2 hl
    · rcases hx with h2 | h2 | ⟨z, h2, h3⟩
      · exact absurd hm2 h2
      · rw [h2] at hl; cases hl
      · cases h2; exact h3
theorem best_first {major : Int} {least : V} {l : List V} {k : Nat} (hk : k < l.length) (h : BestP major least (l.take k) none) (h1 : l[k].a = major) (h2 : less l[k] least = false) : BestP major least (l.take (k + 1)) (some l[k]) := by
  refine ⟨mem_next hk, h1, h2, fun x hm hm2 hl => ?_⟩
  rcases take_mem hk hm with h3 | rfl
  · rw [h x h3 hm2] at hl; cases hl
  · rw [less_no]; omega
theorem best_next {major : Int} {least : V} {l : List V} {k : Nat} {y : V} (hk : k < l.length) (h : BestP major least (l.take k) (some y)) (h1 : l[k].a = major) (h2 : less l[k] least = false) (h3 : less y l[k] = true) : BestP major least (l.take (k + 1)) (some l[k]) := by
  refine ⟨mem_next hk, h1, h2, fun x hm hm2 hl => ?_⟩
  rcases take_mem hk hm with h4 | rfl
  · have h5 := h.2.2.2 x h4 hm2 hl
    rw [less_no] at h5 ⊢
    rw [less_iff] at h3
    omega
  · rw [less_no]; omega
end Sv
/-- What the blocks of Best's variables hold. -/
structure BestW (w : World) (least : Sv.V) (A : Option Sv.V) (wr : World) : Prop where
  below : Below w.heap.size w wr
  size : w.heap.size + 3 ≤ wr.heap.size
  least : wr.heap[w.heap.size]? = some (.cells #[.int .i64 least.a, .int .i64 least.b, .int .i64 least.c] 23 (0, 0))
  res : wr.heap[w.heap.size + 1]? = some (.cells #[.int .i64 0, .int .i64 0, .int .i64 0] 23 (0, 0))
  best : wr.heap[w.heap.size + 2]? = some (.cells #[.int .i64 (Sv.optV A).a, .int .i64 (Sv.optV A).b, .int .i64 (Sv.optV A).c] 23 (0, 0))
theorem BestW.more {w : World} {least : Sv.V} {A : Option Sv.V} {wr wq : World} (h : BestW w least A wr) (hb : Below wr.heap.size wr wq) : BestW w least A wq :=
  ⟨h.below.trans (hb.mono h.below.size), Nat.le_trans h.size hb.size, hb_below h.least hb (by have := h.size; omega), hb_below h.res hb (by have := h.size; omega), hb_below h.best hb (by have := h.size; omega)⟩
theorem BestW.put {w : World} {least : Sv.V} {A : Option Sv.V} {wr : World} (h : BestW w least A wr) (y : Sv.V) : BestW w least (some y) (((wr.setCell ⟨w.heap.size + 2, 0, none⟩ (.int .i64 y.a)).setCell ⟨w.heap.size + 2, 1, none⟩ (.int .i64 y.b)).setCell ⟨w.heap.size + 2, 2, none⟩ (.int .i64 y.c)) := by
  refine ⟨((h.below.setCell (by simp) _).setCell (by simp) _).setCell (by simp) _, by have := h.size; simpa using this, ?_, ?_, ?_⟩
  · exact hb_set_other (hb_set_other (hb_set_other h.least _ (by simp)) _ (by simp)) _ (by simp)
  · exact hb_set_other (hb_set_other (hb_set_other h.res _ (by simp)) _ (by simp)) _ (by simp)
  · exact hb_set_same (hb_set_same (hb_set_same h.best 0 _) 1 _) 2 _
def bst (A : Option Sv.V) : Value := .tuple #[vv (Sv.optV A), .bool A.isSome]
def BestR (major : Int) (least : Sv.V) (l : List Sv.V) (w : World) (e : Ending) (w' : World) : Prop := ∃ A, e = .returned (bst A) ∧ Sv.BestP major least l A ∧ Below w.heap.size w w'
set_option maxRecDepth 100000 in
set_option maxHeartbeats 4000000 in
theorem best_any (major : Int) (least : Sv.V) (vl : Value) (l : List Sv.V) (w : World) (hr : VRow w vl l) (hl : l.length ≤ 1000) :
    Calls Try.prog 18 #[.int .i64 major, vv least, vl] w (BestR major least l w) := by
  obtain ⟨q, c, rfl, hrow⟩ := hr
  have HR := Lib.hid hrow
  clear hrow
  have k0 := hb_alloc (hb_alloc (hb_new w (.cells (vcells least) 23)) (.cells #[.int .i64 0, .int .i64 0, .int .i64 0] 23)) (.cells #[.int .i64 0, .int .i64 0, .int .i64 0] 23)
  have k1 := hb_alloc (hb_new (w.alloc (.cells (vcells least) 23)) (.cells #[.int .i64 0, .int .i64 0, .int .i64 0] 23)) (.cells #[.int .i64 0, .int .i64 0, .int .i64 0] 23)
  have k2 := hb_new ((w.alloc (.cells (vcells least) 23)).alloc (.cells #[.int .i64 0, .int .i64 0, .int .i64 0] 23)) (.cells #[.int .i64 0, .int .i64 0, .int .i64 0] 23)
  rw [World.size_alloc] at k1
  rw [World.size_alloc, World.size_alloc] at k2
  have hS : BestW w least none (((w.alloc (.cells (vcells least) 23)).alloc (.cells #[.int .i64 0, .int .i64 0, .int .i64 0] 23)).alloc (.cells #[.int .i64 0, .int .i64 0, .int .i64 0] 23)) :=
    ⟨(below2 w _ _).trans ((below_alloc _ _).mono (by simp; omega)), by simp, k0, k1, k2⟩
  have HS := Lib.hid hS
  clear k0 k1 k2 hS
  go_enter Try.func18, Try.ntmps18
  go_wp2
  go_loopw [9, 14] (fun f i wr => ∃ (k : Nat) (A : Option Sv.V), k ≤ l.length ∧ i = .int .i64 k ∧ f = .bool A.isSome ∧ Sv.BestP major least (l.take k) A ∧ BestW w least A wr) (fun _ i _ => l.length - (intOf i).toNat)
  case atStart => exact ⟨0, none, Nat.zero_le _, rfl, rfl, by simp [Sv.BestP], HS.out⟩
  case round =>
    obtain ⟨k, A, hk, rfl, rfl, hbest, hW⟩ := hrel
    have hzr := hW.size
    have m0 := hb_at hW.least 0 rfl
    have m1 := hb_at hW.least 1 rfl
    have m2 := hb_at hW.least 2 rfl
    have r0 := hb_at hW.res 0 rfl
    have r1 := hb_at hW.res 1 rfl
    have r2 := hb_at hW.res 2 rfl
    have b0 := hb_at hW.best 0 rfl
    have b1 := hb_at hW.best 1 rfl
    have b2 := hb_at hW.best 2 rfl
    have g0 := hb_free hW.best 0
    have g1 := hb_free hW.best 1
    have g2 := hb_free hW.best 2
    have f0 := hb_free hW.res 0
    have f1 := hb_free hW.res 1
    have f2 := hb_free hW.res 2
    have hlt0 : w.heap.size < wr.heap.size := by omega
    have hlt1 : w.heap.size + 1 < wr.heap.size := by omega
    have hlt2 : w.heap.size + 2 < wr.heap.size := by omega
    by_cases hlt : k < l.length
    · obtain ⟨b, o, hq, ha⟩ := HR.out k l[k] (List.getElem?_eq_getElem hlt)
      subst hq
      obtain ⟨x0, x1, x2⟩ := ha.below hW.below ha.lt
      have hW1 := hW.more (below_alloc wr (.cells #[.int .i64 l[k].a, .int .i64 l[k].b, .int .i64 l[k].c] 23))
      have HW := Lib.hid hW
      have HW1 := Lib.hid hW1
      have HBest := Lib.hid hbest
      clear hW hW1 ha hbest
      by_cases hmaj : l[k].a = major
      · have d1 : (l[k].a == major) = true := by simpa using hmaj
        have d2 : (l[k].a != major) = false := by simpa using hmaj
        have HM := Lib.hid hmaj
        clear hmaj
        by_cases hc1 : Sv.cmp l[k] least < 0
        · have hbn := Lib.hid (Sv.best_skip hlt HBest.out (.inr (.inl ((Sv.cmp_neg _ _).1 hc1))))
          have d3 : decide (Sv.cmp l[k] least < 0) = true := decide_eq_true hc1
          clear hc1
          generalize l[k] = x at *
          go_wp2_with (go_at_call 7; ((with_reducible refine (cmp_any x least _).mono ?_); rintro e w2 ⟨rfl, hb2⟩; obtain ⟨hc2, hf2⟩ := bcell hb2; have z2 := hb2.size; rw [World.size_alloc] at z2; have y0 : w.heap.size < wr.heap.size + 1 := (by omega); have y1 : w.heap.size + 2 < wr.heap.size + 1 := (by omega)))
          go_roundw
          case rel => exact ⟨k + 1, A, by omega, by go_num, rfl, hbn.out, HW1.out.more hb2⟩
          case measure => simp [intOf]; omega
        · have hl1 : Sv.less l[k] least = false := by
            cases h : Sv.less l[k] least with
            | false => rfl
            | true => exact absurd ((Sv.cmp_neg _ _).2 h) hc1
          have d3 : decide (Sv.cmp l[k] least < 0) = false := decide_eq_false hc1
          clear hc1
          cases A with
          | none =>
            have hbn := Lib.hid (Sv.best_first hlt HBest.out HM.out hl1)
            clear hl1
            generalize l[k] = x at *
            go_wp2_with (go_at_call 7; ((with_reducible refine (cmp_any x least _).mono ?_); rintro e w2 ⟨rfl, hb2⟩; obtain ⟨hc2, hf2⟩ := bcell hb2; have z2 := hb2.size; rw [World.size_alloc] at z2; have y0 : w.heap.size < wr.heap.size + 1 := (by omega); have y1 : w.heap.size + 2 < wr.heap.size + 1 := (by omega)))
            go_roundw
            case rel => exact ⟨k + 1, some x, by omega, by go_num, rfl, hbn.out, (HW1.out.more hb2).put x⟩
            case measure => simp [intOf]; omega
          | some y =>
            have b0' : wr.cell? ⟨w.heap.size + 2, 0, none⟩ = some (.int .i64 y.a) := b0
            have b1' : wr.cell? ⟨w.heap.size + 2, 1, none⟩ = some (.int .i64 y.b) := b1
            have b2' : wr.cell? ⟨w.heap.size + 2, 2, none⟩ = some (.int .i64 y.c) := b2
            clear b0 b1 b2
            by_cases hc2 : 0 < Sv.cmp l[k] y
            · have hbn := Lib.hid (Sv.best_next hlt HBest.out HM.out hl1 ((Sv.cmp_pos _ _).1 hc2))
              have d4 : decide (0 < Sv.cmp l[k] y) = true := decide_eq_true hc2
              clear hc2 hl1
              generalize l[k] = x at *
              go_wp2_with (first
                | (go_at_call 7; ((with_reducible refine (cmp_any x least _).mono ?_); rintro e w2 ⟨rfl, hb2⟩; obtain ⟨hc2, hf2⟩ := bcell hb2; have z2 := hb2.size; rw [World.size_alloc] at z2; have y0 : w.heap.size < wr.heap.size + 1 := (by omega); have y1 : w.heap.size + 2 < wr.heap.size + 1 := (by omega)))
                | (go_at_call 7; ((with_reducible refine (cmp_any x y _).mono ?_); rintro e w3 ⟨rfl, hb3⟩; obtain ⟨hc3, hf3⟩ := bcell hb3; have z3 := hb3.size; have y3 : w.heap.size + 2 < w2.heap.size := (by omega); have y4 : wr.heap.size < w2.heap.size := (by omega))))
              go_roundw
              case rel => exact ⟨k + 1, some x, by omega, by go_num, rfl, hbn.out, ((HW1.out.more hb2).more hb3).put x⟩
              case measure => simp [intOf]; omega
            · have hl2 : Sv.less y l[k] = false := by
                cases h : Sv.less y l[k] with
                | false => rfl
                | true => exact absurd ((Sv.cmp_pos _ _).2 h) hc2
              have hbn := Lib.hid (Sv.best_skip hlt HBest.out (.inr (.inr ⟨y, rfl, hl2⟩)))
              have d4 : decide (0 < Sv.cmp l[k] y) = false := decide_eq_false hc2
              clear hc2 hl1 hl2
              generalize l[k] = x at *
              go_wp2_with (first
                | (go_at_call 7; ((with_reducible refine (cmp_any x least _).mono ?_); rintro e w2 ⟨rfl, hb2⟩; obtain ⟨hc2, hf2⟩ := bcell hb2; have z2 := hb2.size; rw [World.size_alloc] at z2; have y0 : w.heap.size < wr.heap.size + 1 := (by omega); have y1 : w.heap.size + 2 < wr.heap.size + 1 := (by omega)))
                | (go_at_call 7; ((with_reducible refine (cmp_any x y _).mono ?_); rintro e w3 ⟨rfl, hb3⟩; obtain ⟨hc3, hf3⟩ := bcell hb3; have z3 := hb3.size; have y3 : w.heap.size + 2 < w2.heap.size := (by omega); have y4 : wr.heap.size < w2.heap.size := (by omega))))
              go_roundw
              case rel => exact ⟨k + 1, some y, by omega, by go_num, rfl, hbn.out, (HW1.out.more hb2).more hb3⟩
              case measure => simp [intOf]; omega
      · have hbn := Lib.hid (Sv.best_skip hlt HBest.out (.inl hmaj))
        have d1 : (l[k].a == major) = false := by simpa using hmaj
        have d2 : (l[k].a != major) = true := by simpa using hmaj
        clear hmaj
        generalize l[k] = x at *
        go_wp2
        go_roundw
        case rel => exact ⟨k + 1, A, by omega, by go_num, rfl, hbn.out, HW1.out⟩
        case measure => simp [intOf]; omega
    · obtain rfl : k = l.length := by omega
      rw [List.take_length] at hbest
      have HBest := Lib.hid hbest
      have HW := Lib.hid hW
      clear hbest hW
      go_wp2
      exact bodyPost_ret (v := .tuple #[.agg #[.int .i64 (Sv.optV A).a, .int .i64 (Sv.optV A).b, .int .i64 (Sv.optV A).c], .bool A.isSome]) (by simp [results, Try.results18, go_sem, r0, r1, r2]) rfl ⟨A, rfl, HBest.out, ((HW.out.below.setCell (by simp) _).setCell (by simp) _).setCell (by simp) _⟩
end Go.Proofs.Ytmgnbpgcbehidaa
