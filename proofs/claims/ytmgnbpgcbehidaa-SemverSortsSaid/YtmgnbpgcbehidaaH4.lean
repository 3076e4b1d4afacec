/- Around: its walk. -/
import Derived.Test.YtmgnbpgcbehidaaG65
import Derived.Test.YtmgnbpgcbehidaaG4
import Derived.Test.YtmgnbpgcbehidaaH3
import Derived.Outline
namespace Go.Proofs.Ytmgnbpgcbehidaa
open Go.RowKit
/-- What Around answers. -/
def AroundR (l : List Sv.V) (v : Sv.V) (w : World) (e : Ending) (w' : World) : Prop := ∃ va vb A B, e = .returned (.tuple #[va, vb]) ∧ OneV w' w.heap.size va A ∧ OneV w' w.heap.size vb B ∧ Sv.BelP l v A ∧ Sv.AbvP l v B ∧ Below w.heap.size w w'
theorem OneV.drew {w : World} {base : Nat} {v : Value} {A : Option Sv.V} (h : OneV w base v A) : OneV w.drew base v A := by cases A <;> exact h
theorem cmp_is {x v : Sv.V} : (Sv.cmp x v = -1 ∧ Sv.less x v = true ∧ Sv.less v x = false) ∨ (Sv.cmp x v = 1 ∧ Sv.less v x = true ∧ Sv.less x v = false) ∨ (Sv.cmp x v = 0 ∧ Sv.less x v = false ∧ Sv.less v x = false) := by
  have r := Sv.cmp_range x v
  have a := Sv.cmp_neg x v
  have b := Sv.cmp_pos x v
  rcases Int.lt_trichotomy (Sv.cmp x v) 0 with h | h | h
  · refine .inl ⟨by omega, a.1 h, ?_⟩
    cases g : Sv.less v x with
    | false => rfl
    | true => have := b.2 g; omega
  · refine .inr (.inr ⟨h, ?_, ?_⟩)
    · cases g : Sv.less x v with
      | false => rfl
      | true => have := a.2 g; omega
    · cases g : Sv.less v x with
      | false => rfl
      | true => have := b.2 g; omega
  · refine .inr (.inl ⟨by omega, b.1 h, ?_⟩)
    cases g : Sv.less x v with
    | false => rfl
    | true => have := a.2 g; omega
theorem cmp_lit (x v : Sv.V) (r : Int) (h : Sv.cmp x v = r) (w : World) : Calls Try.prog 7 #[vv x, vv v] w fun e w' => e = .returned (.int .i64 r) ∧ Below w.heap.size w w' := by rw [← h]; exact cmp_any x v w
set_option maxRecDepth 100000 in
set_option maxHeartbeats 4000000 in
theorem around_of (v : Sv.V) (vl : Value) (l : List Sv.V) (w : World) (hr : VRow w vl l) (hok : ∀ x ∈ l, OkV x)
    (hsf : ∀ W, VRow W vl l → Calls Try.prog 21 #[vl] W (SortedR (inB l) W.heap.size W)) :
    Calls Try.prog 16 #[vv v, vl] w (AroundR l v w) := by
  have HF := Lib.hid (hsf _ (hr.below (below_alloc w (.cells #[.int .i64 v.a, .int .i64 v.b, .int .i64 v.c] 23))))
  have HO := Lib.hid hok
  clear hsf hok hr
  go_enter Try.func16, Try.ntmps16
  go_wp2_with (go_at_call 21; refine HF.out.mono ?_; rintro e w1 ⟨vs, ls, rfl, hS⟩; have HS := Lib.hid hS; obtain ⟨q, c, rfl, hrow⟩ := VRow.own hS.own; have HR := Lib.hid hrow; clear hrow hS)
  have hb1 := HS.out.below
  rw [World.size_alloc] at hb1
  have v0 : w1.cell? ⟨w.heap.size, 0, none⟩ = some (.int .i64 v.a) := (hb1.cell (p := ⟨w.heap.size, 0, none⟩) (by simp)).trans (hb_at (hb_new w _) 0 rfl)
  have v1 : w1.cell? ⟨w.heap.size, 1, none⟩ = some (.int .i64 v.b) := (hb1.cell (p := ⟨w.heap.size, 1, none⟩) (by simp)).trans (hb_at (hb_new w _) 1 rfl)
  have v2 : w1.cell? ⟨w.heap.size, 2, none⟩ = some (.int .i64 v.c) := (hb1.cell (p := ⟨w.heap.size, 2, none⟩) (by simp)).trans (hb_at (hb_new w _) 2 rfl)
  have hz1 : w.heap.size + 1 ≤ w1.heap.size := by simpa using hb1.size
  have hbw : Below w.heap.size w w1 := (below_alloc w _).trans (hb1.mono (by omega))
  have HBW := Lib.hid hbw
  have V0 := Lib.hid v0
  have V1 := Lib.hid v1
  have V2 := Lib.hid v2
  have hlen : ls.length ≤ maxLen := by
    rcases HS.out.own.2 with ⟨_, h⟩ | ⟨_, cap, _, _, _, _, h1, h2, _⟩
    · rw [h]; exact Nat.zero_le _
    · omega
  unfold maxLen at hlen
  clear hb1 v0 v1 v2 hbw
  have HMEM : RowKit.Hid (∀ x, x ∈ ls ↔ x ∈ l) := Lib.hid (fun x => ⟨fun h => by simpa [inB] using (HS.out.mem x (HS.out.ok x h)).1 h, fun h => (HS.out.mem x (HO.out x h)).2 (by simpa [inB] using h)⟩)
  go_loopw [4, 11] (fun va i wr => ∃ (k : Nat) (A : Option Sv.V), k ≤ ls.length ∧ i = .int .i64 k ∧ OneV wr w.heap.size va A ∧ Sv.BelP (ls.take k) v A ∧ Sv.AbvP (ls.take k) v none ∧ Below w1.heap.size w1 wr) (fun _ i _ => ls.length - (intOf i).toNat)
  case atStart => exact ⟨0, none, Nat.zero_le _, rfl, rfl, by simp [Sv.BelP], by simp [Sv.AbvP], Below.refl _ _⟩
  case round =>
    obtain ⟨k, A, hk, rfl, hA, hbel, habv, hB⟩ := hrel
    have hzr := hB.size
    by_cases hlt : k < ls.length
    · obtain ⟨b, o, hq, ha⟩ := HR.out k ls[k] (List.getElem?_eq_getElem hlt)
      subst hq
      obtain ⟨x0, x1, x2⟩ := ha.below hB ha.lt
      have v0 : wr.cell? ⟨w.heap.size, 0, none⟩ = some (.int .i64 v.a) := (hB.cell (p := ⟨w.heap.size, 0, none⟩) (by simp; omega)).trans V0.out
      have v1 : wr.cell? ⟨w.heap.size, 1, none⟩ = some (.int .i64 v.b) := (hB.cell (p := ⟨w.heap.size, 1, none⟩) (by simp; omega)).trans V1.out
      have v2 : wr.cell? ⟨w.heap.size, 2, none⟩ = some (.int .i64 v.c) := (hB.cell (p := ⟨w.heap.size, 2, none⟩) (by simp; omega)).trans V2.out
      have hxlt : b < wr.heap.size := Nat.lt_of_lt_of_le ha.lt hzr
      have hvlt : w.heap.size < wr.heap.size := by omega
      have HA := Lib.hid hA
      have HBel := Lib.hid hbel
      have HAbv := Lib.hid habv
      have HB := Lib.hid hB
      clear hA hbel habv hB ha
      by_cases hmaj : ls[k].a = v.a
      · have d1 : (ls[k].a == v.a) = true := by simpa using hmaj
        have HM := Lib.hid hmaj
        clear hmaj
        rcases cmp_is (x := ls[k]) (v := v) with ⟨hc, hl1, hl2⟩ | ⟨hc, hl1, hl2⟩ | ⟨hc, hl1, hl2⟩
        · have HC := Lib.hid (fun W => cmp_lit _ _ _ hc W)
          have HL := Lib.hid hl1
          have HL2 := Lib.hid hl2
          clear hc hl1 hl2
          have hbn := Lib.hid (Sv.bel_next (v := v) HS.out.asc hlt HM.out HL.out)
          have han := Lib.hid (Sv.abv_skip (v := v) hlt HAbv.out (.inr HL2.out))
          generalize hy : ls[k] = y at *
          have HY := Lib.hid hy
          clear hy
          go_wp2_with (go_at_call 7; refine (HC.out _).mono ?_; rintro e w2 ⟨rfl, hb2⟩; obtain ⟨hc2, hf2⟩ := bcell hb2; have z2 := hb2.size; rw [World.size_alloc] at z2; have y2 : wr.heap.size < w2.heap.size := (by omega))
          have hbb : Below wr.heap.size wr w2 := (below_alloc wr _).trans (hb2.mono (by simp))
          go_roundw
          case rel => exact ⟨k + 1, some y, by omega, by go_num, ⟨w2.heap.size, by omega, rfl, hb_at (hb_new w2 _) 0 rfl, hb_at (hb_new w2 _) 1 rfl, hb_at (hb_new w2 _) 2 rfl⟩, hbn.out, han.out, (HB.out.trans (hbb.mono hzr)).alloc (by omega) _⟩
          case measure => simp [intOf]; omega
        · have HC := Lib.hid (fun W => cmp_lit _ _ _ hc W)
          have HL := Lib.hid hl1
          have HL2 := Lib.hid hl2
          clear hc hl1 hl2
          have hbn := Lib.hid (Sv.bel_mem (Sv.bel_stop (v := v) HS.out.asc hlt HBel.out HL.out) HMEM.out)
          have han := Lib.hid (Sv.abv_mem (Sv.abv_found (v := v) HS.out.asc hlt HAbv.out HM.out HL.out) HMEM.out)
          generalize hy : ls[k] = y at *
          have HY := Lib.hid hy
          clear hy
          go_wp2_with (go_at_call 7; refine (HC.out _).mono ?_; rintro e w2 ⟨rfl, hb2⟩; obtain ⟨hc2, hf2⟩ := bcell hb2; have z2 := hb2.size; rw [World.size_alloc] at z2; have y2 : wr.heap.size < w2.heap.size := (by omega))
          have hbb : Below wr.heap.size wr w2 := (below_alloc wr _).trans (hb2.mono (by simp))
          have t0 : w2.cell? ⟨wr.heap.size, 0, none⟩ = some (.int .i64 y.a) := (hb2.cell (p := ⟨wr.heap.size, 0, none⟩) (by simp)).trans (hb_at (hb_new wr _) 0 rfl)
          have t1 : w2.cell? ⟨wr.heap.size, 1, none⟩ = some (.int .i64 y.b) := (hb2.cell (p := ⟨wr.heap.size, 1, none⟩) (by simp)).trans (hb_at (hb_new wr _) 1 rfl)
          have t2 : w2.cell? ⟨wr.heap.size, 2, none⟩ = some (.int .i64 y.c) := (hb2.cell (p := ⟨wr.heap.size, 2, none⟩) (by simp)).trans (hb_at (hb_new wr _) 2 rfl)
          clear hc2 hf2
          go_region_held3 (fun w' => w'.cell? ⟨wr.heap.size, 0, none⟩ = some (.int .i64 y.a) ∧ w'.cell? ⟨wr.heap.size, 1, none⟩ = some (.int .i64 y.b) ∧ w'.cell? ⟨wr.heap.size, 2, none⟩ = some (.int .i64 y.c)) (first | exact ⟨t0, t1, t2⟩ | go_keep) (fail)
          go_wp2
          go_ret2
          have hbq : Below w.heap.size w w2 := HBW.out.trans ((HB.out.trans (hbb.mono hzr)).mono (by omega))
          have hA2 := (HA.out.below hbb).below (below_alloc w2 (.cells #[.int .i64 y.a, .int .i64 y.b, .int .i64 y.c] 23))
          exact ⟨_, _, A, some y, rfl, hA2.drew, ⟨w2.heap.size, by omega, rfl, hb_at (hb_new w2 _) 0 rfl, hb_at (hb_new w2 _) 1 rfl, hb_at (hb_new w2 _) 2 rfl⟩, hbn.out, han.out, below_drewN (hbq.alloc hbq.size _) 1⟩
        · have HC := Lib.hid (fun W => cmp_lit _ _ _ hc W)
          have HL := Lib.hid hl1
          have HL2 := Lib.hid hl2
          clear hc hl1 hl2
          have hbn := Lib.hid (Sv.bel_skip (v := v) hlt HBel.out (.inr HL.out))
          have han := Lib.hid (Sv.abv_skip (v := v) hlt HAbv.out (.inr HL2.out))
          generalize hy : ls[k] = y at *
          have HY := Lib.hid hy
          clear hy
          go_wp2_with (go_at_call 7; refine (HC.out _).mono ?_; rintro e w2 ⟨rfl, hb2⟩; obtain ⟨hc2, hf2⟩ := bcell hb2; have z2 := hb2.size; rw [World.size_alloc] at z2; have y2 : wr.heap.size < w2.heap.size := (by omega))
          have hbb : Below wr.heap.size wr w2 := (below_alloc wr _).trans (hb2.mono (by simp))
          go_roundw
          case rel => exact ⟨k + 1, A, by omega, by go_num, HA.out.below hbb, hbn.out, han.out, HB.out.trans (hbb.mono hzr)⟩
          case measure => simp [intOf]; omega
      · have d1 : (ls[k].a == v.a) = false := by simpa using hmaj
        have hbn := Lib.hid (Sv.bel_skip (v := v) hlt HBel.out (.inl hmaj))
        have han := Lib.hid (Sv.abv_skip (v := v) hlt HAbv.out (.inl hmaj))
        clear hmaj
        generalize hy : ls[k] = y at *
        have HY := Lib.hid hy
        clear hy
        go_wp2
        go_roundw
        case rel => exact ⟨k + 1, A, by omega, by go_num, HA.out.below (below_alloc wr _), hbn.out, han.out, HB.out.alloc hzr _⟩
        case measure => simp [intOf]; omega
    · obtain rfl : k = ls.length := by omega
      rw [List.take_length] at hbel habv
      have HA := Lib.hid hA
      have HBel := Lib.hid (Sv.bel_mem hbel HMEM.out)
      have HAbv := Lib.hid (Sv.abv_mem habv HMEM.out)
      have HB := Lib.hid hB
      clear hA hbel habv hB
      go_wp2
      go_ret2
      exact ⟨_, _, A, none, rfl, HA.out, rfl, HBel.out, HAbv.out, HBW.out.trans (HB.out.mono (by omega))⟩
end Go.Proofs.Ytmgnbpgcbehidaa
