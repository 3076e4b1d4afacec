/- The document's Match and Above, as they are called. -/
import Derived.Test.YtknbhnicmgglbaaDoorPd
import Derived.Test.YtknbhnicmgglbaaDoorPh
namespace Go.Proofs.YtknbhnicmgglbaaDoor
open Go.RowKit
set_option linter.unusedSimpArgs false
set_option linter.unusedVariables false
def RMatchR (d : Nat) (tg ts : Tm) (w : World) (e : Ending) (w' : World) : Prop := ∃ v, e = .returned (.tuple #[v, .bool (abB tg ts)]) ∧ (abB tg ts = false → v = .slice none 0 0) ∧ (abB tg ts = true → ∃ L', mrec d [] tg ts = some L' ∧ VAt w' d v L') ∧ Below w.heap.size w w'
theorem rok {d : Nat} {tg ts : Tm} {r : Bool} {P : List NT → Prop} (hT : Ty d tg) (h1 : r = false → mrec d [] tg ts = none) (h2 : r = true → ∃ L', mrec d [] tg ts = some L' ∧ P L') : r = abB tg ts := by
  refine abB_of ⟨fun e => ?_, fun e => ?_⟩
  · obtain ⟨L', h3, _⟩ := h2 e
    exact ⟨_, (mrec_yes hT h3).2.1⟩
  · cases r with
    | true => rfl
    | false => exact absurd e ((mrec_none hT).1 (h1 rfl))
set_option maxRecDepth 100000 in
set_option maxHeartbeats 4000000 in
theorem rmatch_any (d : Nat) (vg vs : Value) (tg ts : Tm) (w : World) (hg : IsT w d vg tg) (hs : IsT w d vs ts) (hT : Ty d tg) (hz : tszN d tg ≤ 30000) : Calls Tryd.prog 8 #[vg, vs] w (RMatchR d tg ts w) := by
  have HG := Lib.hid hg
  have HS := Lib.hid hs
  have HT := Lib.hid hT
  obtain ⟨k1, p1, n1, N1, q1, l1, c1, rfl⟩ := hg.shp
  obtain ⟨k2, p2, n2, N2, q2, l2, c2, rfl⟩ := hs.shp
  have hB0 := below2 w (.cells #[.int .i64 k1, .string p1, .string n1, .int .i64 N1, .slice q1 l1 c1] 24) (.cells #[.int .i64 k2, .string p2, .string n2, .int .i64 N2, .slice q2 l2 c2] 24)
  have HC := Lib.hid (doc_any d d _ _ _ [] tg ts _ (VAt.nil _ _) (HG.out.below hB0) (HS.out.below hB0) (by simp; omega))
  have HB0 := Lib.hid hB0
  clear hg hs hT hB0
  go_enter Tryd.func8, Tryd.ntmps8
  go_wp2_with (go_at_call 24; ((with_reducible refine HC.out.mono ?_); rintro e w3 ⟨q3, l3, c3, r3, rfl, h3, h4, hb3⟩; have HR3 := Lib.hid (rok HT.out h3 h4); have HB3 := Lib.hid hb3; have H4 := Lib.hid h4; clear h3 h4 hb3; cases r3))
  · refine bodyPost_ret (v := .tuple #[.slice none 0 0, .bool false]) (by simp [results, Tryd.results8, go_sem]) rfl ?_
    exact ⟨_, by rw [← HR3.out], (fun _ => rfl), (fun h => by rw [← HR3.out] at h; cases h), HB0.out.trans (HB3.out.mono HB0.out.size)⟩
  · refine bodyPost_ret (v := .tuple #[.slice q3 l3 c3, .bool true]) (by simp [results, Tryd.results8, go_sem]) rfl ?_
    exact ⟨_, by rw [← HR3.out], (fun h => by rw [← HR3.out] at h; cases h), (fun _ => H4.out trivial), HB0.out.trans (HB3.out.mono HB0.out.size)⟩
set_option maxRecDepth 100000 in
set_option maxHeartbeats 4000000 in
theorem rabove_any (d : Nat) (vg vs : Value) (tg ts : Tm) (w : World) (hg : IsT w d vg tg) (hs : IsT w d vs ts) (hT : Ty d tg) (hz : tszN d tg ≤ 30000) : Calls Tryd.prog 12 #[vg, vs] w (BoolR (abB tg ts) w) := by
  have HG := Lib.hid hg
  have HS := Lib.hid hs
  have HT := Lib.hid hT
  obtain ⟨k1, p1, n1, N1, q1, l1, c1, rfl⟩ := hg.shp
  obtain ⟨k2, p2, n2, N2, q2, l2, c2, rfl⟩ := hs.shp
  have hB0 := below2 w (.cells #[.int .i64 k1, .string p1, .string n1, .int .i64 N1, .slice q1 l1 c1] 24) (.cells #[.int .i64 k2, .string p2, .string n2, .int .i64 N2, .slice q2 l2 c2] 24)
  have HC := Lib.hid (doc_any d d _ _ _ [] tg ts _ (VAt.nil _ _) (HG.out.below hB0) (HS.out.below hB0) (by simp; omega))
  have HB0 := Lib.hid hB0
  clear hg hs hT hB0
  go_enter Tryd.func12, Tryd.ntmps12
  go_wp2_with (go_at_call 24; ((with_reducible refine HC.out.mono ?_); rintro e w3 ⟨q3, l3, c3, r3, rfl, h3, h4, hb3⟩; have HR3 := Lib.hid (rok HT.out h3 h4); have HB3 := Lib.hid hb3; clear h3 h4 hb3))
  go_ret
  exact ⟨congrArg (fun r => Ending.returned (.bool r)) HR3.out, HB0.out.trans (HB3.out.mono HB0.out.size)⟩
end Go.Proofs.YtknbhnicmgglbaaDoor
