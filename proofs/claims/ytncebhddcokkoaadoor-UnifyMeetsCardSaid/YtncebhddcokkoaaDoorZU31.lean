/- Texts in a row: Lo Pf Ma. -/
import Derived.Test.YtncebhddcokkoaaDoorZU30
import Derived.Test.YtncebhddcokkoaaDoorZU29
import Derived.Test.YtncebhddcokkoaaDoorZU14
import Derived.Deep.QuietTactic
import Derived.BigQuiet
import Derived.Deep.DeepCutAuto
import Derived.Outline
/- Solve and Meet, the program's. -/
namespace Go.Proofs.YtncebhddcokkoaaDoor
open Go.RowKit Go.Maps
set_option linter.unusedSimpArgs false
set_option linter.unusedVariables false
/-- What a solver's names come to. -/
structure Told (w : World) (d : Nat) (E : List (Tm × Tm)) (c : Cfg) (A : Abs) (ρ : ByteArray → Option Nat) (f : Nat → Tm) (σ : ByteArray → Tm) : Prop where
  nms : Nms A ρ f
  best : Best E (nmsE d E) σ
  unf : ∀ n i, ρ n = some i → i < A.l.length ∧ Abs.Unf A f i (σ n)
theorem told_of {w : World} {d : Nat} {E : List (Tm × Tm)} {c : Cfg} {A : Abs} {l : List Inf} {ρ : ByteArray → Option Nat} {sd : List (Nat × Nat)} (hT : Abs.Tab l (nmsE d E) ρ) (hE : Abs.Eqs l ρ sd E) (hW : Abs.Wf l) (h5 : ∀ (i : Nat) (x : Inf), l[i]? = some x → x.k ≠ 5) (hA : Abs.Inv A []) (hAl : A.l = l) (hAe : A.Erl)
    (hsem : ∀ θ, A.Mod θ ↔ (Abs.flat l).Mod θ ∧ ∀ s ∈ sd, θ s.1 = θ s.2) (hsm : (∀ x ∈ l, x.p.size ≤ maxLen ∧ x.n.size ≤ maxLen ∧ x.kids.length ≤ 50000) ∧ ∀ n ∈ nmsE d E, n.size ≤ maxLen) :
    Told w d E c A ρ (fun z => vN (Abs.nmOf ρ z)) (fun n => A.val (fun z => vN (Abs.nmOf ρ z)) ((ρ n).getD 0)) := by
  refine ⟨⟨hA.ok, fun i x hx => h5 i x (by rw [← hAl]; exact hx), fun z x hx hk _ => ?_, fun x hx => ?_⟩, Abs.best_of hW hT hE h5 hA hAl hAe hsem, fun n i hn => ?_⟩
  · obtain ⟨n, hn⟩ := hT.var z x (by rw [← hAl]; exact hx) hk
    exact ⟨n, hn, by show vN (Abs.nmOf ρ z) = vN n; rw [hT.nm hn], hsm.2 n ((hT.dom n).2 ⟨z, hn⟩)⟩
  · rw [hAl] at hx
    have := hsm.1 x hx
    exact ⟨this.1, this.2.1, by omega⟩
  · have hlt : i < A.l.length := by rw [hAl]; exact hT.lt hn
    refine ⟨hlt, ?_⟩
    show Abs.Unf A _ i (A.val _ ((ρ n).getD 0))
    rw [hn]
    exact Abs.unf_val hA.fin _ hlt
/-- What Solve answers. -/
def SolveQ (d : Nat) (E : List (Tm × Tm)) (w : World) (e : Ending) (w' : World) : Prop :=
  Below w.heap.size w w' ∧ ((e = .returned (.tuple #[.slice none 0 0, .int .i64 15]) ∧ ¬ ∃ τ, SolE E τ) ∨
    ∃ σ, Best E (nmsE d E) σ ∧ ((∃ v, e = .returned (.tuple #[v, .int .i64 0]) ∧ (∀ n ∈ nmsE d E, cnt2 (σ n) ≤ 1000) ∧ VAt w' 1000 v ((nmsE d E).map fun n => (n, σ n))) ∨ (e = .returned (.tuple #[.slice none 0 0, .int .i64 9]) ∧ ∃ n ∈ nmsE d E, 1000 < cnt2 (σ n))))
set_option maxRecDepth 100000 in
theorem solve_any (w : World) (d : Nat) (v : Value) (E : List (Tm × Tm)) (hE : EqAt w d v E) (hT : ∀ x ∈ E, Typ x.1 ∧ Typ x.2) (htot : tot d E ≤ 1000) (hel : E.length ≤ 1000) :
    Calls Tryd.prog 12 #[v] w (SolveQ d E w) := by
  have HN := Lib.hid (newSolver_any w d v E hE hT htot hel)
  obtain ⟨q, cc, rfl, _⟩ := hE
  go_enter Tryd.func12, Tryd.ntmps12
  go_upto_region 2 with (go_at_call 40; (with_reducible refine HN.out.mono ?_); intro e w1 hq; obtain ⟨hb, ⟨rfl, hno⟩ | ⟨rfl, c, A, l, ρ, sd, sv, nv, hcB, hcb, hsv, hrest⟩⟩ := hq)
  · have HB := Lib.hid hb
    have HNO := Lib.hid hno
    clear hb hno
    go_wp2
    go_ret2
    exact ⟨HB.out, .inl ⟨rfl, HNO.out⟩⟩
  · obtain ⟨hsd, hTb, hEq, hW, h5, hA, hAl, hAe, hsem, hsm⟩ := hrest
    have htold := told_of (w := w) (c := c) hTb hEq hW h5 hA hAl hAe hsem hsm
    have hsol := solution_any htold.nms htold.unf hsm.2 hsv
    rw [hcB, hcb] at hsol
    have HB := Lib.hid hb
    have HSOL := Lib.hid hsol
    have HBEST := Lib.hid htold.best
    clear hb hsd hTb hEq hW h5 hA hAl hAe hsem hsm htold hsol hsv hcB hcb
    go_wp2_with (go_at_call 41; (with_reducible refine HSOL.out.mono ?_); intro e w2 hq; obtain ⟨⟨v, rfl, hall, hv⟩ | ⟨rfl, hbig⟩, hb2⟩ := hq)
    · go_ret2
      exact ⟨HB.out.trans hb2, .inr ⟨_, HBEST.out, .inl ⟨v, rfl, hall, hv⟩⟩⟩
    · go_ret2
      exact ⟨HB.out.trans hb2, .inr ⟨_, HBEST.out, .inr ⟨rfl, hbig⟩⟩⟩
/-- What Meet answers. -/
def MeetQ (d : Nat) (ta tb : Tm) (w : World) (e : Ending) (w' : World) : Prop :=
  Below w.heap.size w w' ∧ ((e = .returned (.tuple #[tv 0 ⟨#[]⟩ ⟨#[]⟩ 0 (.slice none 0 0), .int .i64 15]) ∧ ¬ ∃ τ, SolE [(ta, tb)] τ) ∨
    ∃ σ u, Best [(ta, tb)] (nmsE d [(ta, tb)]) σ ∧ So σ ta u ∧ ((∃ k I p m q l cc, e = .returned (.tuple #[tv k p m I (.slice q l cc), .int .i64 0]) ∧ cnt2 u ≤ 1000 ∧ ∀ D, cnt2 u ≤ D → IsT w' D (tv k p m I (.slice q l cc)) u) ∨ (e = .returned (.tuple #[tv 0 ⟨#[]⟩ ⟨#[]⟩ 0 (.slice none 0 0), .int .i64 9]) ∧ 1000 < cnt2 u)))
set_option maxRecDepth 100000 in
set_option maxHeartbeats 1000000 in
theorem meet_any (w : World) (d : Nat) (va vb : Value) (ta tb : Tm) (ha : IsT w d va ta) (hb : IsT w d vb tb) (hT : Typ ta ∧ Typ tb) (htot : tot d [(ta, tb)] ≤ 1000) :
    Calls Tryd.prog 20 #[va, vb] w (MeetQ d ta tb w) := by
  obtain ⟨m, k, p, n, N, s, kids, _, hta, rfl, _, _, q, cc, rfl, _⟩ := ha.open
  obtain ⟨m', k', p', n', N', s', kids', _, htb, rfl, _, _, q', cc', rfl, _⟩ := hb.open
  clear hta htb
  generalize kids.length = ln at *
  generalize kids'.length = ln' at *
  have hb3 := (((below_alloc w (.cells #[.int .i64 k, .string p, .string n, .int .i64 N, .slice q ln cc] 36)).alloc (below_alloc w _).size (.cells #[.int .i64 k', .string p', .string n', .int .i64 N', .slice q' ln' cc'] 36)).alloc (by simp; omega) (.cells #[.int .i64 0, .string ⟨#[]⟩, .string ⟨#[]⟩, .int .i64 0, .slice none 0 0] 36))
  have h2 : (((w.alloc (.cells #[.int .i64 k, .string p, .string n, .int .i64 N, .slice q ln cc] 36)).alloc (.cells #[.int .i64 k', .string p', .string n', .int .i64 N', .slice q' ln' cc'] 36)).alloc (.cells #[.int .i64 0, .string ⟨#[]⟩, .string ⟨#[]⟩, .int .i64 0, .slice none 0 0] 36)).heap[w.heap.size]? = some (.cells #[.int .i64 k, .string p, .string n, .int .i64 N, .slice q ln cc] 36 (0, 0)) := hb_alloc (hb_alloc (hb_new _ _) _) _
  have h3 : (((w.alloc (.cells #[.int .i64 k, .string p, .string n, .int .i64 N, .slice q ln cc] 36)).alloc (.cells #[.int .i64 k', .string p', .string n', .int .i64 N', .slice q' ln' cc'] 36)).alloc (.cells #[.int .i64 0, .string ⟨#[]⟩, .string ⟨#[]⟩, .int .i64 0, .slice none 0 0] 36)).heap[w.heap.size + 1]? = some (.cells #[.int .i64 k', .string p', .string n', .int .i64 N', .slice q' ln' cc'] 36 (0, 0)) := by simpa using hb_alloc (hb_new (w.alloc (.cells #[.int .i64 k, .string p, .string n, .int .i64 N, .slice q ln cc] 36)) (.cells #[.int .i64 k', .string p', .string n', .int .i64 N', .slice q' ln' cc'] 36)) (.cells #[.int .i64 0, .string ⟨#[]⟩, .string ⟨#[]⟩, .int .i64 0, .slice none 0 0] 36)
  have h4 : (((w.alloc (.cells #[.int .i64 k, .string p, .string n, .int .i64 N, .slice q ln cc] 36)).alloc (.cells #[.int .i64 k', .string p', .string n', .int .i64 N', .slice q' ln' cc'] 36)).alloc (.cells #[.int .i64 0, .string ⟨#[]⟩, .string ⟨#[]⟩, .int .i64 0, .slice none 0 0] 36)).heap[w.heap.size + 1 + 1]? = some (.cells #[.int .i64 0, .string ⟨#[]⟩, .string ⟨#[]⟩, .int .i64 0, .slice none 0 0] 36 (0, 0)) := by simpa using hb_new ((w.alloc (.cells #[.int .i64 k, .string p, .string n, .int .i64 N, .slice q ln cc] 36)).alloc (.cells #[.int .i64 k', .string p', .string n', .int .i64 N', .slice q' ln' cc'] 36)) (.cells #[.int .i64 0, .string ⟨#[]⟩, .string ⟨#[]⟩, .int .i64 0, .slice none 0 0] 36)
  have hs3 : (((w.alloc (.cells #[.int .i64 k, .string p, .string n, .int .i64 N, .slice q ln cc] 36)).alloc (.cells #[.int .i64 k', .string p', .string n', .int .i64 N', .slice q' ln' cc'] 36)).alloc (.cells #[.int .i64 0, .string ⟨#[]⟩, .string ⟨#[]⟩, .int .i64 0, .slice none 0 0] 36)).heap.size = w.heap.size + 3 := by simp
  have HA := Lib.hid ha
  have HBB := Lib.hid hb
  have HTT := Lib.hid hT
  clear ha hb hT
  go_enter Tryd.func20, Tryd.ntmps20
  go_upto_region 1 with (fail)
  generalize (((w.alloc (.cells #[.int .i64 k, .string p, .string n, .int .i64 N, .slice q ln cc] 36)).alloc (.cells #[.int .i64 k', .string p', .string n', .int .i64 N', .slice q' ln' cc'] 36)).alloc (.cells #[.int .i64 0, .string ⟨#[]⟩, .string ⟨#[]⟩, .int .i64 0, .slice none 0 0] 36)) = W1 at *
  have a0 := hb_at h2 0 rfl
  have a1 := hb_at h2 1 rfl
  have a2 := hb_at h2 2 rfl
  have a3 := hb_at h2 3 rfl
  have a4 := hb_at h2 4 rfl
  have b0 := hb_at h3 0 rfl
  have b1 := hb_at h3 1 rfl
  have b2 := hb_at h3 2 rfl
  have b3 := hb_at h3 3 rfl
  have b4 := hb_at h3 4 rfl
  have hb2 := below_alloc W1 (.cells #[.int .i64 k, .string p, .string n, .int .i64 N, .slice q ln cc, .int .i64 k', .string p', .string n', .int .i64 N', .slice q' ln' cc'] 43)
  have ht := hb_new W1 (.cells #[.int .i64 k, .string p, .string n, .int .i64 N, .slice q ln cc, .int .i64 k', .string p', .string n', .int .i64 N', .slice q' ln' cc'] 43)
  have hbw2 := hb3.trans (hb2.mono hb3.size)
  have heq : EqAt (W1.alloc (.cells #[.int .i64 k, .string p, .string n, .int .i64 N, .slice q ln cc, .int .i64 k', .string p', .string n', .int .i64 N', .slice q' ln' cc'] 43)) d (.slice (some ⟨W1.heap.size, 0, none⟩) 1 1) [(ta, tb)] := ⟨some ⟨W1.heap.size, 0, none⟩, 1, rfl, fun i x hx => by
    match i, hx with
    | 0, hx =>
      obtain rfl := Option.some.inj hx
      exact ⟨W1.heap.size, 0, k, p, n, N, _, k', p', n', N', _, rfl, ⟨⟨hb_at ht 0 rfl, hb_at ht 1 rfl, hb_at ht 2 rfl, hb_at ht 3 rfl, hb_at ht 4 rfl⟩, HA.out.below hbw2⟩, ⟨hb_at ht 5 rfl, hb_at ht 6 rfl, hb_at ht 7 rfl, hb_at ht 8 rfl, hb_at ht 9 rfl⟩, HBB.out.below hbw2⟩
    | i + 1, hx => simp at hx⟩
  have HN := Lib.hid (newSolver_any _ d _ [(ta, tb)] heq (fun x hx => by cases List.mem_singleton.1 hx; exact HTT.out) htot (by simp))
  have H4 := Lib.hid (hb_below h4 hb2 (hb_lt h4))
  have HB2 := Lib.hid hbw2
  have hs2 : (W1.alloc (.cells #[.int .i64 k, .string p, .string n, .int .i64 N, .slice q ln cc, .int .i64 k', .string p', .string n', .int .i64 N', .slice q' ln' cc'] 43)).heap.size = W1.heap.size + 1 := by simp
  have HS3 := Lib.hid hs3
  have HS2 := Lib.hid hs2
  clear h2 h3 h4 hb2 ht hbw2 heq hb3 hs3 hs2
  go_upto_region 2 with (go_at_call 40; (with_reducible refine HN.out.mono ?_); intro e w1 hq; obtain ⟨hb, ⟨rfl, hno⟩ | ⟨rfl, c, A, l, ρ, sd, sv, nv, hcB, hcb, hsv, hrest⟩⟩ := hq)
  · have HB := Lib.hid hb
    have HNO := Lib.hid hno
    have h4 := hb_below H4.out hb (hb_lt H4.out)
    have y0 := hb_at h4 0 rfl
    have y1 := hb_at h4 1 rfl
    have y2 := hb_at h4 2 rfl
    have y3 := hb_at h4 3 rfl
    have y4 := hb_at h4 4 rfl
    have f0 := hb_free h4 0
    have f1 := hb_free h4 1
    have f2 := hb_free h4 2
    have f3 := hb_free h4 3
    have f4 := hb_free h4 4
    clear hb hno h4
    go_wp2
    refine bodyPost_ret (v := .tuple #[tv 0 ⟨#[]⟩ ⟨#[]⟩ 0 (.slice none 0 0), .int .i64 15]) (by simp [results, Tryd.results20, go_sem, y0, y1, y2, y3, y4]) rfl ⟨?_, .inl ⟨rfl, HNO.out⟩⟩
    have h9 := HB2.out.trans (HB.out.mono HB2.out.size)
    exact ((((h9.setCell (by show w.heap.size ≤ w.heap.size + 1 + 1; omega) _).setCell (by show w.heap.size ≤ w.heap.size + 1 + 1; omega) _).setCell (by show w.heap.size ≤ w.heap.size + 1 + 1; omega) _).setCell (by show w.heap.size ≤ w.heap.size + 1 + 1; omega) _).setCell (by show w.heap.size ≤ w.heap.size + 1 + 1; omega) _
  · obtain ⟨hsd, hTb, hEq, hW, h5, hA, hAl, hAe, hsem, hsm⟩ := hrest
    have htold := told_of (w := w) (c := c) hTb hEq hW h5 hA hAl hAe hsem hsm
    obtain ⟨s, hs⟩ : ∃ s, sd[0]? = some s := ⟨sd[0]'(by have := hEq.len; simp at this; omega), List.getElem?_eq_getElem _⟩
    have hsl : sd.length = 1 := by have := hEq.len; simpa using this
    obtain ⟨⟨hr1, hr2⟩, _⟩ := hEq.at hs rfl
    have hpr : (sd.map fun s => (((s.1 : Nat) : Int), ((s.2 : Nat) : Int)))[0]? = some (((s.1 : Nat) : Int), ((s.2 : Nat) : Int)) := by rw [List.getElem?_map, hs]; rfl
    obtain ⟨gr, cr, er, p0, p1⟩ := PRow.at hsd hpr
    subst er
    have hlA : s.1 < A.l.length := by rw [hAl]; exact hr2
    have hto := told46_any htold.nms (Abs.unf_val hA.fin (fun z => vN (Abs.nmOf ρ z)) hlA) hsv hlA
    have hmod := Abs.mod_val hA.ok hA.fin hA.like (fun z => vN (Abs.nmOf ρ z))
    have hso : So (fun n => A.val (fun z => vN (Abs.nmOf ρ z)) ((ρ n).getD 0)) ta (A.val (fun z => vN (Abs.nmOf ρ z)) s.1) := hr1.mod ((hsem _).1 hmod).1 (fun n i hn => by rw [hn]; rfl)
    have hb5 : w1.cell? ⟨c.B, 5, none⟩ = some (.slice (some ⟨gr, 0, none⟩) (sd.map fun s => (((s.1 : Nat) : Int), ((s.2 : Nat) : Int))).length cr) := by
      obtain ⟨v, L, rk, p1, _, _, _⟩ := hsv.st
      have hblk := p1.blk
      rw [hsv.rest] at hblk
      exact hb_at hblk 5 rfl
    rw [hcB, HS2.out] at hto hb5
    rw [List.length_map, hsl] at hb5
    have HB := Lib.hid hb
    have HTO := Lib.hid hto
    have HBEST := Lib.hid htold.best
    have HSO := Lib.hid hso
    have h4 := hb_below H4.out hb (hb_lt H4.out)
    have H4b := Lib.hid h4
    have hcb2 : c.b0 = w.heap.size + 4 := by rw [hcb, HS2.out, HS3.out]
    have hcB2 : c.B = w.heap.size + 6 := by rw [hcB, HS2.out, HS3.out]
    have HCB := Lib.hid hcb2
    have HCB2 := Lib.hid hcB2
    generalize A.val (fun z => vN (Abs.nmOf ρ z)) s.1 = u at *
    simp only [Nat.zero_mul, Nat.zero_add] at p0 p1
    clear hb hsd hTb hEq hW h5 hA hAl hAe hsem hsm htold hto hsv hcB hcb hcb2 hcB2 hr1 hr2 hpr hlA hmod hso hs h4 hsl
    go_upto_region 5 with (go_at_call 46; (with_reducible refine HTO.out.mono ?_); rintro e w6 ⟨k6, I6, p6, m6, q6, l6, cc6, rfl, g1, g2, g3⟩; have G2 := Lib.hid g2; have G3 := Lib.hid g3; clear g1 g2 g3)
    have hba := below_alloc w6 (.cells #[.int .i64 k6, .string p6, .string m6, .int .i64 I6, .slice q6 l6 cc6] 36)
    have h46 := G2.out.block _ _ H4b.out (by have := HCB2.out; omega) (fun cs fr e => by injection e with _ e _; exact absurd e (by decide))
    have h47 := hb_below h46 hba (hb_lt h46)
    have h8 := hb_new w6 (.cells #[.int .i64 k6, .string p6, .string m6, .int .i64 I6, .slice q6 l6 cc6] 36)
    have z0 := hb_at h8 0 rfl
    have z1 := hb_at h8 1 rfl
    have z2 := hb_at h8 2 rfl
    have z3 := hb_at h8 3 rfl
    have z4 := hb_at h8 4 rfl
    have y0 := hb_at h47 0 rfl
    have y1 := hb_at h47 1 rfl
    have y2 := hb_at h47 2 rfl
    have y3 := hb_at h47 3 rfl
    have y4 := hb_at h47 4 rfl
    have f0 := hb_free h47 0
    have f1 := hb_free h47 1
    have f2 := hb_free h47 2
    have f3 := hb_free h47 3
    have f4 := hb_free h47 4
    have hbel6 : Below w.heap.size w w6 := (HB2.out.trans (HB.out.mono HB2.out.size)).trans (G2.out.below.mono (by have := HCB.out; omega))
    have hbel7 := hbel6.trans (hba.mono hbel6.size)
    have HBEL := Lib.hid hbel7
    have HBA := Lib.hid hba
    generalize w6.alloc (.cells #[.int .i64 k6, .string p6, .string m6, .int .i64 I6, .slice q6 l6 cc6] 36) = W7 at *
    have H47 := Lib.hid h47
    clear hba h46 h47 h8 hbel6 hbel7
    by_cases hcn : cnt2 u ≤ 1000
    · have hd : decide (cnt2 u ≤ 1000) = true := by simpa using hcn
      have HCN := Lib.hid hcn
      rw [hd]
      clear hcn hd
      go_wp2
      refine bodyPost_ret (v := .tuple #[tv k6 p6 m6 I6 (.slice q6 l6 cc6), .int .i64 0]) (by simp [results, Tryd.results20, go_sem, y0, y1, y2, y3, y4]) rfl ⟨?_, .inr ⟨_, u, HBEST.out, HSO.out, .inl ⟨k6, I6, p6, m6, q6, l6, cc6, rfl, HCN.out, fun D hD => ?_⟩⟩⟩
      · exact ((((HBEL.out.setCell (by show w.heap.size ≤ w.heap.size + 1 + 1; omega) _).setCell (by show w.heap.size ≤ w.heap.size + 1 + 1; omega) _).setCell (by show w.heap.size ≤ w.heap.size + 1 + 1; omega) _).setCell (by show w.heap.size ≤ w.heap.size + 1 + 1; omega) _).setCell (by show w.heap.size ≤ w.heap.size + 1 + 1; omega) _
      · refine IsX.isT (X := fun _ => True) ((G3.out HCN.out D hD).move fun b hX hbl => ⟨trivial, ?_⟩)
        obtain ⟨g1, g2, cs, fr, hbb⟩ := hX
        have h4l := hb_lt H4b.out
        have e := put5_other (hb_below hbb HBA.out hbl) (show b ≠ w.heap.size + 1 + 1 by omega) (.int .i64 k6) (.string p6) (.string m6) (.int .i64 I6) (.slice q6 l6 cc6)
        exact e.trans hbb.symm
    · have hd : decide (cnt2 u ≤ 1000) = false := by simpa using hcn
      have HCN := Lib.hid hcn
      rw [hd]
      clear hcn hd
      go_wp2
      refine bodyPost_ret (v := .tuple #[tv 0 ⟨#[]⟩ ⟨#[]⟩ 0 (.slice none 0 0), .int .i64 9]) (by simp [results, Tryd.results20, go_sem, y0, y1, y2, y3, y4]) rfl ⟨?_, .inr ⟨_, u, HBEST.out, HSO.out, .inr ⟨rfl, by have := HCN.out; omega⟩⟩⟩
      exact ((((HBEL.out.setCell (by show w.heap.size ≤ w.heap.size + 1 + 1; omega) _).setCell (by show w.heap.size ≤ w.heap.size + 1 + 1; omega) _).setCell (by show w.heap.size ≤ w.heap.size + 1 + 1; omega) _).setCell (by show w.heap.size ≤ w.heap.size + 1 + 1; omega) _).setCell (by show w.heap.size ≤ w.heap.size + 1 + 1; omega) _
end Go.Proofs.YtncebhddcokkoaaDoor
/- Lists of names and terms: where a name stands; are two the same? -/
namespace Go.Proofs.YtncebhddcokkoaaDoor
open Go.RowKit
set_option linter.unusedSimpArgs false
set_option linter.unusedVariables false
set_option maxRecDepth 100000 in
set_option maxHeartbeats 4000000 in
theorem usame_any (D : Nat) (va vb : Value) (L : List NT) (w : World) (ha : VAt w D va L) (hb : VAt w D vb L) : Calls Tryd.prog 14 #[va, vb] w (BoolR true w) := by
  obtain ⟨qa, ca, rfl, hl, hA⟩ := ha
  obtain ⟨qb, cb, rfl, _, hB⟩ := hb
  have HA := Lib.hid hA
  have HB := Lib.hid hB
  clear hA hB
  generalize hlen : L.length = len at *
  have HLEN := Lib.hid hlen
  go_enter Tryd.func14, Tryd.ntmps14
  go_wp2
  go_loopw [5] (fun i wr => ∃ j : Nat, j ≤ len ∧ i = .int .i64 j ∧ Below w.heap.size w wr) (fun i _ => len - (intOf i).toNat)
  case atStart => exact ⟨0, Nat.zero_le _, rfl, Below.refl _ _⟩
  case round =>
    obtain ⟨j, hj, rfl, hBL⟩ := hrel
    have HBL := Lib.hid hBL
    by_cases hlt : (j : Int) < (len : Int)
    · have hx : L[j]? = some (L[j]'(by omega)) := List.getElem?_eq_getElem (by omega)
      obtain ⟨ga, k1, p1, n1, N1, s1, e1, e2, e3, e4, e5⟩ := HA.out j _ hx
      obtain ⟨gb, k2, p2, n2, N2, s2, f1, f2, f3, f4, f5⟩ := HB.out j _ hx
      subst e1
      subst f1
      generalize (L[j]'(by omega)) = x at *
      obtain ⟨q1, l1, c1, rfl⟩ := e5.spell
      obtain ⟨q2, l2, c2, rfl⟩ := f5.spell
      have E2 := Lib.hid (keep_cell hBL e2)
      have F2 := Lib.hid (keep_cell hBL f2)
      have E4 := Lib.hid (e4.below hBL e4.lt)
      have F4 := Lib.hid (f4.below hBL f4.lt)
      have E5 := Lib.hid (e5.below hBL)
      have F5 := Lib.hid (f5.below hBL)
      clear hx e2 e3 e4 e5 f2 f3 f4 f5
      generalize x.1 = xn at *
      generalize x.2 = xt at *
      have hxx : (xn.toList == xn.toList) = true := by simp
      go_upto_region 6 with fail
      refine Inr.region (by kernel_rfl) 25 [some 17, some 18, some 19, some 20, some 21, some 22, some 23, some 24, some 25, some 26, some 27, some 28, some 29, some 30, some 31, some 32, some 33, some 34, some 35, some 36, some 37, some 38, some 39, some 40, some 41] [[], [], [0, 1], [2], [3], [], [], [5, 6], [7], [8], [4, 9], [10], [11], [11], [12, 13, 11], [14, 11], [15, 11], [11], [11], [17, 18, 11], [19, 11], [20, 11], [16, 21, 11, 11], [22, 11], [11, 23]] (by kernel_rfl) (by kernel_rfl) (by kernel_rfl) (by kernel_rfl) [Inr.MP.is (.slice (some ⟨ga, 0, none⟩) len ca), Inr.MP.is (.int .i64 j), Inr.MP.is (.pointer (some ⟨ga, j * 6, none⟩)), Inr.MP.is (.pointer (some ⟨ga, j * 6, none⟩)), Inr.MP.is (.string xn), Inr.MP.is (.slice (some ⟨gb, 0, none⟩) len cb), Inr.MP.is (.int .i64 j), Inr.MP.is (.pointer (some ⟨gb, j * 6, none⟩)), Inr.MP.is (.pointer (some ⟨gb, j * 6, none⟩)), Inr.MP.is (.string xn), Inr.MP.is (.bool false), Inr.MP.is (.bool false), Inr.MP.is (.slice (some ⟨ga, 0, none⟩) len ca), Inr.MP.is (.int .i64 j), Inr.MP.is (.pointer (some ⟨ga, j * 6, none⟩)), Inr.MP.is (.pointer (some ⟨ga, j * 6 + 1, none⟩)), Inr.MP.is (tv k1 p1 n1 N1 (.slice q1 l1 c1)), Inr.MP.is (.slice (some ⟨gb, 0, none⟩) len cb), Inr.MP.is (.int .i64 j), Inr.MP.is (.pointer (some ⟨gb, j * 6, none⟩)), Inr.MP.is (.pointer (some ⟨gb, j * 6 + 1, none⟩)), Inr.MP.is (tv k2 p2 n2 N2 (.slice q2 l2 c2)), Inr.MP.is (.bool true), Inr.MP.is (.bool false), Inr.MP.is (.bool false)] [] (by intro x hx; cases hx) ⟨?_, ?_, ?_, ?_, ?_, ?_, ?_, ?_, ?_, ?_, ?_, ?_, ?_, ?_, ?_, ?_, ?_, ?_, ?_, ?_, ?_, ?_, ?_, ?_, ?_, trivial⟩ (fun vs wq hbq hv htie => ?_)
      · intro vs w' hb hv K hK
        clear hv
        have hK2 := hK.out
        clear hK
        simp only [Inr.putD, Inr.dst, List.foldl_cons, List.foldl_nil, List.getD_cons_zero, List.getD_cons_succ, Act.put, List.setIfInBounds_toArray, List.set_cons_zero, List.set_cons_succ] at hK2 ⊢
        have hK := Lib.hid hK2
        clear hK2
        simp only [Region.wanted, Inr.yieldedD, Inr.dst, List.getD_cons_zero, List.getD_cons_succ]
        go_simp
        refine hK.out _ _ (Eq.refl _) (Below.refl _ _) (Inr.noTies _ _ _ _ _)
      · intro vs w' hb hv K hK
        clear hv
        have hK2 := hK.out
        clear hK
        simp only [Inr.putD, Inr.dst, List.foldl_cons, List.foldl_nil, List.getD_cons_zero, List.getD_cons_succ, Act.put, List.setIfInBounds_toArray, List.set_cons_zero, List.set_cons_succ] at hK2 ⊢
        have hK := Lib.hid hK2
        clear hK2
        simp only [Region.wanted, Inr.yieldedD, Inr.dst, List.getD_cons_zero, List.getD_cons_succ]
        go_simp
        refine hK.out _ _ (Eq.refl _) (Below.refl _ _) (Inr.noTies _ _ _ _ _)
      · intro vs w' hb hv K hK
        have h0 : (Inr.MP.is (.slice (some ⟨ga, 0, none⟩) len ca)).p (vs 0) w' := hv 0 (by simp)
        have h1 : (Inr.MP.is (.int .i64 j)).p (vs 1) w' := hv 1 (by simp)
        clear hv
        have hK2 := hK.out
        clear hK
        simp only [Inr.putD, Inr.dst, List.foldl_cons, List.foldl_nil, List.getD_cons_zero, List.getD_cons_succ, Act.put, List.setIfInBounds_toArray, List.set_cons_zero, List.set_cons_succ] at hK2 ⊢
        have hK := Lib.hid hK2
        clear hK2
        generalize vs 0 = y0 at *
        generalize vs 1 = y1 at *
        have h0 : y0 = _ := h0
        subst h0
        have h1 : y1 = _ := h1
        subst h1
        simp only [Region.wanted, Inr.yieldedD, Inr.dst, List.getD_cons_zero, List.getD_cons_succ]
        go_simp
        refine hK.out _ _ (Eq.refl _) (Below.refl _ _) (Inr.noTies _ _ _ _ _)
      · intro vs w' hb hv K hK
        have h2 : (Inr.MP.is (.pointer (some ⟨ga, j * 6, none⟩))).p (vs 2) w' := hv 2 (by simp)
        clear hv
        have hK2 := hK.out
        clear hK
        simp only [Inr.putD, Inr.dst, List.foldl_cons, List.foldl_nil, List.getD_cons_zero, List.getD_cons_succ, Act.put, List.setIfInBounds_toArray, List.set_cons_zero, List.set_cons_succ] at hK2 ⊢
        have hK := Lib.hid hK2
        clear hK2
        generalize vs 2 = y2 at *
        have h2 : y2 = _ := h2
        subst h2
        simp only [Region.wanted, Inr.yieldedD, Inr.dst, List.getD_cons_zero, List.getD_cons_succ]
        go_simp
        refine hK.out _ _ (Eq.refl _) (Below.refl _ _) (Inr.noTies _ _ _ _ _)
      · intro vs w' hb hv K hK
        have h3 : (Inr.MP.is (.pointer (some ⟨ga, j * 6, none⟩))).p (vs 3) w' := hv 3 (by simp)
        clear hv
        have hK2 := hK.out
        clear hK
        simp only [Inr.putD, Inr.dst, List.foldl_cons, List.foldl_nil, List.getD_cons_zero, List.getD_cons_succ, Act.put, List.setIfInBounds_toArray, List.set_cons_zero, List.set_cons_succ] at hK2 ⊢
        have hK := Lib.hid hK2
        clear hK2
        generalize vs 3 = y3 at *
        have h3 : y3 = _ := h3
        subst h3
        have hcx := keep_cell hb E2.out
        simp only [Region.wanted, Inr.yieldedD, Inr.dst, List.getD_cons_zero, List.getD_cons_succ]
        go_simp
        refine hK.out _ _ (Eq.refl _) (Below.refl _ _) (Inr.noTies _ _ _ _ _)
      · intro vs w' hb hv K hK
        clear hv
        have hK2 := hK.out
        clear hK
        simp only [Inr.putD, Inr.dst, List.foldl_cons, List.foldl_nil, List.getD_cons_zero, List.getD_cons_succ, Act.put, List.setIfInBounds_toArray, List.set_cons_zero, List.set_cons_succ] at hK2 ⊢
        have hK := Lib.hid hK2
        clear hK2
        simp only [Region.wanted, Inr.yieldedD, Inr.dst, List.getD_cons_zero, List.getD_cons_succ]
        go_simp
        refine hK.out _ _ (Eq.refl _) (Below.refl _ _) (Inr.noTies _ _ _ _ _)
      · intro vs w' hb hv K hK
        clear hv
        have hK2 := hK.out
        clear hK
        simp only [Inr.putD, Inr.dst, List.foldl_cons, List.foldl_nil, List.getD_cons_zero, List.getD_cons_succ, Act.put, List.setIfInBounds_toArray, List.set_cons_zero, List.set_cons_succ] at hK2 ⊢
        have hK := Lib.hid hK2
        clear hK2
        simp only [Region.wanted, Inr.yieldedD, Inr.dst, List.getD_cons_zero, List.getD_cons_succ]
        go_simp
        refine hK.out _ _ (Eq.refl _) (Below.refl _ _) (Inr.noTies _ _ _ _ _)
      · intro vs w' hb hv K hK
        have h5 : (Inr.MP.is (.slice (some ⟨gb, 0, none⟩) len cb)).p (vs 5) w' := hv 5 (by simp)
        have h6 : (Inr.MP.is (.int .i64 j)).p (vs 6) w' := hv 6 (by simp)
        clear hv
        have hK2 := hK.out
        clear hK
        simp only [Inr.putD, Inr.dst, List.foldl_cons, List.foldl_nil, List.getD_cons_zero, List.getD_cons_succ, Act.put, List.setIfInBounds_toArray, List.set_cons_zero, List.set_cons_succ] at hK2 ⊢
        have hK := Lib.hid hK2
        clear hK2
        generalize vs 5 = y5 at *
        generalize vs 6 = y6 at *
        have h5 : y5 = _ := h5
        subst h5
        have h6 : y6 = _ := h6
        subst h6
        simp only [Region.wanted, Inr.yieldedD, Inr.dst, List.getD_cons_zero, List.getD_cons_succ]
        go_simp
        refine hK.out _ _ (Eq.refl _) (Below.refl _ _) (Inr.noTies _ _ _ _ _)
      · intro vs w' hb hv K hK
        have h7 : (Inr.MP.is (.pointer (some ⟨gb, j * 6, none⟩))).p (vs 7) w' := hv 7 (by simp)
        clear hv
        have hK2 := hK.out
        clear hK
        simp only [Inr.putD, Inr.dst, List.foldl_cons, List.foldl_nil, List.getD_cons_zero, List.getD_cons_succ, Act.put, List.setIfInBounds_toArray, List.set_cons_zero, List.set_cons_succ] at hK2 ⊢
        have hK := Lib.hid hK2
        clear hK2
        generalize vs 7 = y7 at *
        have h7 : y7 = _ := h7
        subst h7
        simp only [Region.wanted, Inr.yieldedD, Inr.dst, List.getD_cons_zero, List.getD_cons_succ]
        go_simp
        refine hK.out _ _ (Eq.refl _) (Below.refl _ _) (Inr.noTies _ _ _ _ _)
      · intro vs w' hb hv K hK
        have h8 : (Inr.MP.is (.pointer (some ⟨gb, j * 6, none⟩))).p (vs 8) w' := hv 8 (by simp)
        clear hv
        have hK2 := hK.out
        clear hK
        simp only [Inr.putD, Inr.dst, List.foldl_cons, List.foldl_nil, List.getD_cons_zero, List.getD_cons_succ, Act.put, List.setIfInBounds_toArray, List.set_cons_zero, List.set_cons_succ] at hK2 ⊢
        have hK := Lib.hid hK2
        clear hK2
        generalize vs 8 = y8 at *
        have h8 : y8 = _ := h8
        subst h8
        have hcx := keep_cell hb F2.out
        simp only [Region.wanted, Inr.yieldedD, Inr.dst, List.getD_cons_zero, List.getD_cons_succ]
        go_simp
        refine hK.out _ _ (Eq.refl _) (Below.refl _ _) (Inr.noTies _ _ _ _ _)
      · intro vs w' hb hv K hK
        have h4 : (Inr.MP.is (.string xn)).p (vs 4) w' := hv 4 (by simp)
        have h9 : (Inr.MP.is (.string xn)).p (vs 9) w' := hv 9 (by simp)
        clear hv
        have hK2 := hK.out
        clear hK
        simp only [Inr.putD, Inr.dst, List.foldl_cons, List.foldl_nil, List.getD_cons_zero, List.getD_cons_succ, Act.put, List.setIfInBounds_toArray, List.set_cons_zero, List.set_cons_succ] at hK2 ⊢
        have hK := Lib.hid hK2
        clear hK2
        generalize vs 4 = y4 at *
        generalize vs 9 = y9 at *
        have h4 : y4 = _ := h4
        subst h4
        have h9 : y9 = _ := h9
        subst h9
        simp only [Region.wanted, Inr.yieldedD, Inr.dst, List.getD_cons_zero, List.getD_cons_succ]
        go_simp
        refine hK.out _ _ (Eq.refl _) (Below.refl _ _) (Inr.noTies _ _ _ _ _)
      · intro vs w' hb hv K hK
        have h10 : (Inr.MP.is (.bool false)).p (vs 10) w' := hv 10 (by simp)
        clear hv
        have hK2 := hK.out
        clear hK
        simp only [Inr.putD, Inr.dst, List.foldl_cons, List.foldl_nil, List.getD_cons_zero, List.getD_cons_succ, Act.put, List.setIfInBounds_toArray, List.set_cons_zero, List.set_cons_succ] at hK2 ⊢
        have hK := Lib.hid hK2
        clear hK2
        generalize vs 10 = y10 at *
        have h10 : y10 = _ := h10
        subst h10
        simp only [Region.wanted, Inr.yieldedD, Inr.dst, List.getD_cons_zero, List.getD_cons_succ]
        go_simp
        refine hK.out _ _ (Eq.refl _) (Below.refl _ _) (Inr.noTies _ _ _ _ _)
      · intro vs w' hb hv K hK
        have h11 : (Inr.MP.is (.bool false)).p (vs 11) w' := hv 11 (by simp)
        clear hv
        have hK2 := hK.out
        clear hK
        simp only [Inr.putD, Inr.dst, List.foldl_cons, List.foldl_nil, List.getD_cons_zero, List.getD_cons_succ, Act.put, List.setIfInBounds_toArray, List.set_cons_zero, List.set_cons_succ] at hK2 ⊢
        have hK := Lib.hid hK2
        clear hK2
        generalize vs 11 = y11 at *
        have h11 : y11 = _ := h11
        subst h11
        simp only [Region.wanted, Inr.yieldedD, Inr.dst, List.getD_cons_zero, List.getD_cons_succ]
        go_simp
        refine hK.out _ _ (Eq.refl _) (Below.refl _ _) (Inr.noTies _ _ _ _ _)
      · intro vs w' hb hv K hK
        have h11 : (Inr.MP.is (.bool false)).p (vs 11) w' := hv 11 (by simp)
        clear hv
        have hK2 := hK.out
        clear hK
        simp only [Inr.putD, Inr.dst, List.foldl_cons, List.foldl_nil, List.getD_cons_zero, List.getD_cons_succ, Act.put, List.setIfInBounds_toArray, List.set_cons_zero, List.set_cons_succ] at hK2 ⊢
        have hK := Lib.hid hK2
        clear hK2
        generalize vs 11 = y11 at *
        have h11 : y11 = _ := h11
        subst h11
        simp only [Region.wanted, Inr.yieldedD, Inr.dst, List.getD_cons_zero, List.getD_cons_succ]
        go_simp
        refine hK.out _ _ (Eq.refl _) (Below.refl _ _) (Inr.noTies _ _ _ _ _)
      · intro vs w' hb hv K hK
        have h11 : (Inr.MP.is (.bool false)).p (vs 11) w' := hv 11 (by simp)
        have h12 : (Inr.MP.is (.slice (some ⟨ga, 0, none⟩) len ca)).p (vs 12) w' := hv 12 (by simp)
        have h13 : (Inr.MP.is (.int .i64 j)).p (vs 13) w' := hv 13 (by simp)
        clear hv
        have hK2 := hK.out
        clear hK
        simp only [Inr.putD, Inr.dst, List.foldl_cons, List.foldl_nil, List.getD_cons_zero, List.getD_cons_succ, Act.put, List.setIfInBounds_toArray, List.set_cons_zero, List.set_cons_succ] at hK2 ⊢
        have hK := Lib.hid hK2
        clear hK2
        generalize vs 11 = y11 at *
        generalize vs 12 = y12 at *
        generalize vs 13 = y13 at *
        have h11 : y11 = _ := h11
        subst h11
        have h12 : y12 = _ := h12
        subst h12
        have h13 : y13 = _ := h13
        subst h13
        simp only [Region.wanted, Inr.yieldedD, Inr.dst, List.getD_cons_zero, List.getD_cons_succ]
        go_simp
        refine hK.out _ _ (Eq.refl _) (Below.refl _ _) (Inr.noTies _ _ _ _ _)
      · intro vs w' hb hv K hK
        have h11 : (Inr.MP.is (.bool false)).p (vs 11) w' := hv 11 (by simp)
        have h14 : (Inr.MP.is (.pointer (some ⟨ga, j * 6, none⟩))).p (vs 14) w' := hv 14 (by simp)
        clear hv
        have hK2 := hK.out
        clear hK
        simp only [Inr.putD, Inr.dst, List.foldl_cons, List.foldl_nil, List.getD_cons_zero, List.getD_cons_succ, Act.put, List.setIfInBounds_toArray, List.set_cons_zero, List.set_cons_succ] at hK2 ⊢
        have hK := Lib.hid hK2
        clear hK2
        generalize vs 11 = y11 at *
        generalize vs 14 = y14 at *
        have h11 : y11 = _ := h11
        subst h11
        have h14 : y14 = _ := h14
        subst h14
        simp only [Region.wanted, Inr.yieldedD, Inr.dst, List.getD_cons_zero, List.getD_cons_succ]
        go_simp
        refine hK.out _ _ (Eq.refl _) (Below.refl _ _) (Inr.noTies _ _ _ _ _)
      · intro vs w' hb hv K hK
        have h11 : (Inr.MP.is (.bool false)).p (vs 11) w' := hv 11 (by simp)
        have h15 : (Inr.MP.is (.pointer (some ⟨ga, j * 6 + 1, none⟩))).p (vs 15) w' := hv 15 (by simp)
        clear hv
        have hK2 := hK.out
        clear hK
        simp only [Inr.putD, Inr.dst, List.foldl_cons, List.foldl_nil, List.getD_cons_zero, List.getD_cons_succ, Act.put, List.setIfInBounds_toArray, List.set_cons_zero, List.set_cons_succ] at hK2 ⊢
        have hK := Lib.hid hK2
        clear hK2
        generalize vs 11 = y11 at *
        generalize vs 15 = y15 at *
        have h11 : y11 = _ := h11
        subst h11
        have h15 : y15 = _ := h15
        subst h15
        obtain ⟨z0, z1, z2, z3, z4⟩ := E4.out.below hb E4.out.lt
        simp only [Region.wanted, Inr.yieldedD, Inr.dst, List.getD_cons_zero, List.getD_cons_succ]
        go_simp
        refine hK.out _ _ (Eq.refl _) (Below.refl _ _) (Inr.noTies _ _ _ _ _)
      · intro vs w' hb hv K hK
        have h11 : (Inr.MP.is (.bool false)).p (vs 11) w' := hv 11 (by simp)
        clear hv
        have hK2 := hK.out
        clear hK
        simp only [Inr.putD, Inr.dst, List.foldl_cons, List.foldl_nil, List.getD_cons_zero, List.getD_cons_succ, Act.put, List.setIfInBounds_toArray, List.set_cons_zero, List.set_cons_succ] at hK2 ⊢
        have hK := Lib.hid hK2
        clear hK2
        generalize vs 11 = y11 at *
        have h11 : y11 = _ := h11
        subst h11
        simp only [Region.wanted, Inr.yieldedD, Inr.dst, List.getD_cons_zero, List.getD_cons_succ]
        go_simp
        refine hK.out _ _ (Eq.refl _) (Below.refl _ _) (Inr.noTies _ _ _ _ _)
      · intro vs w' hb hv K hK
        have h11 : (Inr.MP.is (.bool false)).p (vs 11) w' := hv 11 (by simp)
        clear hv
        have hK2 := hK.out
        clear hK
        simp only [Inr.putD, Inr.dst, List.foldl_cons, List.foldl_nil, List.getD_cons_zero, List.getD_cons_succ, Act.put, List.setIfInBounds_toArray, List.set_cons_zero, List.set_cons_succ] at hK2 ⊢
        have hK := Lib.hid hK2
        clear hK2
        generalize vs 11 = y11 at *
        have h11 : y11 = _ := h11
        subst h11
        simp only [Region.wanted, Inr.yieldedD, Inr.dst, List.getD_cons_zero, List.getD_cons_succ]
        go_simp
        refine hK.out _ _ (Eq.refl _) (Below.refl _ _) (Inr.noTies _ _ _ _ _)
      · intro vs w' hb hv K hK
        have h11 : (Inr.MP.is (.bool false)).p (vs 11) w' := hv 11 (by simp)
        have h17 : (Inr.MP.is (.slice (some ⟨gb, 0, none⟩) len cb)).p (vs 17) w' := hv 17 (by simp)
        have h18 : (Inr.MP.is (.int .i64 j)).p (vs 18) w' := hv 18 (by simp)
        clear hv
        have hK2 := hK.out
        clear hK
        simp only [Inr.putD, Inr.dst, List.foldl_cons, List.foldl_nil, List.getD_cons_zero, List.getD_cons_succ, Act.put, List.setIfInBounds_toArray, List.set_cons_zero, List.set_cons_succ] at hK2 ⊢
        have hK := Lib.hid hK2
        clear hK2
        generalize vs 11 = y11 at *
        generalize vs 17 = y17 at *
        generalize vs 18 = y18 at *
        have h11 : y11 = _ := h11
        subst h11
        have h17 : y17 = _ := h17
        subst h17
        have h18 : y18 = _ := h18
        subst h18
        simp only [Region.wanted, Inr.yieldedD, Inr.dst, List.getD_cons_zero, List.getD_cons_succ]
        go_simp
        refine hK.out _ _ (Eq.refl _) (Below.refl _ _) (Inr.noTies _ _ _ _ _)
      · intro vs w' hb hv K hK
        have h11 : (Inr.MP.is (.bool false)).p (vs 11) w' := hv 11 (by simp)
        have h19 : (Inr.MP.is (.pointer (some ⟨gb, j * 6, none⟩))).p (vs 19) w' := hv 19 (by simp)
        clear hv
        have hK2 := hK.out
        clear hK
        simp only [Inr.putD, Inr.dst, List.foldl_cons, List.foldl_nil, List.getD_cons_zero, List.getD_cons_succ, Act.put, List.setIfInBounds_toArray, List.set_cons_zero, List.set_cons_succ] at hK2 ⊢
        have hK := Lib.hid hK2
        clear hK2
        generalize vs 11 = y11 at *
        generalize vs 19 = y19 at *
        have h11 : y11 = _ := h11
        subst h11
        have h19 : y19 = _ := h19
        subst h19
        simp only [Region.wanted, Inr.yieldedD, Inr.dst, List.getD_cons_zero, List.getD_cons_succ]
        go_simp
        refine hK.out _ _ (Eq.refl _) (Below.refl _ _) (Inr.noTies _ _ _ _ _)
      · intro vs w' hb hv K hK
        have h11 : (Inr.MP.is (.bool false)).p (vs 11) w' := hv 11 (by simp)
        have h20 : (Inr.MP.is (.pointer (some ⟨gb, j * 6 + 1, none⟩))).p (vs 20) w' := hv 20 (by simp)
        clear hv
        have hK2 := hK.out
        clear hK
        simp only [Inr.putD, Inr.dst, List.foldl_cons, List.foldl_nil, List.getD_cons_zero, List.getD_cons_succ, Act.put, List.setIfInBounds_toArray, List.set_cons_zero, List.set_cons_succ] at hK2 ⊢
        have hK := Lib.hid hK2
        clear hK2
        generalize vs 11 = y11 at *
        generalize vs 20 = y20 at *
        have h11 : y11 = _ := h11
        subst h11
        have h20 : y20 = _ := h20
        subst h20
        obtain ⟨z0, z1, z2, z3, z4⟩ := F4.out.below hb F4.out.lt
        simp only [Region.wanted, Inr.yieldedD, Inr.dst, List.getD_cons_zero, List.getD_cons_succ]
        go_simp
        refine hK.out _ _ (Eq.refl _) (Below.refl _ _) (Inr.noTies _ _ _ _ _)
      · intro vs w' hb hv K hK
        have h11 : (Inr.MP.is (.bool false)).p (vs 11) w' := hv 11 (by simp)
        have h16 : (Inr.MP.is (tv k1 p1 n1 N1 (.slice q1 l1 c1))).p (vs 16) w' := hv 16 (by simp)
        have h21 : (Inr.MP.is (tv k2 p2 n2 N2 (.slice q2 l2 c2))).p (vs 21) w' := hv 21 (by simp)
        clear hv
        have hK2 := hK.out
        clear hK
        simp only [Inr.putD, Inr.dst, List.foldl_cons, List.foldl_nil, List.getD_cons_zero, List.getD_cons_succ, Act.put, List.setIfInBounds_toArray, List.set_cons_zero, List.set_cons_succ] at hK2 ⊢
        have hK := Lib.hid hK2
        clear hK2
        generalize vs 11 = y11 at *
        generalize vs 16 = y16 at *
        generalize vs 21 = y21 at *
        have h11 : y11 = _ := h11
        subst h11
        have h16 : y16 = _ := h16
        subst h16
        have h21 : y21 = _ := h21
        subst h21
        simp only [Region.wanted, Inr.yieldedD, Inr.dst, List.getD_cons_zero, List.getD_cons_succ]
        go_simp
        ((with_reducible refine (refSame_any D _ _ xt xt w' (E5.out.below hb) (F5.out.below hb)).mono ?_); rintro e w3 ⟨rfl, hb3⟩)
        go_wp2_with fail
        refine hK.out _ _ (show Value.bool _ = Value.bool _ from congrArg Value.bool (same_self xt)) hb3 (Inr.noTies _ _ _ _ _)
      · intro vs w' hb hv K hK
        have h11 : (Inr.MP.is (.bool false)).p (vs 11) w' := hv 11 (by simp)
        have h22 : (Inr.MP.is (.bool true)).p (vs 22) w' := hv 22 (by simp)
        clear hv
        have hK2 := hK.out
        clear hK
        simp only [Inr.putD, Inr.dst, List.foldl_cons, List.foldl_nil, List.getD_cons_zero, List.getD_cons_succ, Act.put, List.setIfInBounds_toArray, List.set_cons_zero, List.set_cons_succ] at hK2 ⊢
        have hK := Lib.hid hK2
        clear hK2
        generalize vs 11 = y11 at *
        generalize vs 22 = y22 at *
        have h11 : y11 = _ := h11
        subst h11
        have h22 : y22 = _ := h22
        subst h22
        simp only [Region.wanted, Inr.yieldedD, Inr.dst, List.getD_cons_zero, List.getD_cons_succ]
        go_simp
        refine hK.out _ _ (Eq.refl _) (Below.refl _ _) (Inr.noTies _ _ _ _ _)
      · intro vs w' hb hv K hK
        have h11 : (Inr.MP.is (.bool false)).p (vs 11) w' := hv 11 (by simp)
        have h23 : (Inr.MP.is (.bool false)).p (vs 23) w' := hv 23 (by simp)
        clear hv
        have hK2 := hK.out
        clear hK
        simp only [Inr.putD, Inr.dst, List.foldl_cons, List.foldl_nil, List.getD_cons_zero, List.getD_cons_succ, Act.put, List.setIfInBounds_toArray, List.set_cons_zero, List.set_cons_succ] at hK2 ⊢
        have hK := Lib.hid hK2
        clear hK2
        generalize vs 11 = y11 at *
        generalize vs 23 = y23 at *
        have h11 : y11 = _ := h11
        subst h11
        have h23 : y23 = _ := h23
        subst h23
        simp only [Region.wanted, Inr.yieldedD, Inr.dst, List.getD_cons_zero, List.getD_cons_succ]
        go_simp
        refine hK.out _ _ (Eq.refl _) (Below.refl _ _) (Inr.noTies _ _ _ _ _)
      · have hl9 : vs 24 = .bool false := hv 24 (by omega)
        clear hv
        simp only [List.range, List.range.loop, Inr.putD, Inr.dst, List.foldl_cons, List.foldl_nil, List.getD_cons_zero, List.getD_cons_succ, Act.put, List.setIfInBounds_toArray, List.set_cons_zero, List.set_cons_succ]
        simp only [List.drop_succ_cons, List.drop_zero]
        generalize vs 0 = yy0 at *
        generalize vs 1 = yy1 at *
        generalize vs 2 = yy2 at *
        generalize vs 3 = yy3 at *
        generalize vs 4 = yy4 at *
        generalize vs 5 = yy5 at *
        generalize vs 6 = yy6 at *
        generalize vs 7 = yy7 at *
        generalize vs 8 = yy8 at *
        generalize vs 9 = yy9 at *
        generalize vs 10 = yy10 at *
        generalize vs 11 = yy11 at *
        generalize vs 12 = yy12 at *
        generalize vs 13 = yy13 at *
        generalize vs 14 = yy14 at *
        generalize vs 15 = yy15 at *
        generalize vs 16 = yy16 at *
        generalize vs 17 = yy17 at *
        generalize vs 18 = yy18 at *
        generalize vs 19 = yy19 at *
        generalize vs 20 = yy20 at *
        generalize vs 21 = yy21 at *
        generalize vs 22 = yy22 at *
        generalize vs 23 = yy23 at *
        generalize vs 24 = yy24 at *
        subst hl9
        have HQ := Lib.hid (HBL.out.trans (hbq.mono HBL.out.size))
        clear hbq hBL
        go_wp2
        go_roundw
        case rel => exact ⟨j + 1, by omega, by go_num, HQ.out⟩
        case measure => simp [intOf]; omega
    · obtain rfl : j = len := by omega
      go_wp2
      go_ret
      exact ⟨rfl, hBL⟩
end Go.Proofs.YtncebhddcokkoaaDoor
/- Terms made by the law's own words. -/
namespace Go.Proofs.YtncebhddcokkoaaDoor
open Go.RowKit Go.Maps
set_option linter.unusedSimpArgs false
set_option linter.unusedVariables false
/-- A fault's number. -/
theorem no13_any (w : World) (k : Int) : Calls Tryd.prog 15 #[.int .i64 k] w (fun e w' => e = .returned (.int .i64 k) ∧ Below w.heap.size w w') := by
  have HBL := Lib.hid (Below.refl w.heap.size w)
  go_enter Tryd.func15, Tryd.ntmps15
  go_wp2
  go_ret
  exact ⟨rfl, HBL.out⟩
set_option maxRecDepth 100000 in
/-- A variable. -/
theorem tv13_any (w : World) (s : ByteArray) : Calls Tryd.prog 31 #[.string s] w (fun e w' => e = .returned (tv 1 ⟨#[]⟩ s 0 (.slice none 0 0)) ∧ Below w.heap.size w w') := by
  have HB := Lib.hid (below_alloc w (.cells #[.int .i64 0, .string ⟨#[]⟩, .string ⟨#[]⟩, .int .i64 0, .slice none 0 0] 36))
  go_enter Tryd.func31, Tryd.ntmps31
  go_wp2
  exact bodyPost_ret (v := tv 1 ⟨#[]⟩ s 0 (.slice none 0 0)) (by simp [results, Tryd.results31, go_sem]) rfl ⟨rfl, below_alloc w _⟩
set_option maxRecDepth 100000 in
/-- A constructor. -/
theorem con13_any (w : World) (s : ByteArray) (q : Option Addr) (l c : Nat) : Calls Tryd.prog 39 #[.string s, .slice q l c] w (fun e w' => e = .returned (tv 2 ⟨#[]⟩ s 0 (.slice q l c)) ∧ Below w.heap.size w w') := by
  have HB := Lib.hid (below_alloc w (.cells #[.int .i64 0, .string ⟨#[]⟩, .string ⟨#[]⟩, .int .i64 0, .slice none 0 0] 36))
  go_enter Tryd.func39, Tryd.ntmps39
  go_wp2
  exact bodyPost_ret (v := tv 2 ⟨#[]⟩ s 0 (.slice q l c)) (by simp [results, Tryd.results39, go_sem]) rfl ⟨rfl, below_alloc w _⟩
/-- A function's type. -/
def fun13 (a b : Tm) : Tm := .mk 3 ⟨#[]⟩ ⟨#[]⟩ 0 [a, b]
def Fun13 (d : Nat) (a b : Tm) (w : World) (e : Ending) (w' : World) : Prop := ∃ q c, e = .returned (tv 3 ⟨#[]⟩ ⟨#[]⟩ 0 (.slice q 2 c)) ∧ IsT w' (d + 1) (tv 3 ⟨#[]⟩ ⟨#[]⟩ 0 (.slice q 2 c)) (fun13 a b) ∧ Below w.heap.size w w'
set_option maxRecDepth 100000 in
theorem fun13_any (w : World) (d : Nat) (va vb : Value) (a b : Tm) (ha : IsT w d va a) (hb : IsT w d vb b) : Calls Tryd.prog 32 #[va, vb] w (Fun13 d a b w) := by
  obtain ⟨m1, k1, p1, n1, N1, s1, l1, e1, h1, rfl, _⟩ := ha.open
  obtain ⟨m2, k2, p2, n2, N2, s2, l2, e2, h2, rfl, _⟩ := hb.open
  obtain ⟨q1, x1, c1, rfl⟩ := ha.spell
  obtain ⟨q2, x2, c2, rfl⟩ := hb.spell
  have HA := Lib.hid ha
  have HB := Lib.hid hb
  clear ha hb e1 e2 h1 h2
  go_enter Tryd.func32, Tryd.ntmps32
  go_wp2
  have b1 := below_alloc w (.cells #[.int .i64 k1, .string p1, .string n1, .int .i64 N1, .slice q1 x1 c1] 36)
  have b2 := b1.alloc b1.size (.cells #[.int .i64 k2, .string p2, .string n2, .int .i64 N2, .slice q2 x2 c2] 36)
  have b3 := b2.alloc b2.size (.cells #[.int .i64 3, .string ⟨#[]⟩, .string ⟨#[]⟩, .int .i64 0, .slice (some ⟨w.heap.size + 1 + 1 + 1, 0, none⟩) 2 2] 36)
  have b4 := b3.alloc b3.size (.cells #[.int .i64 k1, .string p1, .string n1, .int .i64 N1, .slice q1 x1 c1, .int .i64 k2, .string p2, .string n2, .int .i64 N2, .slice q2 x2 c2] 36)
  have hn := hb_new (((w.alloc (.cells #[.int .i64 k1, .string p1, .string n1, .int .i64 N1, .slice q1 x1 c1] 36)).alloc (.cells #[.int .i64 k2, .string p2, .string n2, .int .i64 N2, .slice q2 x2 c2] 36)).alloc (.cells #[.int .i64 3, .string ⟨#[]⟩, .string ⟨#[]⟩, .int .i64 0, .slice (some ⟨w.heap.size + 1 + 1 + 1, 0, none⟩) 2 2] 36)) (.cells #[.int .i64 k1, .string p1, .string n1, .int .i64 N1, .slice q1 x1 c1, .int .i64 k2, .string p2, .string n2, .int .i64 N2, .slice q2 x2 c2] 36)
  have es : (((w.alloc (.cells #[.int .i64 k1, .string p1, .string n1, .int .i64 N1, .slice q1 x1 c1] 36)).alloc (.cells #[.int .i64 k2, .string p2, .string n2, .int .i64 N2, .slice q2 x2 c2] 36)).alloc (.cells #[.int .i64 3, .string ⟨#[]⟩, .string ⟨#[]⟩, .int .i64 0, .slice (some ⟨w.heap.size + 1 + 1 + 1, 0, none⟩) 2 2] 36)).heap.size = w.heap.size + 1 + 1 + 1 := by simp
  rw [es] at hn
  refine bodyPost_ret (v := tv 3 ⟨#[]⟩ ⟨#[]⟩ 0 (.slice (some ⟨w.heap.size + 1 + 1 + 1, 0, none⟩) 2 2)) (by simp [results, Tryd.results32, go_sem]) rfl ⟨_, _, rfl, ?_, b4⟩
  refine IsT.shut (by decide) (by decide) ⟨_, _, rfl, by simp [maxLen], fun i x hx => ?_⟩
  match i, hx with
  | 0, hx =>
    obtain rfl := Option.some.inj hx
    exact ⟨_, _, k1, p1, n1, N1, _, rfl, ⟨hb_at hn 0 rfl, hb_at hn 1 rfl, hb_at hn 2 rfl, hb_at hn 3 rfl, hb_at hn 4 rfl⟩, HA.out.below b4⟩
  | 1, hx =>
    obtain rfl := Option.some.inj hx
    exact ⟨_, _, k2, p2, n2, N2, _, rfl, ⟨hb_at hn 5 rfl, hb_at hn 6 rfl, hb_at hn 7 rfl, hb_at hn 8 rfl, hb_at hn 9 rfl⟩, HB.out.below b4⟩
  | i + 2, hx => simp at hx
end Go.Proofs.YtncebhddcokkoaaDoor
