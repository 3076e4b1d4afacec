/- Texts in a row: Fa Fb Fc. -/
import Derived.Test.YtncebhddcokkoaaDoorZU36
import Derived.Laws.IdiomStrings
import Derived.Test.YtncebhddcokkoaaDoorZU11
import Derived.Test.YtncebhddcokkoaaDoorZU13
import Derived.Test.YtncebhddcokkoaaDoorZU35
/- The document's solver: Meet. -/
namespace Go.Proofs.YtncebhddcokkoaaDoor
open Go.RowKit
set_option linter.unusedSimpArgs false
set_option linter.unusedVariables false
theorem hasV_oc {s : ByteArray} : ∀ {d : Nat} {t : Tm}, Tyy t → hasV d t s → Oc s t := by
  intro d
  induction d with
  | zero => intro t _ h; cases h
  | succ d ih =>
    intro t ht h
    obtain ⟨k, p, n, N, l⟩ := t
    rcases h with ⟨rfl, rfl⟩ | ⟨x, hx, h⟩
    · exact .var
    · cases ht with
      | var s => cases hx
      | con hk hl => exact .kid hk hx (ih (hl x hx) h)
theorem so_oc_size {σ : ByteArray → Tm} {t u : Tm} (h : So σ t u) : ∀ {n : ByteArray}, Oc n t → cnt2 (σ n) ≤ cnt2 u := by
  induction h with
  | var =>
    intro s ho
    rcases ho.inv rfl with ⟨_, e⟩ | ⟨hk, _⟩
    · rw [e]; exact Nat.le_refl _
    · exact absurd rfl hk
  | @con k N p n l m hk hl h ih =>
    intro s ho
    rcases ho.inv rfl with ⟨e, _⟩ | ⟨_, x, hx, ho⟩
    · exact absurd e hk
    · obtain ⟨i, hi⟩ := List.getElem?_of_mem hx
      obtain ⟨y, hy⟩ := at_both hl hi
      have h1 := ih i x y hi hy ho
      have h2 := cnt2_part (k := k) (p := p) (n := n) (N := N) (List.mem_of_getElem? hy)
      omega
/-- What the document's Meet answers. -/
def RMeetQ (d : Nat) (ta tb : Tm) (w : World) (e : Ending) (w' : World) : Prop :=
  Below w.heap.size w w' ∧ ((e = .returned (.tuple #[tv 0 ⟨#[]⟩ ⟨#[]⟩ 0 (.slice none 0 0), .int .i64 15]) ∧ ¬ ∃ τ, SolE [(ta, tb)] τ) ∨
    ∃ σ u, Best [(ta, tb)] (nmsE d [(ta, tb)]) σ ∧ So σ ta u ∧ ((∃ k p m I q l cc, e = .returned (.tuple #[tv k p m I (.slice q l cc), .int .i64 0]) ∧ cnt2 u ≤ 1000 ∧ IsT w' 1002 (tv k p m I (.slice q l cc)) u) ∨ (e = .returned (.tuple #[tv 0 ⟨#[]⟩ ⟨#[]⟩ 0 (.slice none 0 0), .int .i64 9]) ∧ 1000 < cnt2 u)))
set_option maxRecDepth 100000 in
set_option maxHeartbeats 1000000 in
theorem rmeet_any (w : World) (d : Nat) (va vb : Value) (ta tb : Tm) (ha : IsT w d va ta) (hb : IsT w d vb tb) (hT : Typ ta ∧ Typ tb) (htot : tot d [(ta, tb)] ≤ 1000) :
    Calls Tryd.prog 21 #[va, vb] w (RMeetQ d ta tb w) := by
  have hd1 : 1 ≤ d := by
    cases d with
    | zero => cases ha
    | succ d => omega
  obtain ⟨k, p, n, N, q, ln, cc, rfl⟩ := ha.shp
  obtain ⟨k', p', n', N', q', ln', cc', rfl⟩ := hb.shp
  have hb3 := (((below_alloc w (.cells #[.int .i64 k, .string p, .string n, .int .i64 N, .slice q ln cc] 36)).alloc (below_alloc w _).size (.cells #[.int .i64 k', .string p', .string n', .int .i64 N', .slice q' ln' cc'] 36)).alloc (by simp; omega) (.cells #[.int .i64 0, .string ⟨#[]⟩, .string ⟨#[]⟩, .int .i64 0, .slice none 0 0] 36))
  have h2 : (((w.alloc (.cells #[.int .i64 k, .string p, .string n, .int .i64 N, .slice q ln cc] 36)).alloc (.cells #[.int .i64 k', .string p', .string n', .int .i64 N', .slice q' ln' cc'] 36)).alloc (.cells #[.int .i64 0, .string ⟨#[]⟩, .string ⟨#[]⟩, .int .i64 0, .slice none 0 0] 36)).heap[w.heap.size]? = some (.cells #[.int .i64 k, .string p, .string n, .int .i64 N, .slice q ln cc] 36 (0, 0)) := hb_alloc (hb_alloc (hb_new _ _) _) _
  have h3 : (((w.alloc (.cells #[.int .i64 k, .string p, .string n, .int .i64 N, .slice q ln cc] 36)).alloc (.cells #[.int .i64 k', .string p', .string n', .int .i64 N', .slice q' ln' cc'] 36)).alloc (.cells #[.int .i64 0, .string ⟨#[]⟩, .string ⟨#[]⟩, .int .i64 0, .slice none 0 0] 36)).heap[w.heap.size + 1]? = some (.cells #[.int .i64 k', .string p', .string n', .int .i64 N', .slice q' ln' cc'] 36 (0, 0)) := by simpa using hb_alloc (hb_new (w.alloc (.cells #[.int .i64 k, .string p, .string n, .int .i64 N, .slice q ln cc] 36)) (.cells #[.int .i64 k', .string p', .string n', .int .i64 N', .slice q' ln' cc'] 36)) (.cells #[.int .i64 0, .string ⟨#[]⟩, .string ⟨#[]⟩, .int .i64 0, .slice none 0 0] 36)
  have h4 : (((w.alloc (.cells #[.int .i64 k, .string p, .string n, .int .i64 N, .slice q ln cc] 36)).alloc (.cells #[.int .i64 k', .string p', .string n', .int .i64 N', .slice q' ln' cc'] 36)).alloc (.cells #[.int .i64 0, .string ⟨#[]⟩, .string ⟨#[]⟩, .int .i64 0, .slice none 0 0] 36)).heap[w.heap.size + 1 + 1]? = some (.cells #[.int .i64 0, .string ⟨#[]⟩, .string ⟨#[]⟩, .int .i64 0, .slice none 0 0] 36 (0, 0)) := by simpa using hb_new ((w.alloc (.cells #[.int .i64 k, .string p, .string n, .int .i64 N, .slice q ln cc] 36)).alloc (.cells #[.int .i64 k', .string p', .string n', .int .i64 N', .slice q' ln' cc'] 36)) (.cells #[.int .i64 0, .string ⟨#[]⟩, .string ⟨#[]⟩, .int .i64 0, .slice none 0 0] 36)
  have HA := Lib.hid ha
  have HBB := Lib.hid hb
  have HTT := Lib.hid hT
  have HTOT := Lib.hid htot
  clear ha hb hT htot
  go_enter Tryd.func21, Tryd.ntmps21
  go_upto_region 1 with (fail)
  generalize (((w.alloc (.cells #[.int .i64 k, .string p, .string n, .int .i64 N, .slice q ln cc] 36)).alloc (.cells #[.int .i64 k', .string p', .string n', .int .i64 N', .slice q' ln' cc'] 36)).alloc (.cells #[.int .i64 0, .string ⟨#[]⟩, .string ⟨#[]⟩, .int .i64 0, .slice none 0 0] 36)) = W1 at *
  obtain ⟨a0, a1, a2, a3, a4⟩ := box_cells h2
  obtain ⟨b0, b1, b2, b3, b4⟩ := box_cells h3
  have hb2 := below_alloc W1 (.cells #[.int .i64 k, .string p, .string n, .int .i64 N, .slice q ln cc, .int .i64 k', .string p', .string n', .int .i64 N', .slice q' ln' cc'] 43)
  have ht := hb_new W1 (.cells #[.int .i64 k, .string p, .string n, .int .i64 N, .slice q ln cc, .int .i64 k', .string p', .string n', .int .i64 N', .slice q' ln' cc'] 43)
  have hbw2 := hb3.trans (hb2.mono hb3.size)
  have heq : EqAt (W1.alloc (.cells #[.int .i64 k, .string p, .string n, .int .i64 N, .slice q ln cc, .int .i64 k', .string p', .string n', .int .i64 N', .slice q' ln' cc'] 43)) d (.slice (some ⟨W1.heap.size, 0, none⟩) 1 1) [(ta, tb)] := ⟨some ⟨W1.heap.size, 0, none⟩, 1, rfl, fun i x hx => by
    match i, hx with
    | 0, hx =>
      obtain rfl := Option.some.inj hx
      exact ⟨W1.heap.size, 0, k, p, n, N, _, k', p', n', N', _, rfl, ⟨⟨hb_at ht 0 rfl, hb_at ht 1 rfl, hb_at ht 2 rfl, hb_at ht 3 rfl, hb_at ht 4 rfl⟩, HA.out.below hbw2⟩, ⟨hb_at ht 5 rfl, hb_at ht 6 rfl, hb_at ht 7 rfl, hb_at ht 8 rfl, hb_at ht 9 rfl⟩, HBB.out.below hbw2⟩
    | i + 1, hx => simp at hx⟩
  have hTE : ∀ x ∈ [(ta, tb)], Typ x.1 ∧ Typ x.2 := fun x hx => by cases List.mem_singleton.1 hx; exact HTT.out
  have HS := Lib.hid (rsolveA_any _ d _ [(ta, tb)] heq hTE HTOT.out (by simp) hd1)
  have HEQ := Lib.hid heq
  have HTE := Lib.hid hTE
  have H2 := Lib.hid (hb_below h2 hb2 (hb_lt h2))
  have H4 := Lib.hid (hb_below h4 hb2 (hb_lt h4))
  have HBW0 := Lib.hid hbw2
  clear hb3 h2 h3 h4 hb2 ht hbw2 heq hTE
  go_upto_region 2 with (fail)
  generalize W1.alloc (.cells #[.int .i64 k, .string p, .string n, .int .i64 N, .slice q ln cc, .int .i64 k', .string p', .string n', .int .i64 N', .slice q' ln' cc'] 43) = WE at *
  generalize W1.heap.size = GE at *
  clear a0 a1 a2 a3 a4 b0 b1 b2 b3 b4
  go_upto_region 3 with (go_at_call 13; (with_reducible refine HS.out.mono ?_); rintro e w5 ⟨q1, l1, c1, k1, L1, rfl, hv1, ha1, hb1⟩; have HA1 := Lib.hid ha1; have HB5 := Lib.hid hb1; clear hv1 ha1 hb1)
  have HBW := Lib.hid (HBW0.out.trans (HB5.out.mono HBW0.out.size))
  have H4 := Lib.hid (hb_below H4.out HB5.out (hb_lt H4.out))
  have H2 := Lib.hid (hb_below H2.out HB5.out (hb_lt H2.out))
  rcases HA1.out with ⟨rfl, rfl, hno⟩ | ⟨σ, hB, ⟨rfl, rfl, hall⟩ | ⟨rfl, rfl, hbig⟩⟩
  · have HNO := Lib.hid hno
    clear hno
    have y0 := hb_at H4.out 0 rfl
    have y1 := hb_at H4.out 1 rfl
    have y2 := hb_at H4.out 2 rfl
    have y3 := hb_at H4.out 3 rfl
    have y4 := hb_at H4.out 4 rfl
    have f0 := hb_free H4.out 0
    have f1 := hb_free H4.out 1
    have f2 := hb_free H4.out 2
    have f3 := hb_free H4.out 3
    have f4 := hb_free H4.out 4
    go_wp2
    have hset := box_set (base := w.heap.size) (g := w.heap.size + 1 + 1) (by omega) H4.out (.int .i64 0) (.string ⟨#[]⟩) (.string ⟨#[]⟩) (.int .i64 0) (.slice none 0 0)
    refine bodyPost_ret (v := .tuple #[tv 0 ⟨#[]⟩ ⟨#[]⟩ 0 (.slice none 0 0), .int .i64 15]) (by simp [results, Tryd.results21, go_sem, y0, y1, y2, y3, y4]) rfl ⟨?_, .inl ⟨rfl, HNO.out⟩⟩
    exact HBW.out.trans hset.2.2
  · have HB := Lib.hid hB
    have HE5 := Lib.hid (HEQ.out.below HB5.out)
    have HNW := Lib.hid (rnew_any w5 d _ [(ta, tb)] HE5.out HTE.out HTOT.out (by simp))
    clear hB hall
    go_upto_region 6 with (go_at_call 42; (with_reducible refine HNW.out.mono ?_); rintro e w6 ⟨B, g, r, rfl, hb6, hno, hyes⟩; have HB6 := Lib.hid hb6; have HNO := Lib.hid hno; have HYES := Lib.hid hyes; clear hb6 hno hyes)
    have hr : r = true := by
      cases r with
      | true => rfl
      | false => exact absurd ⟨σ, HB.out.sol⟩ (HNO.out rfl)
    subst hr
    obtain ⟨S, nv, cg, hR, hI, hz, hsol⟩ := HYES.out rfl
    obtain ⟨τ, hτ⟩ := RS.self_ex hI
    have hbest := RS.best hI hsol hτ
    have hty := HTT.out
    obtain ⟨u, hu⟩ := hI.all hty.1.tyy
    have hso := RS.Fu.self hτ hu
    have hoc := oc_nms (a := ta) (b := tb) HA.out.dp HBB.out.dp
    have hia := (HA.out.lt.below (HBW.out.trans (HB6.out.mono HBW.out.size))).move (Y := fun b => b < w5.heap.size) fun b hb _ => ⟨Nat.lt_of_lt_of_le hb HBW.out.size, rfl⟩
    have hc : Calls Tryd.prog 43 #[.pointer (some ⟨B, 0, none⟩), tv k p n N (.slice q ln cc), .int .i64 1000] w6 (FullQ 1000 u w6) := fullD_any hI 1000 w6 _ ta u (by decide) hR hia ⟨hty.1.tyy, hoc.1⟩ hu
    have HC := Lib.hid hc
    have HBEST := Lib.hid hbest
    have HSO := Lib.hid hso
    have HBW := Lib.hid (HBW.out.trans (HB6.out.mono HBW.out.size))
    have H4 := Lib.hid (hb_below H4.out HB6.out (hb_lt H4.out))
    have H2 := Lib.hid (hb_below H2.out HB6.out (hb_lt H2.out))
    clear hR hI hz hsol hτ hbest hty hu hso hoc hia hc HNO HYES HNW
    have HL4 := Lib.hid (hb_lt H4.out)
    obtain ⟨a0, a1, a2, a3, a4⟩ := box_cells H2.out
    go_upto_region 7 with (go_at_call 43; (with_reducible refine HC.out.mono ?_); rintro e w7 ⟨k6, p6, m6, N6, q6, l6, c6, x6, r6, rfl, hx6, hc6, hb7⟩; have HX6 := Lib.hid hx6; have HC6 := Lib.hid hc6; have HB7 := Lib.hid hb7; clear hx6 hc6 hb7)
    have hba := below_alloc w7 (.cells #[.int .i64 k6, .string p6, .string m6, .int .i64 N6, .slice q6 l6 c6] 36)
    have hnw := hb_new w7 (.cells #[.int .i64 k6, .string p6, .string m6, .int .i64 N6, .slice q6 l6 c6] 36)
    have HBW := Lib.hid ((HBW.out.trans (HB7.out.mono HBW.out.size)).trans (hba.mono (HBW.out.trans (HB7.out.mono HBW.out.size)).size))
    have H4 := Lib.hid (hb_below (hb_below H4.out HB7.out (hb_lt H4.out)) hba (by have := hb_lt H4.out; have := HB7.out.size; omega))
    have HX7 := Lib.hid (HX6.out.below hba)
    obtain ⟨z0, z1, z2, z3, z4⟩ := box_cells hnw
    clear hba hnw a0 a1 a2 a3 a4
    generalize w7.alloc (.cells #[.int .i64 k6, .string p6, .string m6, .int .i64 N6, .slice q6 l6 c6] 36) = W8 at *
    generalize w7.heap.size = T at *
    rcases HC6.out with ⟨hcn, hx, hr6⟩ | ⟨hcn, hr6⟩
    · have hlt6 : decide (r6 < 0) = false := by simp; omega
      have HX := Lib.hid hx
      have HCN := Lib.hid hcn
      clear hcn hx hr6
      have y0 := hb_at H4.out 0 rfl
      have y1 := hb_at H4.out 1 rfl
      have y2 := hb_at H4.out 2 rfl
      have y3 := hb_at H4.out 3 rfl
      have y4 := hb_at H4.out 4 rfl
      have f0 := hb_free H4.out 0
      have f1 := hb_free H4.out 1
      have f2 := hb_free H4.out 2
      have f3 := hb_free H4.out 3
      have f4 := hb_free H4.out 4
      go_wp2
      obtain ⟨v1, v2, v3⟩ := box_set (base := w.heap.size) (g := w.heap.size + 1 + 1) (by omega) H4.out (.int .i64 k6) (.string p6) (.string m6) (.int .i64 N6) (.slice q6 l6 c6)
      refine bodyPost_ret (v := .tuple #[tv k6 p6 m6 N6 (.slice q6 l6 c6), .int .i64 0]) (by simp [results, Tryd.results21, go_sem, y0, y1, y2, y3, y4]) rfl ⟨HBW.out.trans v3, .inr ⟨τ, u, HBEST.out, HSO.out, .inl ⟨k6, p6, m6, N6, q6, l6, c6, rfl, HCN.out, ?_⟩⟩⟩
      rw [← HX.out]
      exact (HX7.out.move (Y := fun _ => True) fun b hb _ => ⟨trivial, v2 b (by have := HL4.out; omega)⟩).isT
    · have hlt6 : decide (r6 < 0) = true := by simp; omega
      have HCN := Lib.hid hcn
      clear hcn hr6
      have y0 := hb_at H4.out 0 rfl
      have y1 := hb_at H4.out 1 rfl
      have y2 := hb_at H4.out 2 rfl
      have y3 := hb_at H4.out 3 rfl
      have y4 := hb_at H4.out 4 rfl
      have f0 := hb_free H4.out 0
      have f1 := hb_free H4.out 1
      have f2 := hb_free H4.out 2
      have f3 := hb_free H4.out 3
      have f4 := hb_free H4.out 4
      go_wp2
      have hset := box_set (base := w.heap.size) (g := w.heap.size + 1 + 1) (by omega) H4.out (.int .i64 0) (.string ⟨#[]⟩) (.string ⟨#[]⟩) (.int .i64 0) (.slice none 0 0)
      refine bodyPost_ret (v := .tuple #[tv 0 ⟨#[]⟩ ⟨#[]⟩ 0 (.slice none 0 0), .int .i64 9]) (by simp [results, Tryd.results21, go_sem, y0, y1, y2, y3, y4]) rfl ⟨?_, .inr ⟨τ, u, HBEST.out, HSO.out, .inr ⟨rfl, HCN.out⟩⟩⟩
      exact HBW.out.trans hset.2.2
  · have HB := Lib.hid hB
    obtain ⟨n9, hn9, hc9⟩ := hbig
    obtain ⟨u, hu⟩ := So.ex (σ := σ) HTT.out.1.tyy
    have hub := sol_pair hB.sol hu
    have hcu : 1000 < cnt2 u := by
      obtain ⟨x, hx, hv⟩ := mem_nmsE.1 hn9
      cases List.mem_singleton.1 hx
      rcases hv with hv | hv
      · have := so_oc_size hu (hasV_oc HTT.out.1.tyy hv); omega
      · have := so_oc_size hub (hasV_oc HTT.out.2.tyy hv); omega
    have HU := Lib.hid hu
    have HCU := Lib.hid hcu
    clear hB hn9 hc9 hu hub hcu
    have y0 := hb_at H4.out 0 rfl
    have y1 := hb_at H4.out 1 rfl
    have y2 := hb_at H4.out 2 rfl
    have y3 := hb_at H4.out 3 rfl
    have y4 := hb_at H4.out 4 rfl
    have f0 := hb_free H4.out 0
    have f1 := hb_free H4.out 1
    have f2 := hb_free H4.out 2
    have f3 := hb_free H4.out 3
    have f4 := hb_free H4.out 4
    go_wp2
    have hset := box_set (base := w.heap.size) (g := w.heap.size + 1 + 1) (by omega) H4.out (.int .i64 0) (.string ⟨#[]⟩) (.string ⟨#[]⟩) (.int .i64 0) (.slice none 0 0)
    refine bodyPost_ret (v := .tuple #[tv 0 ⟨#[]⟩ ⟨#[]⟩ 0 (.slice none 0 0), .int .i64 9]) (by simp [results, Tryd.results21, go_sem, y0, y1, y2, y3, y4]) rfl ⟨?_, .inr ⟨σ, u, HB.out, HU.out, .inr ⟨rfl, HCU.out⟩⟩⟩
    exact HBW.out.trans hset.2.2
end Go.Proofs.YtncebhddcokkoaaDoor
/- The document's names of variables. -/
namespace Go.Proofs.YtncebhddcokkoaaDoor
open Go.RowKit
set_option linter.unusedSimpArgs false
set_option linter.unusedVariables false
theorem dig_is : ∀ x, x < 10 → ((⟨#[48 + UInt8.ofNat x]⟩ : ByteArray) ++ ⟨#[]⟩) = digB x := by decide +kernel
theorem nm_low : ∀ i, i < 26 → (⟨#[97 + UInt8.ofNat (i % 26)]⟩ : ByteArray) = nmB i := by decide +kernel
set_option maxRecDepth 100000 in
theorem nm_high : ∀ i, i < 260 → 26 ≤ i → ((⟨#[97 + UInt8.ofNat (i % 26)]⟩ : ByteArray) ++ digB (i / 26)) = nmB i := by decide +kernel
/-- A byte as a text. -/
theorem byte_text (w : World) (c : Nat) (z : Int) (hz : z = (c : Int)) (hc : c < 256) : (convert 59 9 (.slice (some ⟨w.heap.size, 0, none⟩) 1 1)).run Tryd.prog (w.alloc (.cells #[.int .u8 z] 5)) = .ok (.string ⟨#[UInt8.ofNat c]⟩) (w.alloc (.cells #[.int .u8 z] 5)) := by
  subst hz
  have hu : ((UInt8.ofNat c).toNat : Int) = (c : Int) := by
    rw [UInt8.toNat_ofNat']
    omega
  have hnew := hb_new w (.cells #[.int .u8 (c : Int)] 5)
  exact run_convert_bytes_back (P := Tryd.prog) _ 59 9 5 ⟨w.heap.size, 0, none⟩ 1 [UInt8.ofNat c] (by kernel_rfl) (by kernel_rfl) (by kernel_rfl) (fun j hj => by
      have e : j = 0 := by simpa using hj
      subst e
      rw [add_zero_none, hb_at hnew 0 rfl]
      show _ = some (Value.int .u8 ((UInt8.ofNat c).toNat : Int))
      rw [hu]
      rfl)
theorem digB_ne {x : Nat} (hx : x < 10) : (digB x).size = 1 := by
  unfold digB
  rw [if_pos hx]
  rfl
theorem digB_list : ∀ x, x < 10 → ((digB x).toList == []) = false := by decide +kernel
set_option maxRecDepth 100000 in
theorem dec73_any (w : World) (x : Nat) (h0 : 0 < x) (hx : x < 10) : Calls Tryd.prog 73 #[.int .i64 (x : Int)] w (fun e w' => e = .returned (.string (digB x)) ∧ Below w.heap.size w w') := by
  go_enter Tryd.func73, Tryd.ntmps73
  go_wp2
  go_loopw [0, 3] (fun t0 t3 wr => Below w.heap.size w wr ∧ ((t0 = .int .i64 (x : Int) ∧ t3 = .string ⟨#[]⟩) ∨ (t0 = .int .i64 0 ∧ t3 = .string (digB x)))) (fun _ t3 _ => match t3 with | .string s => if s.size = 0 then 1 else 0 | _ => 0)
  case atStart => exact ⟨Below.refl _ _, .inl ⟨rfl, rfl⟩⟩
  case round =>
    obtain ⟨hbel, ⟨rfl, rfl⟩ | ⟨rfl, rfl⟩⟩ := hrel
    · have HB := Lib.hid hbel
      have hm : (x : Int).tmod 10 = (x : Int) := Int.tmod_eq_of_lt (by omega) (by omega)
      have hq : (x : Int).tdiv 10 = 0 := Int.tdiv_eq_zero_of_lt (by omega) (by omega)
      have hcv := byte_text wr (48 + x) (48 + (x : Int)) (by simp) (by omega)
      have HB2 := Lib.hid (hbel.trans ((below_alloc wr (.cells #[.int .u8 (48 + (x : Int))] 5)).mono hbel.size))
      have hb9 : decide ((48 + x : Nat) < 256) = true := by simp; omega
      clear hbel
      have hp : decide ((x : Int) > 0) = true := by simp; omega
      have hp' : decide (0 < x) = true := by simp; omega
      go_wp2
      refine ⟨⟨HB2.out, .inr ⟨rfl, ?_⟩⟩, ?_⟩
      · rw [dig_is x hx]
      · rw [dig_is x hx]
        show (if (digB x).size = 0 then 1 else 0) < (if (⟨#[]⟩ : ByteArray).size = 0 then 1 else 0)
        rw [digB_ne hx]
        decide
    · have HB := Lib.hid hbel
      have hl := digB_list x hx
      clear hbel
      go_wp2
      go_ret
      exact ⟨rfl, HB.out⟩
set_option maxRecDepth 100000 in
theorem name47_any (w : World) (i : Nat) (hi : i < 260) : Calls Tryd.prog 47 #[.int .i64 (i : Int)] w (fun e w' => e = .returned (.string (nmB i)) ∧ Below w.heap.size w w') := by
  have hm : (i : Int).tmod 26 = ((i % 26 : Nat) : Int) := by rw [Int.tmod_eq_emod_of_nonneg (by omega)]; omega
  have hq : (i : Int).tdiv 26 = ((i / 26 : Nat) : Int) := by rw [Int.tdiv_eq_ediv_of_nonneg (by omega)]; omega
  obtain ⟨r, hr⟩ : ∃ r, i % 26 = r := ⟨_, rfl⟩
  obtain ⟨y, hy⟩ : ∃ y, i / 26 = y := ⟨_, rfl⟩
  rw [hr] at hm
  rw [hy] at hq
  have hr26 : r < 26 := by omega
  have hcv := byte_text w (97 + r) (97 + (r : Int)) (by simp) (by omega)
  have HB := Lib.hid (below_alloc w (.cells #[.int .u8 (97 + (r : Int))] 5))
  by_cases h : i < 26
  · have hg : decide ((i : Int) ≥ 26) = false := by simp; omega
    have hg' : decide (26 ≤ i) = false := by simp; omega
    have HE : RowKit.Hid ((⟨#[97 + UInt8.ofNat r]⟩ : ByteArray) = nmB i) := Lib.hid (by rw [← hr]; exact nm_low i h)
    clear hr hy h hq
    go_enter Tryd.func47, Tryd.ntmps47
    go_wp2
    go_ret
    refine ⟨?_, HB.out⟩
    show Ending.returned (.string (⟨#[97 + UInt8.ofNat r]⟩ : ByteArray)) = _
    rw [HE.out]
  · have hg : decide ((i : Int) ≥ 26) = true := by simp; omega
    have hg' : decide (26 ≤ i) = true := by simp; omega
    have HE : RowKit.Hid ((⟨#[97 + UInt8.ofNat r]⟩ : ByteArray) ++ digB y = nmB i) := Lib.hid (by rw [← hr, ← hy]; exact nm_high i hi (by omega))
    have HD := Lib.hid (dec73_any (w.alloc (.cells #[.int .u8 (97 + (r : Int))] 5)) y (by omega) (by omega))
    have HSZ : RowKit.Hid ((digB y).size = 1) := Lib.hid (digB_ne (by omega))
    have hy10 : y < 10 := by omega
    clear hr hy h
    go_enter Tryd.func47, Tryd.ntmps47
    go_wp2_with (go_at_call 73; ((with_reducible refine HD.out.mono ?_); rintro e w5 ⟨rfl, hb⟩; have hsz5 := HSZ.out; have HB := Lib.hid (HB.out.trans (hb.mono HB.out.size)); clear hb))
    go_ret
    refine ⟨?_, HB.out⟩
    show Ending.returned (.string ((⟨#[97 + UInt8.ofNat r]⟩ : ByteArray) ++ digB y)) = _
    rw [HE.out]
end Go.Proofs.YtncebhddcokkoaaDoor
/- The document's canonical form. -/
namespace Go.Proofs.YtncebhddcokkoaaDoor
open Go.RowKit
set_option linter.unusedSimpArgs false
set_option linter.unusedVariables false
/-- What the document's Canon answers. -/
def RCanQ (d : Nat) (t : Tm) (w : World) (e : Ending) (w' : World) : Prop := ∃ v', e = .returned v' ∧ IsT w' (1 + d) v' (canonT d t) ∧ Below w.heap.size w w'
theorem nmT_next (j : Nat) : nmT (j + 1) = nmT j ++ [vN (nmB j)] := by
  unfold nmT
  rw [List.range_succ, List.map_append]
  rfl
theorem nmT_len (j : Nat) : (nmT j).length = j := by simp [nmT]
theorem nm_sz : ∀ i, i < 260 → (nmB i).size ≤ maxLen := by
  have h : ∀ i, i < 260 → (nmB i).size ≤ 2 := by decide +kernel
  intro i hi
  have h1 := h i hi
  have h2 : 2 ≤ maxLen := by decide
  omega
theorem made_kidsE {w : World} {base j : Nat} {sv : Value} (h : MadeB 0 base w 1 sv (nmT j)) (hj : j ≤ 260) : KidsE (fun b => b < 0) w 1 sv (nmT j) := by
  obtain ⟨q, c, h1, h2, h3⟩ := h.all (by rw [nmT_len]; unfold maxLen; omega) (fun _ _ => rfl)
  refine ⟨q, c, h1, h2, fun i x hx => ?_⟩
  obtain ⟨b, o, k', p', n', N', s', e, _, ha, ht⟩ := h3 i x hx
  refine ⟨b, o, k', p', n', N', s', e, trivial, ha, ?_⟩
  obtain ⟨i', _, rfl⟩ := List.mem_map.1 (List.mem_of_getElem? hx)
  obtain ⟨q9, c9, a1, a2, a3, a4, a5⟩ := ht
  exact ⟨q9, c9, a1, a2, a3, a4, fun i y hy => by simp at hy⟩
set_option maxRecDepth 100000 in
set_option maxHeartbeats 4000000 in
theorem rcanon_any (w : World) (d : Nat) (v : Value) (t : Tm) (h : IsT w d v t) (hs : Sm d t) (hz : tszN d t ≤ 30000) (hl : (varsT d [] t).length ≤ 260) : Calls Tryd.prog 22 #[v] w (RCanQ d t w) := by
  have HT := Lib.hid h
  obtain ⟨d1, k, p, n, N, s1, kids, e1, e2, rfl, _, _, q, c, rfl, _, _⟩ := h.open
  generalize kids.length = l at *
  clear h e1 e2
  have k0 := hb_alloc (hb_new w (.cells #[.int .i64 k, .string p, .string n, .int .i64 N, .slice q l c] 36)) (.cells #[.int .i64 0, .string ⟨#[]⟩, .string ⟨#[]⟩, .int .i64 0, .slice none 0 0] 36)
  have k1 := hb_new (w.alloc (.cells #[.int .i64 k, .string p, .string n, .int .i64 N, .slice q l c] 36)) (.cells #[.int .i64 0, .string ⟨#[]⟩, .string ⟨#[]⟩, .int .i64 0, .slice none 0 0] 36)
  simp only [World.size_alloc] at k1
  have hB0 := below2 w (.cells #[.int .i64 k, .string p, .string n, .int .i64 N, .slice q l c] 36) (.cells #[.int .i64 0, .string ⟨#[]⟩, .string ⟨#[]⟩, .int .i64 0, .slice none 0 0] 36)
  have K0 := Lib.hid k0
  have K1 := Lib.hid k1
  have HB0 := Lib.hid hB0
  have HVA := Lib.hid (rvars_any d (.slice none 0 0) _ [] t _ (HT.out.below hB0) (SRow.nil _) (by simp; omega))
  have HS := Lib.hid hs
  obtain ⟨ns, hns⟩ : ∃ ns, varsT d [] t = ns := ⟨_, rfl⟩
  have hcan : canonT d t = sub (byOf (fg ns ns.length) (nmT ns.length)) d t := by rw [← hns]; rfl
  have HCAN := Lib.hid hcan
  rw [hns] at hl
  have HNS := Lib.hid hns
  obtain ⟨m, hm⟩ : ∃ m, ns.length = m := ⟨_, rfl⟩
  have HNL := Lib.hid hm
  rw [hm] at hl
  clear k0 k1 hB0 hs hcan hns hm hz
  go_enter Tryd.func22, Tryd.ntmps22
  go_upto_region 2 with (go_at_call 35; ((with_reducible refine HVA.out.mono ?_); rintro e w3 ⟨v3, rfl, ho3, hb3⟩; rw [HNS.out] at ho3; have HO3 := Lib.hid ho3; obtain ⟨a3, cc3, hv3, _⟩ := ho3; rw [HNL.out] at hv3; subst hv3; have HB3 := Lib.hid hb3; have u0 := hb_below K0.out hb3 (by simp <;> omega); have u1 := hb_below K1.out hb3 (by simp <;> omega); have U0 := Lib.hid u0; have U1 := Lib.hid u1; clear hb3 u0 u1))
  have hB3 : Below w.heap.size w w3 := HB0.out.trans (HB3.out.mono HB0.out.size)
  have HB3w := Lib.hid hB3
  have hz3 := hB3.size
  clear hB3
  go_wp2
  go_loopw [4, 5] (fun t4 t5 wr => ∃ j : Nat, j ≤ m ∧ t5 = .int .i64 j ∧ MadeB 0 w3.heap.size wr 1 t4 (nmT j) ∧ Below w3.heap.size w3 wr) (fun _ t5 _ => m - (intOf t5).toNat)
  case atStart => exact ⟨0, by omega, rfl, MadeB.nil _ _ _ _, Below.refl _ _⟩
  case round =>
    obtain ⟨j, hj, rfl, hmd, hBj⟩ := hrel
    have HMD := Lib.hid hmd
    have HBJ := Lib.hid hBj
    have hzj := hBj.size
    clear hmd hBj
    by_cases hjm : (j : Int) < (m : Int)
    · have hjb : decide (j < m) = true := by simp; omega
      go_wp2_with (first
        | (go_at_call 47; (with_reducible refine (name47_any _ j (by omega)).mono ?_); rintro e w5 ⟨rfl, hb5⟩; have HB5 := Lib.hid hb5; clear hb5)
        | (at_builtin; obtain ⟨v9, w9, hrun9, hm9, hb9⟩ := MadeB.append HMD.out (Nat.zero_le _) HBJ.out.size (HB5.out.trans ((below_alloc w5 (.cells #[.int .i64 1, .string ⟨#[]⟩, .string (nmB j), .int .i64 0, .slice none 0 0] 36)).mono HB5.out.size)) (IsX.leaf (nm_sz j (by omega)) (by decide)) (hb_new w5 (.cells #[.int .i64 1, .string ⟨#[]⟩, .string (nmB j), .int .i64 0, .slice none 0 0] 36)) 1 (by rw [nmT_len]; omega); refine wpList_append_at rfl (.tmp 14) (.tmp 18) rfl rfl rfl rfl hrun9 ?_; have HM9 := Lib.hid hm9; have HB9 := Lib.hid ((HBJ.out.trans ((HB5.out.trans ((below_alloc w5 (.cells #[.int .i64 1, .string ⟨#[]⟩, .string (nmB j), .int .i64 0, .slice none 0 0] 36)).mono HB5.out.size)).mono HBJ.out.size)).trans hb9); clear hrun9 hm9 hb9))
      exact ⟨⟨j + 1, by omega, by go_num, by rw [nmT_next]; exact HM9.out, HB9.out⟩, by simp [intOf]; omega⟩
    · obtain rfl : j = m := by omega
      have hjb : decide (j < j) = false := by simp
      have hw1 : Below w.heap.size w wr := HB3w.out.trans (HBJ.out.mono hz3)
      have HW1 := Lib.hid hw1
      have t0 := hb_below U0.out HBJ.out (hb_lt U0.out)
      have t1 := hb_below U1.out HBJ.out (hb_lt U1.out)
      have T1 := Lib.hid t1
      have x0 := hb_at t0 0 rfl
      have x1 := hb_at t0 1 rfl
      have x2 := hb_at t0 2 rfl
      have x3 := hb_at t0 3 rfl
      have x4 := hb_at t0 4 rfl
      have hnsl := HNL.out
      have hsub := rsubst_any ns (.slice a3 j cc3) (nmT j) _ 1 (by omega) d t _ wr 0 (Nat.zero_le _) (HT.out.below hw1) (HO3.out.below HBJ.out).o (made_kidsE HMD.out hl) HS.out
      rw [hnsl] at hsub
      have hcn := HCAN.out
      rw [hnsl] at hcn
      rw [← hcn] at hsub
      have HSU := Lib.hid hsub
      clear hw1 t0 t1 hsub hnsl hcn
      go_wp2_with (go_at_call 18; (with_reducible refine HSU.out.mono ?_); rintro e w5 ⟨v5, rfl, hx5, hb5⟩; obtain ⟨k5, p5, n5, N5, q5, l5, c5, rfl⟩ := hx5.shape; have HX6 := Lib.hid hx5; have HB5 := Lib.hid hb5; have u1 := hb_below T1.out hb5 (hb_lt T1.out); have y0 := hb_at u1 0 rfl; have y1 := hb_at u1 1 rfl; have y2 := hb_at u1 2 rfl; have y3 := hb_at u1 3 rfl; have y4 := hb_at u1 4 rfl; have g0 := hb_free u1 0; have g1 := hb_free u1 1; have g2 := hb_free u1 2; have g3 := hb_free u1 3; have g4 := hb_free u1 4; have hw8 := hb_lt T1.out; clear hx5 hb5 u1)
      have hB5 : Below w.heap.size w w5 := HW1.out.trans (HB5.out.mono HW1.out.size)
      refine bodyPost_ret (v := tv k5 p5 n5 N5 (.slice q5 l5 c5)) (by simp [results, Tryd.results22, go_sem, y0, y1, y2, y3, y4]) rfl ⟨_, rfl, ?_, (((((hB5.setCell (by simp) _).setCell (by simp) _).setCell (by simp) _).setCell (by simp) _).setCell (by simp) _)⟩
      refine (HX6.out.move (Y := fun _ => True) fun b hb _ => ⟨trivial, ?_⟩).isT
      have hb2 : wr.heap.size ≤ b := by rcases hb with hb | hb; exact absurd hb (Nat.not_lt_zero _); exact hb
      have hne : b ≠ w.heap.size + 1 := by omega
      rw [Below.heap_setCell _ _ _ b hne, Below.heap_setCell _ _ _ b hne, Below.heap_setCell _ _ _ b hne, Below.heap_setCell _ _ _ b hne, Below.heap_setCell _ _ _ b hne]
end Go.Proofs.YtncebhddcokkoaaDoor
