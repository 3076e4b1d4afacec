/- Texts in a row: Lk Ll Lm. -/
import Derived.Test.YtncebhddcokkoaaDoorZR17
import Derived.Test.YtncebhddcokkoaaDoorZR23
/- What a solver has found is told. -/
namespace Go.Proofs.YtncebhddcokkoaaDoor
open Go.RowKit Go.Maps
set_option linter.unusedSimpArgs false
set_option linter.unusedVariables false
set_option maxRecDepth 100000 in
set_option maxHeartbeats 1000000 in
theorem told46_any {c : Cfg} {N : Nat} {A : Abs} {ns : List ByteArray} {ρ : ByteArray → Option Nat} {sv nv : Value} {M P : Nat} {f : Nat → Tm} (hN : Nms A ρ f) {i : Nat} {t : Tm} {w : World} (hu : Abs.Unf A f i t) (h : SV (fun _ => False) c N A ns ρ sv nv M P w) (hi : i < A.l.length) :
    Calls Tryd.prog 46 #[.pointer (some ⟨c.B, 0, none⟩), .int .i64 (i : Nat)] w (TellQ c N A ns ρ sv nv M P t w) := by
  have hsz := h.st.st.lt
  have hbw : c.b0 ≤ w.heap.size := by omega
  have hb2 := below2 w (.cells #[.pointer (some ⟨c.B, 0, none⟩)] 68) (.cells #[.int .i64 0, .string ⟨#[]⟩, .string ⟨#[]⟩, .int .i64 0, .slice none 0 0] 36)
  have h2 : ((w.alloc (.cells #[.pointer (some ⟨c.B, 0, none⟩)] 68)).alloc (.cells #[.int .i64 0, .string ⟨#[]⟩, .string ⟨#[]⟩, .int .i64 0, .slice none 0 0] 36)).heap[w.heap.size]? = some (.cells #[.pointer (some ⟨c.B, 0, none⟩)] 68 (0, 0)) := hb_alloc (hb_new _ _) _
  have h4 : ((w.alloc (.cells #[.pointer (some ⟨c.B, 0, none⟩)] 68)).alloc (.cells #[.int .i64 0, .string ⟨#[]⟩, .string ⟨#[]⟩, .int .i64 0, .slice none 0 0] 36)).heap[w.heap.size + 1]? = some (.cells #[.int .i64 0, .string ⟨#[]⟩, .string ⟨#[]⟩, .int .i64 0, .slice none 0 0] 36 (0, 0)) := by
    simpa using hb_new (w.alloc (.cells #[.pointer (some ⟨c.B, 0, none⟩)] 68)) (.cells #[.int .i64 0, .string ⟨#[]⟩, .string ⟨#[]⟩, .int .i64 0, .slice none 0 0] 36)
  have hsz2 : ((w.alloc (.cells #[.pointer (some ⟨c.B, 0, none⟩)] 68)).alloc (.cells #[.int .i64 0, .string ⟨#[]⟩, .string ⟨#[]⟩, .int .i64 0, .slice none 0 0] 36)).heap.size = w.heap.size + 2 := by simp
  have hsv := h.mono hb2 (h.st.below hb2)
  have HC := Lib.hid (tell_any hN hu hsv h2 (by omega) hi)
  have q0 := hb_at h2 0 rfl
  have H4 := Lib.hid h4
  have HB2 := Lib.hid hb2
  clear h h2 h4 hsv hb2
  go_enter Tryd.func46, Tryd.ntmps46
  go_upto_region 1 with (fail)
  generalize (w.alloc (.cells #[.pointer (some ⟨c.B, 0, none⟩)] 68)).alloc (.cells #[.int .i64 0, .string ⟨#[]⟩, .string ⟨#[]⟩, .int .i64 0, .slice none 0 0] 36) = W2 at *
  go_wp2_with (go_at_call 58; (with_reducible refine HC.out.mono ?_); rintro e w6 ⟨k, I, p, m, q, l, cc, rfl, g1, g2, g3⟩; have G1 := Lib.hid g1; have G2 := Lib.hid g2; have G3 := Lib.hid g3; have h6 := g2.block _ _ H4.out (by omega) (fun cs fr e => by injection e with _ e _; exact absurd e (by decide)); have y0 := hb_at h6 0 rfl; have y1 := hb_at h6 1 rfl; have y2 := hb_at h6 2 rfl; have y3 := hb_at h6 3 rfl; have y4 := hb_at h6 4 rfl; have f0 := hb_free h6 0; have f1 := hb_free h6 1; have f2 := hb_free h6 2; have f3 := hb_free h6 3; have f4 := hb_free h6 4; have H6 := Lib.hid h6; clear g1 g2 g3 h6)
  all_goals
    have hk6 : KpM c (w.heap.size + 1) w w6 := (KpM.of_below hbw HB2.out).trans G2.out.m
    refine bodyPost_ret (v := .tuple #[tv k p m I (.slice q l cc), .bool (decide (cnt2 t ≤ 1000))]) (by simp [results, Tryd.results46, go_sem, y0, y1, y2, y3, y4]) rfl ⟨k, I, p, m, q, l, cc, rfl, G1.out.put5 H6.out (by omega) (.int .i64 k) (.string p) (.string m) (.int .i64 I) (.slice q l cc), (hk6.put5 (n := w.heap.size + 1) (by omega) hbw (.int .i64 k) (.string p) (.string m) (.int .i64 I) (.slice q l cc)).kp (by omega), fun hcn D hD => ?_⟩
    refine (G3.out hcn D hD).move fun b hX hbl => ?_
    obtain ⟨g1, g2, cs, fr, hbb⟩ := hX
    have e := put5_other hbb (show b ≠ w.heap.size + 1 by omega) (.int .i64 k) (.string p) (.string m) (.int .i64 I) (.slice q l cc)
    exact ⟨⟨by omega, g2, cs, fr, e⟩, e.trans hbb.symm⟩
theorem info38 : ∃ i z, Tryd.prog.info? 38 = some i ∧ i.zero = some z ∧ i.size = 6 ∧ i.bytes = 88 ∧ z.cells.size = 6 := by
  have h : (Tryd.prog.info? 38).map (fun i => (i.zero, i.size, i.bytes)) = some (some (.agg #[.string ⟨#[]⟩, .int .i64 0, .string ⟨#[]⟩, .string ⟨#[]⟩, .int .i64 0, .slice none 0 0]), 6, 88) := by kernel_rfl
  obtain ⟨i, hi, e⟩ := Option.map_eq_some_iff.1 h
  injection e with e1 e2
  injection e2 with e2 e3
  exact ⟨i, _, hi, e1, e2, e3, rfl⟩
/-- Blocks of terms. -/
def Tz (c : Cfg) (w : World) (b : Nat) : Prop := b ≠ c.B ∧ ∃ cs fr, w.heap[b]? = some (.cells cs 36 fr)
/-- What of a row is these names and terms. -/
def DnV (c : Cfg) (w : World) (l : List V6) (done : List NT) : Prop :=
  l.length = done.length ∧ ∀ (i : Nat) (x : NT), done[i]? = some x → ∃ t : V6, l[i]? = some t ∧ t.1 = x.1 ∧ x.1.size ≤ maxLen ∧ ∀ D, cnt2 x.2 ≤ D → IsX (Tz c w) w D (t5v t.2) x.2
theorem DnV.kp {c : Cfg} {w w' : World} {l : List V6} {done : List NT} (h : DnV c w l done) (k : Kp c w w') : DnV c w' l done := by
  refine ⟨h.1, fun i x hx => ?_⟩
  obtain ⟨t, h1, h2, h3, h4⟩ := h.2 i x hx
  refine ⟨t, h1, h2, h3, fun D hD => (h4 D hD).move fun b hX hl => ?_⟩
  obtain ⟨g1, cs, fr, hb⟩ := hX
  have := k.block b _ hb g1 (fun cs fr e => by injection e with _ e _; exact absurd e (by decide))
  exact ⟨⟨g1, cs, fr, this⟩, this.trans hb.symm⟩
theorem append_v {w : World} {N : Nat} {kv : Value} {l : List V6} (h : w.ownsRow N 38 6 kv l.length (flatV l)) (hN : N ≤ w.heap.size) {nm : ByteArray} {k I : Int} {p m : ByteArray} {q : Option Addr} {ln cc : Nat} (hl : l.length ≤ 100000) :
    ∃ kv' w', (Builtin.append_ #[25, 25] 25 #[kv, .slice (some ⟨w.heap.size, 0, none⟩) 1 1]).run Tryd.prog (w.alloc (.cells #[.string nm, .int .i64 k, .string p, .string m, .int .i64 I, .slice q ln cc] 38)) = .ok kv' w' ∧
      w'.ownsRow N 38 6 kv' (l ++ [(nm, k, p, m, I, Value.slice q ln cc)]).length (flatV (l ++ [(nm, k, p, m, I, Value.slice q ln cc)])) ∧ (w.alloc (.cells #[.string nm, .int .i64 k, .string p, .string m, .int .i64 I, .slice q ln cc] 38)).grownBy w' kv.ownBlock := by
  obtain ⟨i, z, hi, hz, hs, hby, hzc⟩ := info38
  have hnew := hb_new w (.cells #[.string nm, .int .i64 k, .string p, .string m, .int .i64 I, .slice q ln cc] 38)
  obtain ⟨v', w', r1, r2, r3, _, r5⟩ := run_append_own_at (P := Tryd.prog) (w := w.alloc (.cells #[.string nm, .int .i64 k, .string p, .string m, .int .i64 I, .slice q ln cc] 38)) N 25 25 38 i z 6 88 (by kernel_rfl) hi hz hs hby hzc (by decide) kv l.length (flatV l) (h.alloc _) ⟨w.heap.size, 0, none⟩ 1 1 (v6C (nm, k, p, m, I, Value.slice q ln cc)) rfl
    (fun j u hu => by
      rw [add_zero_none, hb_cell hnew]
      match j, hu with
      | 0, hu => exact hu
      | 1, hu => exact hu
      | 2, hu => exact hu
      | 3, hu => exact hu
      | 4, hu => exact hu
      | 5, hu => exact hu
      | j + 6, hu => simp [v6C] at hu)
    (fun u hu => by
      simp only [v6C, List.mem_cons, List.not_mem_nil, or_false] at hu
      rcases hu with rfl | rfl | rfl | rfl | rfl | rfl <;> rfl)
    (by unfold maxLen; omega) (by omega) (by simp; omega)
  refine ⟨v', w', r1, ?_, r3⟩
  rw [List.length_append, flatV_snoc]
  exact r2
end Go.Proofs.YtncebhddcokkoaaDoor
/- What a solver has found is told: all names. -/
namespace Go.Proofs.YtncebhddcokkoaaDoor
open Go.RowKit Go.Maps
set_option linter.unusedSimpArgs false
set_option linter.unusedVariables false
theorem SV.grown38 {X : Nat → Prop} {c : Cfg} {N : Nat} {A : Abs} {ns : List ByteArray} {ρ : ByteArray → Option Nat} {sv nv : Value} {M P : Nat} {w w' : World} {row : Option Nat} (h : SV X c N A ns ρ sv nv M P w) (hg : w.grownBy w' row) (hr : ∀ g, row = some g → g ≠ c.B ∧ ∃ cs, w.heap[g]? = some (.cells cs 38 (0, 0))) : SV X c N A ns ρ sv nv M P w' := by
  have hmap : ∀ (m : Nat) es cl, w.heap[m]? = some (.map es cl) → w'.heap[m]? = w.heap[m]? := fun m es cl hm => by
    rw [hm]
    refine hb_grown hm hg (fun e => ?_)
    obtain ⟨_, cs, h2⟩ := hr m e.symm
    rw [hm] at h2
    cases h2
  obtain ⟨es, cl, hm⟩ := h.vm.heap
  obtain ⟨g, hgm, hgp⟩ := h.pl
  obtain ⟨es', cl', hm'⟩ := hgm.heap
  refine ⟨h.st.cellsB fun g cs t fr hgg hc => hb_grown hgg hg (fun e => ?_), h.ty, h.rest, own_kept h.row (fun b y hb hy => ?_), h.vm.same (hmap _ _ _ hm), ⟨g, hgm.same (hmap _ _ _ hm'), hgp⟩, h.few, h.dom⟩
  · obtain ⟨h1, cs', h2⟩ := hr g e.symm
    rcases hc with rfl | rfl | rfl
    · exact h1 rfl
    · exact type_ne hgg h2 (by decide) rfl
    · exact type_ne hgg h2 (by decide) rfl
  · have hb2 : ∃ cs', w.heap[b]? = some (.cells cs' 9 (0, 0)) := by
      rcases h.row.2 with ⟨rfl, _⟩ | ⟨g', cap, cur, rfl, _, h4, _⟩
      · cases hb
      · injection hb with hb
        subst hb
        exact ⟨_, h4⟩
    obtain ⟨cs', hb2⟩ := hb2
    refine hb_grown hy hg (fun e => ?_)
    obtain ⟨_, cs, h2⟩ := hr b e.symm
    exact type_ne hb2 h2 (by decide) rfl
/-- What solution answers. -/
def SolvQ (ns : List ByteArray) (σ : ByteArray → Tm) (e : Ending) (w' : World) : Prop :=
  (∃ v, e = .returned (.tuple #[v, .int .i64 0]) ∧ (∀ n ∈ ns, cnt2 (σ n) ≤ 1000) ∧ VAt w' 1000 v (ns.map fun n => (n, σ n))) ∨ (e = .returned (.tuple #[.slice none 0 0, .int .i64 9]) ∧ ∃ n ∈ ns, 1000 < cnt2 (σ n))
set_option maxRecDepth 100000 in
set_option maxHeartbeats 2000000 in
theorem solution_any {c : Cfg} {N : Nat} {A : Abs} {ns : List ByteArray} {ρ : ByteArray → Option Nat} {sv nv : Value} {M P : Nat} {f : Nat → Tm} (hN : Nms A ρ f) {σ : ByteArray → Tm} {w : World} (hu : ∀ n i, ρ n = some i → i < A.l.length ∧ Abs.Unf A f i (σ n)) (hns : ∀ n ∈ ns, n.size ≤ maxLen) (h : SV (fun _ => False) c N A ns ρ sv nv M P w) :
    Calls Tryd.prog 41 #[.pointer (some ⟨c.B, 0, none⟩)] w fun e w' => SolvQ ns σ e w' ∧ Below c.b0 w w' := by
  have hsz := h.st.st.lt
  have hbw : c.b0 ≤ w.heap.size := by omega
  have hnv : ∃ q cc, nv = .slice q ns.length cc := by
    rcases h.row.2 with ⟨rfl, h0⟩ | ⟨g', cap, cur, rfl, _⟩
    · exact ⟨none, 0, by rw [h0]⟩
    · exact ⟨_, _, rfl⟩
  obtain ⟨qn, cn, rfl⟩ := hnv
  have hcells : ∀ wr, SV (fun _ => False) c N A ns ρ sv (.slice qn ns.length cn) M P wr → wr.cell? ⟨c.B, 6, none⟩ = some (.slice qn ns.length cn) ∧ wr.cell? ⟨c.B, 7, none⟩ = some (.map (some M)) ∧ ∀ (j : Nat) (n : ByteArray), ns[j]? = some n → ∃ g, qn = some ⟨g, 0, none⟩ ∧ wr.cell? ⟨g, j, none⟩ = some (.string n) := by
    intro wr hs
    obtain ⟨v, L, rk, p1, _, _, _⟩ := hs.st
    have hblk := p1.blk
    rw [hs.rest] at hblk
    refine ⟨hb_at hblk 6 rfl, hb_at hblk 7 rfl, fun j n hj => ?_⟩
    have hjl := (List.getElem?_eq_some_iff.1 hj).1
    rcases hs.row.2 with ⟨_, h0⟩ | ⟨g, cap, cur, e, _, hg, _, _, _, htk⟩
    · omega
    · injection e with e1 _ _
      refine ⟨g, e1, ?_⟩
      rw [hb_cell hg]
      have e : (cur.toList.take (ns.length * 1))[j]? = (ns.map Value.string)[j]? := by rw [htk]
      rw [List.getElem?_take, if_pos (by omega), List.getElem?_map, hj, Array.getElem?_toList] at e
      exact e
  have HCE := Lib.hid hcells
  have hfew := h.few
  obtain ⟨b6, _, _⟩ := hcells w h
  have HU := Lib.hid hu
  have HNS := Lib.hid hns
  have H := Lib.hid h
  clear hcells h hu hns
  go_enter Tryd.func41, Tryd.ntmps41
  go_wp2
  go_loopw [4, 14] (fun kv t wr => ∃ (j : Nat) (l : List V6), t = .int .i64 (j : Nat) ∧ j ≤ ns.length ∧ SV (fun _ => False) c N A ns ρ sv (.slice qn ns.length cn) M P wr ∧ Kp c w wr ∧ wr.ownsRow w.heap.size 38 6 kv l.length (flatV l) ∧ DnV c wr l ((ns.take j).map fun n => (n, σ n)) ∧ ∀ n ∈ ns.take j, cnt2 (σ n) ≤ 1000) (fun _ t _ => ns.length - (intOf t).toNat)
  case atStart => exact ⟨0, [], rfl, Nat.zero_le _, H.out, Kp.refl _ _, World.ownsRow_nil _ _ _ _, ⟨rfl, fun i x h => by simp at h⟩, fun n hn => by simp at hn⟩
  case round =>
    obtain ⟨j, l, rfl, hjl, hs, hkp, hrow, hdn, hall⟩ := hrel
    have hkvs : ∃ q cc, u4 = .slice q l.length cc := by
      rcases hrow.2 with ⟨rfl, h0⟩ | ⟨g', cap, cur, rfl, _⟩
      · exact ⟨none, 0, by rw [h0]⟩
      · exact ⟨_, _, rfl⟩
    obtain ⟨qk, ck, rfl⟩ := hkvs
    have hlj : l.length = j := by rw [hdn.1, List.length_map, List.length_take]; omega
    have HLJ := Lib.hid hlj
    clear hlj
    have hks := hkp.size
    by_cases hlt : j < ns.length
    · have hki : (j : Int) < (ns.length : Int) := by omega
      obtain ⟨n, hn⟩ : ∃ n, ns[j]? = some n := ⟨_, List.getElem?_eq_getElem hlt⟩
      obtain ⟨c6, c7, hnm⟩ := HCE.out wr hs
      obtain ⟨gn, rfl, cn1⟩ := hnm j n hn
      obtain ⟨i, hi⟩ := (hs.dom n).1 (List.mem_of_getElem? hn)
      obtain ⟨hil, hun⟩ := HU.out n i hi
      have HVM := Lib.hid hs.vm
      have hgi : ((ρ n).map Int.ofNat).getD 0 = (i : Int) := by rw [hi]; rfl
      have hnsz := HNS.out n (List.mem_of_getElem? hn)
      have HT := Lib.hid (told46_any hN hun hs hil)
      have HROW := Lib.hid hrow
      have HDN := Lib.hid hdn
      have HALL := Lib.hid hall
      have HKP := Lib.hid hkp
      have HN1 := Lib.hid hn
      clear hs hrow hdn hall hkp hnm hi hn hun
      by_cases hcn : cnt2 (σ n) ≤ 1000
      · have hd : decide (cnt2 (σ n) ≤ 1000) = true := by simpa using hcn
        have HD := Lib.hid hd
        have HCN := Lib.hid hcn
        clear hd hcn
        go_wp2_with (first
          | (with_reducible refine wpList_pm_look1 rfl _ _ rfl rfl HVM.out _ rfl hnsz _ hgi ?_)
          | (go_at_call 46; (with_reducible refine HT.out.mono ?_); rintro e w6 ⟨k, I, p, m, q, l6, cc6, rfl, g1, g2, g3⟩; rw [HD.out]; have G1 := Lib.hid g1; have G2 := Lib.hid g2; have G3 := Lib.hid g3; clear g1 g2 g3)
          | (at_builtin; refine (fun h : True → _ => h trivial) ?_))
        intro _
        have hba := below_alloc w6 (.cells #[.int .i64 k, .string p, .string m, .int .i64 I, .slice q l6 cc6] 36)
        have hk6 := HKP.out.trans G2.out
        have hk7 := hk6.trans (Kp.of_below (by have := hk6.size; omega) hba)
        have hrowk : ∀ g, (Value.slice qk l.length ck).ownBlock = some g → w.heap.size ≤ g ∧ g ≠ c.B ∧ ∃ cs, wr.heap[g]? = some (.cells cs 38 (0, 0)) := by
          intro g hg
          rcases HROW.out.2 with ⟨h0, _⟩ | ⟨g', cap, cur, e, h3, h4, _⟩
          · rw [h0] at hg; cases hg
          · rw [e] at hg
            injection hg with hg
            subst hg
            exact ⟨h3, by show g' ≠ c.B; omega, cur, h4⟩
        have hrow6 : (w6.alloc (.cells #[.int .i64 k, .string p, .string m, .int .i64 I, .slice q l6 cc6] 36)).ownsRow w.heap.size 38 6 (.slice qk l.length ck) l.length (flatV l) := own_kept HROW.out fun g x hg hx => by
          obtain ⟨_, h2, cs, h3⟩ := hrowk g hg
          rw [h3] at hx
          cases hx
          exact hb_alloc (G2.out.block _ _ h3 h2 (fun cs fr e => by injection e with _ e _; exact absurd e (by decide))) _
        obtain ⟨kv', w', hrun, hrow', hg'⟩ := append_v hrow6 (by have := hk7.size; omega) (nm := n) (k := k) (I := I) (p := p) (m := m) (q := q) (ln := l6) (cc := cc6) (by have := HLJ.out; omega)
        have hsh : ∃ q' c', kv' = .slice q' (l.length + 1) c' := by
          rcases hrow'.2 with ⟨_, h0⟩ | ⟨g', cap, cur, rfl, _⟩
          · rw [List.length_append] at h0; simp at h0
          · exact ⟨_, _, by rw [List.length_append]; rfl⟩
        obtain ⟨q', c', rfl⟩ := hsh
        have hsz7 : (w6.alloc (.cells #[.int .i64 k, .string p, .string m, .int .i64 I, .slice q l6 cc6] 36)).heap.size = w6.heap.size + 1 := by simp
        rw [hsz7] at hrun
        refine wpList_app rfl _ _ rfl rfl rfl rfl hrun ?_
        have hba8 := below_alloc (w6.alloc (.cells #[.int .i64 k, .string p, .string m, .int .i64 I, .slice q l6 cc6] 36)) (.cells #[.string n, .int .i64 k, .string p, .string m, .int .i64 I, .slice q l6 cc6] 38)
        have hba2 := hba.trans (hba8.mono hba.size)
        have hk8 := hk6.trans (Kp.of_below (by have := hk6.size; omega) hba2)
        have hown8 : ∀ g, (Value.slice qk l.length ck).ownBlock = some g → w.heap.size ≤ g ∧ g ≠ c.B ∧ ∃ cs, ((w6.alloc (.cells #[.int .i64 k, .string p, .string m, .int .i64 I, .slice q l6 cc6] 36)).alloc (.cells #[.string n, .int .i64 k, .string p, .string m, .int .i64 I, .slice q l6 cc6] 38)).heap[g]? = some (.cells cs 38 (0, 0)) := fun g hg => by
          obtain ⟨h1, h2, cs, h3⟩ := hrowk g hg
          exact ⟨h1, h2, cs, hb_alloc (hb_alloc (G2.out.block _ _ h3 h2 (fun cs fr e => by injection e with _ e _; exact absurd e (by decide))) _) _⟩
        have hkf : Kp c w w' := (hk8.m.grown_new (M := w.heap.size) hg' (fun g hg => (hown8 g hg).1) hbw).kp (Nat.le_refl _)
        have hsv8 := G1.out.mono hba2 (G1.out.st.below hba2)
        have hsvf := hsv8.grown38 hg' (fun g hg => (hown8 g hg).2)
        have hdn6 := (HDN.out.kp G2.out).kp (Kp.of_below (by have := hk6.size; omega) hba2)
        have hmv : ∀ b, (Tz c ((w6.alloc (.cells #[.int .i64 k, .string p, .string m, .int .i64 I, .slice q l6 cc6] 36)).alloc (.cells #[.string n, .int .i64 k, .string p, .string m, .int .i64 I, .slice q l6 cc6] 38))) b → Tz c w' b ∧ w'.heap[b]? = ((w6.alloc (.cells #[.int .i64 k, .string p, .string m, .int .i64 I, .slice q l6 cc6] 36)).alloc (.cells #[.string n, .int .i64 k, .string p, .string m, .int .i64 I, .slice q l6 cc6] 38)).heap[b]? := fun b hb => by
          obtain ⟨h1, cs, fr, h2⟩ := hb
          have h3 := hb_grown h2 hg' (fun e => by obtain ⟨_, _, cs', h4⟩ := hown8 b e.symm; exact type_ne h2 h4 (by decide) rfl)
          exact ⟨⟨h1, cs, fr, h3⟩, h3.trans h2.symm⟩
        have htk : ns.take (j + 1) = ns.take j ++ [n] := by rw [List.take_add_one, HN1.out]; rfl
        have hfinal : DnV c w' (l ++ [(n, k, p, m, I, Value.slice q l6 cc6)]) ((ns.take (j + 1)).map fun n => (n, σ n)) := by
          rw [htk, List.map_append]
          refine ⟨by rw [List.length_append, List.length_append, hdn6.1]; rfl, fun a x hx => ?_⟩
          rw [List.getElem?_append] at hx
          split at hx
          · rename_i ha
            obtain ⟨t, e1, e2, e3, e4⟩ := hdn6.2 a x hx
            exact ⟨t, by rw [List.getElem?_append_left (by rw [hdn6.1]; exact ha)]; exact e1, e2, e3, fun D hD => (e4 D hD).move fun b hX _ => hmv b hX⟩
          · rename_i ha
            have ha2 : a - (List.map (fun n => (n, σ n)) (ns.take j)).length = 0 := by
              exact Nat.lt_one_iff.1 (List.getElem?_eq_some_iff.1 hx).1
            rw [ha2] at hx
            obtain rfl : (n, σ n) = x := by simpa using hx
            have hal : a = l.length := by rw [hdn6.1]; omega
            refine ⟨_, by rw [hal]; exact List.getElem?_concat_length, rfl, hnsz, fun D hD => ((G3.out HCN.out D hD).move (Y := Tz c ((w6.alloc (.cells #[.int .i64 k, .string p, .string m, .int .i64 I, .slice q l6 cc6] 36)).alloc (.cells #[.string n, .int .i64 k, .string p, .string m, .int .i64 I, .slice q l6 cc6] 38))) fun b hX hbl => ?_).move fun b hX _ => hmv b hX⟩
            obtain ⟨g1, g2, cs, fr, hbb⟩ := hX
            have h3 := hb_below hbb hba2 hbl
            exact ⟨⟨g2, cs, fr, h3⟩, h3.trans hbb.symm⟩
        have hall2 : ∀ x ∈ ns.take (j + 1), cnt2 (σ x) ≤ 1000 := by
          intro x hx
          rw [htk] at hx
          rcases List.mem_append.1 hx with hx | hx
          · exact HALL.out x hx
          · cases List.mem_singleton.1 hx; exact HCN.out
        have HF := Lib.hid hfinal
        have HA2 := Lib.hid hall2
        have HSV := Lib.hid hsvf
        have HKF := Lib.hid hkf
        have HR' := Lib.hid hrow'
        clear hfinal hall2 hsvf hkf hrow' hmv hdn6 hsv8 hown8 hk8 hba2 hba8 hrow6 hrowk hk7 hk6 hba hrun hg' htk
        go_wp2
        refine ⟨⟨j + 1, _, by go_num, by omega, HSV.out, HKF.out, ?_, HF.out, HA2.out⟩, by simp [intOf]; omega⟩
        have := HR'.out
        rw [List.length_append] at this ⊢
        exact this
      · have hd : decide (cnt2 (σ n) ≤ 1000) = false := by simpa using hcn
        have HD := Lib.hid hd
        have HCN := Lib.hid hcn
        clear hd hcn
        go_wp2_with (first
          | (with_reducible refine wpList_pm_look1 rfl _ _ rfl rfl HVM.out _ rfl hnsz _ hgi ?_)
          | (go_at_call 46; (with_reducible refine HT.out.mono ?_); rintro e w6 ⟨k, I, p, m, q, l6, cc6, rfl, g1, g2, g3⟩; rw [HD.out]; have G1 := Lib.hid g1; have G2 := Lib.hid g2; have G3 := Lib.hid g3; clear g1 g2 g3))
        all_goals
          have hk6 := HKP.out.trans G2.out
          have hba := below_alloc w6 (.cells #[.int .i64 k, .string p, .string m, .int .i64 I, .slice q l6 cc6] 36)
          refine bodyPost_ret (results_tmp2 rfl _ _ _) rfl ⟨.inr ⟨rfl, n, List.mem_of_getElem? HN1.out, by have := HCN.out; omega⟩, (hk6.trans (Kp.of_below (by have := hk6.size; omega) hba)).below⟩
    · have hki : ¬ (j : Int) < (ns.length : Int) := by omega
      obtain rfl : j = ns.length := by omega
      rw [List.take_length] at hdn hall
      have HROW := Lib.hid hrow
      have HDN := Lib.hid hdn
      have HALL := Lib.hid hall
      have HKP := Lib.hid hkp
      clear hs hrow hdn hall hkp
      go_wp2
      go_ret2
      refine ⟨.inl ⟨.slice qk l.length ck, rfl, HALL.out, ?_⟩, HKP.out.below⟩
      refine MadeV.all (base := w.heap.size) ⟨l, by rw [HDN.out.1], HROW.out, fun a x hx => ?_⟩ (by simp; omega)
      obtain ⟨t, e1, e2, e3, e4⟩ := HDN.out.2 a x hx
      refine ⟨t, e1, e2, e3, (e4 1000 ?_).move fun b hX _ => ⟨fun e => ?_, rfl⟩⟩
      · obtain ⟨y, hy, rfl⟩ := List.mem_map.1 (List.mem_of_getElem? hx)
        exact HALL.out y hy
      · obtain ⟨_, cs, fr, h2⟩ := hX
        rcases HROW.out.2 with ⟨h0, _⟩ | ⟨g', cap, cur, e', h3, h4, _⟩
        · rw [h0] at e; cases e
        · rw [e'] at e
          injection e with e
          subst e
          exact type_ne h2 h4 (by decide) rfl
end Go.Proofs.YtncebhddcokkoaaDoor
/- A solver is made: what is in it, ahead of its equations. -/
namespace Go.Proofs.YtncebhddcokkoaaDoor
open Go.RowKit Go.Maps
set_option linter.unusedSimpArgs false
set_option linter.unusedVariables false
/-- Equations in memory. -/
def EqAt (w : World) (d : Nat) (v : Value) (E : List (Tm × Tm)) : Prop := ∃ q cc, v = .slice q E.length cc ∧ ∀ (i : Nat) (x : Tm × Tm), E[i]? = some x → ∃ g o k p n N s k' p' n' N' s', q = some ⟨g, o, none⟩ ∧
  (TAt w g (o + i * 10) k p n N s ∧ IsT w d (tv k p n N s) x.1) ∧ (TAt w g (o + i * 10 + 5) k' p' n' N' s' ∧ IsT w d (tv k' p' n' N' s') x.2)
theorem EqAt.below {w w' : World} {d : Nat} {v : Value} {E : List (Tm × Tm)} (h : EqAt w d v E) (hb : Below w.heap.size w w') : EqAt w' d v E := by
  obtain ⟨q, cc, e, h⟩ := h
  refine ⟨q, cc, e, fun i x hx => ?_⟩
  obtain ⟨g, o, k, p, n, N, s, k', p', n', N', s', e, ⟨h1, h2⟩, h3, h4⟩ := h i x hx
  exact ⟨g, o, k, p, n, N, s, k', p', n', N', s', e, ⟨h1.below hb h1.lt, h2.below hb⟩, h3.below hb h3.lt, h4.below hb⟩
/-- Both sides, one behind the other. -/
def two : List (Tm × Tm) → List Tm
  | [] => []
  | x :: l => x.1 :: x.2 :: two l
theorem two_app : ∀ (l m : List (Tm × Tm)), two (l ++ m) = two l ++ two m
  | [], m => rfl
  | x :: l, m => by simp [two, two_app l m]
theorem two_len : ∀ l : List (Tm × Tm), (two l).length = 2 * l.length
  | [] => rfl
  | x :: l => by simp [two, two_len l]; omega
/-- How many terms they have. -/
def tot (d : Nat) (E : List (Tm × Tm)) : Nat := (two E).foldl (fun n t => n + tszN d t) 0
theorem tot_app (d : Nat) (l m : List (Tm × Tm)) : tot d (l ++ m) = tot d l + tot d m := by
  unfold tot
  rw [two_app, List.foldl_append, foldl_add (tszN d) (two m)]
theorem tot_one (d : Nat) (x : Tm × Tm) : tot d [x] = tszN d x.1 + tszN d x.2 := by
  unfold tot two two
  simp
/-- The names of the first ones. -/
def nmsE (d : Nat) (E : List (Tm × Tm)) : List ByteArray := (two E).foldl (varsT d) []
theorem nmsE_snoc (d : Nat) (E : List (Tm × Tm)) (x : Tm × Tm) : nmsE d (E ++ [x]) = varsT d (varsT d (nmsE d E) x.1) x.2 := by
  unfold nmsE
  rw [two_app, List.foldl_append]
  rfl
/-- Two terms are appended. -/
theorem append_tt {w : World} {base : Nat} {v : Value} {l : List T5} (hown : w.ownsRow base 36 5 v l.length (flatC l)) (hbase : base ≤ w.heap.size) {k N k' N' : Int} {p n p' n' : ByteArray} {q q' : Option Addr} {ln c ln' c' : Nat} (hn : l.length ≤ 100000) :
    ∃ v' w', (Builtin.append_ #[34, 34] 34 #[v, .slice (some ⟨w.heap.size, 0, none⟩) 2 2]).run Tryd.prog (w.alloc (.cells #[.int .i64 k, .string p, .string n, .int .i64 N, .slice q ln c, .int .i64 k', .string p', .string n', .int .i64 N', .slice q' ln' c'] 36)) = .ok v' w' ∧
      w'.ownsRow base 36 5 v' (l ++ [(k, p, n, N, Value.slice q ln c), (k', p', n', N', Value.slice q' ln' c')]).length (flatC (l ++ [(k, p, n, N, Value.slice q ln c), (k', p', n', N', Value.slice q' ln' c')])) ∧
      (w.alloc (.cells #[.int .i64 k, .string p, .string n, .int .i64 N, .slice q ln c, .int .i64 k', .string p', .string n', .int .i64 N', .slice q' ln' c'] 36)).grownBy w' v.ownBlock := by
  obtain ⟨z, hz, hzc⟩ := info24
  obtain ⟨i0, hi, hz0, hz1, hz2⟩ := info_parts hz
  have hnew := hb_new w (.cells #[.int .i64 k, .string p, .string n, .int .i64 N, .slice q ln c, .int .i64 k', .string p', .string n', .int .i64 N', .slice q' ln' c'] 36)
  obtain ⟨v', w', r1, r2, r3, _, r5⟩ := run_append_own_at (P := Tryd.prog) (w := w.alloc (.cells #[.int .i64 k, .string p, .string n, .int .i64 N, .slice q ln c, .int .i64 k', .string p', .string n', .int .i64 N', .slice q' ln' c'] 36)) base 34 34 36 i0 z 5 72 Tryd.underlying34 hi hz0 hz1 hz2 hzc (by decide) v l.length (flatC l) (hown.alloc _) ⟨w.heap.size, 0, none⟩ 2 2
    [.int .i64 k, .string p, .string n, .int .i64 N, .slice q ln c, .int .i64 k', .string p', .string n', .int .i64 N', .slice q' ln' c'] rfl
    (fun j u hu => by
      rw [add_zero_none, hb_cell hnew]
      match j, hu with
      | 0, hu => exact hu
      | 1, hu => exact hu
      | 2, hu => exact hu
      | 3, hu => exact hu
      | 4, hu => exact hu
      | 5, hu => exact hu
      | 6, hu => exact hu
      | 7, hu => exact hu
      | 8, hu => exact hu
      | 9, hu => exact hu
      | j + 10, hu => simp at hu)
    (fun u hu => by
      simp only [List.mem_cons, List.not_mem_nil, or_false] at hu
      rcases hu with rfl | rfl | rfl | rfl | rfl | rfl | rfl | rfl | rfl | rfl <;> rfl)
    (by unfold maxLen; omega) (by omega) (by simp; omega)
  refine ⟨v', w', r1, ?_, r3⟩
  have e : flatC (l ++ [(k, p, n, N, Value.slice q ln c), (k', p', n', N', Value.slice q' ln' c')]) = flatC l ++ [.int .i64 k, .string p, .string n, .int .i64 N, .slice q ln c, .int .i64 k', .string p', .string n', .int .i64 N', .slice q' ln' c'] := by simp [flatC]
  rw [List.length_append, e]
  exact r2
/-- A solver's place. -/
def cfgN (w : World) (sv : Value) : Cfg := ⟨w.heap.size, w.heap.size + 1 + 1, 86, [sv, .slice none 0 0, .map (some w.heap.size), .map (some (w.heap.size + 1))], 9223372036854775807, false, 0⟩
theorem cfgN_cf (w : World) (sv : Value) : Cf (cfgN w sv) := ⟨rfl, by show (100000 : Int) ≤ 9223372036854775807; decide, by show (0 : Int) ≤ 0; decide⟩
/-- What a store says, but for its types, is stored. -/
theorem StA.rest {X : Nat → Prop} {c : Cfg} {A : Abs} {w : World} (h : StA X c A w) {i : Nat} {u : Value} {r : List Value} (hr : ∀ v : Value, (v :: .int .i64 c.bud :: .bool true :: .bool c.full :: .int .i64 c.wks :: c.rest).toArray.setIfInBounds i u = (v :: .int .i64 c.bud :: .bool true :: .bool c.full :: .int .i64 c.wks :: r).toArray) :
    StA X { c with rest := r } A (w.setCell ⟨c.B, i, none⟩ u) := by
  obtain ⟨v, L, rk, p1, p2, p3, p4⟩ := h
  have hB := p1.blk
  refine ⟨v, L, rk, ⟨p1.hb, p1.ne, ?_, ?_, fun x hx => ?_, p1.few⟩, ⟨p2.l, p2.lv, p2.be⟩, ⟨p3.pl, p3.wk⟩, p4⟩
  · have := hb_set_same hB i u
    rw [hr v] at this
    exact this
  · rcases p1.row with h1 | ⟨g, cap, cur, h1, h2, h3, h4⟩
    · exact .inl h1
    · exact .inr ⟨g, cap, cur, h1, h2, hb_set_other h3 u (fun e => type_ne h3 hB (fun e => p1.ne e.symm) e), h4⟩
  · obtain ⟨q, cc, e1, e2⟩ := p1.kid x hx
    refine ⟨q, cc, e1, ?_⟩
    rcases e2 with e2 | ⟨g, o, cs', fr', e, hg, hB', hc'⟩
    · exact .inl e2
    · exact .inr ⟨g, o, cs', fr', e, hb_set_other hg u (fun e5 => hB' e5), hB', hc'⟩
theorem IS.rest {c : Cfg} {bx M : Nat} {X : Nat → Prop} {l : List Inf} {ns : List ByteArray} {ρ : ByteArray → Option Nat} {w : World} (h : IS c bx M X l ns ρ w) {i : Nat} {u : Value} {r : List Value} (hr : ∀ v : Value, (v :: .int .i64 c.bud :: .bool true :: .bool c.full :: .int .i64 c.wks :: c.rest).toArray.setIfInBounds i u = (v :: .int .i64 c.bud :: .bool true :: .bool c.full :: .int .i64 c.wks :: r).toArray) (hM : M ≠ c.B) :
    IS { c with rest := r } bx M X l ns ρ (w.setCell ⟨c.B, i, none⟩ u) :=
  ⟨h.st.rest hr, hb_set_other h.box u (fun e => h.bB e), h.map.same (Below.heap_setCell w _ u M (fun e => hM e)), h.tab, h.wf, h.kd, h.b0, h.bB, h.sm⟩
theorem IS.grown {c : Cfg} {bx M : Nat} {X : Nat → Prop} {l : List Inf} {ns : List ByteArray} {ρ : ByteArray → Option Nat} {w w' : World} {row : Option Nat} (h : IS c bx M X l ns ρ w) (hg : w.grownBy w' row) {T : TypeId} (hT : T ≠ 90 ∧ T ≠ 3 ∧ T ≠ 68) (hr : ∀ g, row = some g → g ≠ c.B ∧ ∃ cs, w.heap[g]? = some (.cells cs T (0, 0))) : IS c bx M X l ns ρ w' := by
  refine ⟨h.st.cellsB fun g cs t fr hgg hc => hb_grown hgg hg (fun e => ?_), hb_grown h.box hg (fun e => ?_), h.map.same ?_, h.tab, h.wf, h.kd, h.b0, h.bB, h.sm⟩
  · obtain ⟨h1, cs', h2⟩ := hr g e.symm
    rcases hc with rfl | rfl | rfl
    · exact h1 rfl
    · exact type_ne hgg h2 (fun e => hT.1 e.symm) rfl
    · exact type_ne hgg h2 (fun e => hT.2.1 e.symm) rfl
  · obtain ⟨h1, cs', h2⟩ := hr _ e.symm
    exact type_ne h.box h2 (fun e => hT.2.2 e.symm) rfl
  · obtain ⟨es, cl, hm⟩ := h.map.heap
    rw [hm]
    refine hb_grown hm hg (fun e => ?_)
    obtain ⟨h1, cs', h2⟩ := hr _ e.symm
    rw [hm] at h2
    cases h2
theorem IS.b7 {c : Cfg} {bx M : Nat} {X : Nat → Prop} {l : List Inf} {ns : List ByteArray} {ρ : ByteArray → Option Nat} {w : World} (h : IS c bx M X l ns ρ w) {sv nv : Value} {m p : Value} (hr : c.rest = [sv, nv, m, p]) : w.cell? ⟨c.B, 5, none⟩ = some sv ∧ w.cell? ⟨c.B, 7, none⟩ = some m ∧ w.cell? ⟨c.B, 8, none⟩ = some p ∧ (∀ o, w.frozen? ⟨c.B, o, none⟩ = false) ∧ w.cell? ⟨c.B, 6, none⟩ = some nv := by
  obtain ⟨v, L, rk, p1, _, _, _⟩ := h.st
  have hblk := p1.blk
  rw [hr] at hblk
  exact ⟨hb_at hblk 5 rfl, hb_at hblk 7 rfl, hb_at hblk 8 rfl, fun o => hb_free hblk o, hb_at hblk 6 rfl⟩
/-- The state of a solver that equations come into. -/
structure NS (w : World) (E : List (Tm × Tm)) (d : Nat) (l : List Inf) (ρ : ByteArray → Option Nat) (sd : List (Nat × Nat)) (sv tv' : Value) (ts : List T5) (wr : World) : Prop where
  is : IS (cfgN w sv) (w.heap.size + 1 + 1 + 1) w.heap.size (fun _ => False) l (nmsE d E) ρ wr
  pl : IMap wr (w.heap.size + 1) 0 fun _ => none
  sides : PRow w.heap.size wr sv (sd.map fun s => (((s.1 : Nat) : Int), ((s.2 : Nat) : Int)))
  terms : wr.ownsRow w.heap.size 36 5 tv' ts.length (flatC ts)
  tlen : ts.length = (two E).length
  trm : ∀ (i : Nat) (x : Tm), (two E)[i]? = some x → ∃ t, ts[i]? = some t ∧ IsT w d (t5v t) x
  eqs : Abs.Eqs l ρ sd E
  wt : Abs.wt l ≤ 2 * tot d E
  ln : l.length ≤ tot d E
  bel : Below w.heap.size w wr
end Go.Proofs.YtncebhddcokkoaaDoor
