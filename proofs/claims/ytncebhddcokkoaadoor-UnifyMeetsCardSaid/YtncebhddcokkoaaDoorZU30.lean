/- Texts in a row: Ll Lm Ln. -/
import Derived.Test.YtncebhddcokkoaaDoorZU29
/- What a solver has found is told: all names. -/
namespace Go.Proofs.YtncebhddcokkoaaDoor
open Go.RowKit Go.Maps
set_option linter.unusedSimpArgs false
set_option linter.unusedVariables false
theorem SV.grown38 {X : Nat → Prop} {c : Cfg} {N : Nat} {A : Abs} {ns : List ByteArray} {ρ : ByteArray → Option Nat} {sv nv : Value} {M P : Nat} {w w' : World} {row : Option Nat} (h : SV X c N A ns ρ sv nv M P w) (hg : w.grownBy w' row) (hr : ∀ g, row = some g → g ≠ c.B ∧ ∃ cs, w.heap[g]? = some (.cells cs 38 (0, 0))) : SV X c N A ns ρ sv nv M P w' := by
  have hmap : ∀ (m : Nat) es cl, w.heap[m]? = some (.map es cl) → w'.heap[m]? = w.heap[m]? := fun m es cl hm => by
    rw [hm]
    refine hb_grown hm hg (fun e => ?_)
    obtain ⟨_, cs, h2⟩ := hr m e.symm
    rw [hm] at h2
    cases h2
  obtain ⟨es, cl, hm⟩ := h.vm.heap
  obtain ⟨g, hgm, hgp⟩ := h.pl
  obtain ⟨es', cl', hm'⟩ := hgm.heap
  refine ⟨h.st.cellsB fun g cs t fr hgg hc => hb_grown hgg hg (fun e => ?_), h.ty, h.rest, own_kept h.row (fun b y hb hy => ?_), h.vm.same (hmap _ _ _ hm), ⟨g, hgm.same (hmap _ _ _ hm'), hgp⟩, h.few, h.dom⟩
  · obtain ⟨h1, cs', h2⟩ := hr g e.symm
    rcases hc with rfl | rfl | rfl
    · exact h1 rfl
    · exact type_ne hgg h2 (by decide) rfl
    · exact type_ne hgg h2 (by decide) rfl
  · have hb2 : ∃ cs', w.heap[b]? = some (.cells cs' 9 (0, 0)) := by
      rcases h.row.2 with ⟨rfl, _⟩ | ⟨g', cap, cur, rfl, _, h4, _⟩
      · cases hb
      · injection hb with hb
        subst hb
        exact ⟨_, h4⟩
    obtain ⟨cs', hb2⟩ := hb2
    refine hb_grown hy hg (fun e => ?_)
    obtain ⟨_, cs, h2⟩ := hr b e.symm
    exact type_ne hb2 h2 (by decide) rfl
/-- What solution answers. -/
def SolvQ (ns : List ByteArray) (σ : ByteArray → Tm) (e : Ending) (w' : World) : Prop :=
  (∃ v, e = .returned (.tuple #[v, .int .i64 0]) ∧ (∀ n ∈ ns, cnt2 (σ n) ≤ 1000) ∧ VAt w' 1000 v (ns.map fun n => (n, σ n))) ∨ (e = .returned (.tuple #[.slice none 0 0, .int .i64 9]) ∧ ∃ n ∈ ns, 1000 < cnt2 (σ n))
set_option maxRecDepth 100000 in
set_option maxHeartbeats 2000000 in
theorem solution_any {c : Cfg} {N : Nat} {A : Abs} {ns : List ByteArray} {ρ : ByteArray → Option Nat} {sv nv : Value} {M P : Nat} {f : Nat → Tm} (hN : Nms A ρ f) {σ : ByteArray → Tm} {w : World} (hu : ∀ n i, ρ n = some i → i < A.l.length ∧ Abs.Unf A f i (σ n)) (hns : ∀ n ∈ ns, n.size ≤ maxLen) (h : SV (fun _ => False) c N A ns ρ sv nv M P w) :
    Calls Tryd.prog 41 #[.pointer (some ⟨c.B, 0, none⟩)] w fun e w' => SolvQ ns σ e w' ∧ Below c.b0 w w' := by
  have hsz := h.st.st.lt
  have hbw : c.b0 ≤ w.heap.size := by omega
  have hnv : ∃ q cc, nv = .slice q ns.length cc := by
    rcases h.row.2 with ⟨rfl, h0⟩ | ⟨g', cap, cur, rfl, _⟩
    · exact ⟨none, 0, by rw [h0]⟩
    · exact ⟨_, _, rfl⟩
  obtain ⟨qn, cn, rfl⟩ := hnv
  have hcells : ∀ wr, SV (fun _ => False) c N A ns ρ sv (.slice qn ns.length cn) M P wr → wr.cell? ⟨c.B, 6, none⟩ = some (.slice qn ns.length cn) ∧ wr.cell? ⟨c.B, 7, none⟩ = some (.map (some M)) ∧ ∀ (j : Nat) (n : ByteArray), ns[j]? = some n → ∃ g, qn = some ⟨g, 0, none⟩ ∧ wr.cell? ⟨g, j, none⟩ = some (.string n) := by
    intro wr hs
    obtain ⟨v, L, rk, p1, _, _, _⟩ := hs.st
    have hblk := p1.blk
    rw [hs.rest] at hblk
    refine ⟨hb_at hblk 6 rfl, hb_at hblk 7 rfl, fun j n hj => ?_⟩
    have hjl := (List.getElem?_eq_some_iff.1 hj).1
    rcases hs.row.2 with ⟨_, h0⟩ | ⟨g, cap, cur, e, _, hg, _, _, _, htk⟩
    · omega
    · injection e with e1 _ _
      refine ⟨g, e1, ?_⟩
      rw [hb_cell hg]
      have e : (cur.toList.take (ns.length * 1))[j]? = (ns.map Value.string)[j]? := by rw [htk]
      rw [List.getElem?_take, if_pos (by omega), List.getElem?_map, hj, Array.getElem?_toList] at e
      exact e
  have HCE := Lib.hid hcells
  have hfew := h.few
  obtain ⟨b6, _, _⟩ := hcells w h
  have HU := Lib.hid hu
  have HNS := Lib.hid hns
  have H := Lib.hid h
  clear hcells h hu hns
  go_enter Tryd.func41, Tryd.ntmps41
  go_wp2
  go_loopw [4, 14] (fun kv t wr => ∃ (j : Nat) (l : List V6), t = .int .i64 (j : Nat) ∧ j ≤ ns.length ∧ SV (fun _ => False) c N A ns ρ sv (.slice qn ns.length cn) M P wr ∧ Kp c w wr ∧ wr.ownsRow w.heap.size 38 6 kv l.length (flatV l) ∧ DnV c wr l ((ns.take j).map fun n => (n, σ n)) ∧ ∀ n ∈ ns.take j, cnt2 (σ n) ≤ 1000) (fun _ t _ => ns.length - (intOf t).toNat)
  case atStart => exact ⟨0, [], rfl, Nat.zero_le _, H.out, Kp.refl _ _, World.ownsRow_nil _ _ _ _, ⟨rfl, fun i x h => by simp at h⟩, fun n hn => by simp at hn⟩
  case round =>
    obtain ⟨j, l, rfl, hjl, hs, hkp, hrow, hdn, hall⟩ := hrel
    have hkvs : ∃ q cc, u4 = .slice q l.length cc := by
      rcases hrow.2 with ⟨rfl, h0⟩ | ⟨g', cap, cur, rfl, _⟩
      · exact ⟨none, 0, by rw [h0]⟩
      · exact ⟨_, _, rfl⟩
    obtain ⟨qk, ck, rfl⟩ := hkvs
    have hlj : l.length = j := by rw [hdn.1, List.length_map, List.length_take]; omega
    have HLJ := Lib.hid hlj
    clear hlj
    have hks := hkp.size
    by_cases hlt : j < ns.length
    · have hki : (j : Int) < (ns.length : Int) := by omega
      obtain ⟨n, hn⟩ : ∃ n, ns[j]? = some n := ⟨_, List.getElem?_eq_getElem hlt⟩
      obtain ⟨c6, c7, hnm⟩ := HCE.out wr hs
      obtain ⟨gn, rfl, cn1⟩ := hnm j n hn
      obtain ⟨i, hi⟩ := (hs.dom n).1 (List.mem_of_getElem? hn)
      obtain ⟨hil, hun⟩ := HU.out n i hi
      have HVM := Lib.hid hs.vm
      have hgi : ((ρ n).map Int.ofNat).getD 0 = (i : Int) := by rw [hi]; rfl
      have hnsz := HNS.out n (List.mem_of_getElem? hn)
      have HT := Lib.hid (told46_any hN hun hs hil)
      have HROW := Lib.hid hrow
      have HDN := Lib.hid hdn
      have HALL := Lib.hid hall
      have HKP := Lib.hid hkp
      have HN1 := Lib.hid hn
      clear hs hrow hdn hall hkp hnm hi hn hun
      by_cases hcn : cnt2 (σ n) ≤ 1000
      · have hd : decide (cnt2 (σ n) ≤ 1000) = true := by simpa using hcn
        have HD := Lib.hid hd
        have HCN := Lib.hid hcn
        clear hd hcn
        go_wp2_with (first
          | (with_reducible refine wpList_pm_look1 rfl _ _ rfl rfl HVM.out _ rfl hnsz _ hgi ?_)
          | (go_at_call 46; (with_reducible refine HT.out.mono ?_); rintro e w6 ⟨k, I, p, m, q, l6, cc6, rfl, g1, g2, g3⟩; rw [HD.out]; have G1 := Lib.hid g1; have G2 := Lib.hid g2; have G3 := Lib.hid g3; clear g1 g2 g3)
          | (at_builtin; refine (fun h : True → _ => h trivial) ?_))
        intro _
        have hba := below_alloc w6 (.cells #[.int .i64 k, .string p, .string m, .int .i64 I, .slice q l6 cc6] 36)
        have hk6 := HKP.out.trans G2.out
        have hk7 := hk6.trans (Kp.of_below (by have := hk6.size; omega) hba)
        have hrowk : ∀ g, (Value.slice qk l.length ck).ownBlock = some g → w.heap.size ≤ g ∧ g ≠ c.B ∧ ∃ cs, wr.heap[g]? = some (.cells cs 38 (0, 0)) := by
          intro g hg
          rcases HROW.out.2 with ⟨h0, _⟩ | ⟨g', cap, cur, e, h3, h4, _⟩
          · rw [h0] at hg; cases hg
          · rw [e] at hg
            injection hg with hg
            subst hg
            exact ⟨h3, by show g' ≠ c.B; omega, cur, h4⟩
        have hrow6 : (w6.alloc (.cells #[.int .i64 k, .string p, .string m, .int .i64 I, .slice q l6 cc6] 36)).ownsRow w.heap.size 38 6 (.slice qk l.length ck) l.length (flatV l) := own_kept HROW.out fun g x hg hx => by
          obtain ⟨_, h2, cs, h3⟩ := hrowk g hg
          rw [h3] at hx
          cases hx
          exact hb_alloc (G2.out.block _ _ h3 h2 (fun cs fr e => by injection e with _ e _; exact absurd e (by decide))) _
        obtain ⟨kv', w', hrun, hrow', hg'⟩ := append_v hrow6 (by have := hk7.size; omega) (nm := n) (k := k) (I := I) (p := p) (m := m) (q := q) (ln := l6) (cc := cc6) (by have := HLJ.out; omega)
        have hsh : ∃ q' c', kv' = .slice q' (l.length + 1) c' := by
          rcases hrow'.2 with ⟨_, h0⟩ | ⟨g', cap, cur, rfl, _⟩
          · rw [List.length_append] at h0; simp at h0
          · exact ⟨_, _, by rw [List.length_append]; rfl⟩
        obtain ⟨q', c', rfl⟩ := hsh
        have hsz7 : (w6.alloc (.cells #[.int .i64 k, .string p, .string m, .int .i64 I, .slice q l6 cc6] 36)).heap.size = w6.heap.size + 1 := by simp
        rw [hsz7] at hrun
        refine wpList_app rfl _ _ rfl rfl rfl rfl hrun ?_
        have hba8 := below_alloc (w6.alloc (.cells #[.int .i64 k, .string p, .string m, .int .i64 I, .slice q l6 cc6] 36)) (.cells #[.string n, .int .i64 k, .string p, .string m, .int .i64 I, .slice q l6 cc6] 38)
        have hba2 := hba.trans (hba8.mono hba.size)
        have hk8 := hk6.trans (Kp.of_below (by have := hk6.size; omega) hba2)
        have hown8 : ∀ g, (Value.slice qk l.length ck).ownBlock = some g → w.heap.size ≤ g ∧ g ≠ c.B ∧ ∃ cs, ((w6.alloc (.cells #[.int .i64 k, .string p, .string m, .int .i64 I, .slice q l6 cc6] 36)).alloc (.cells #[.string n, .int .i64 k, .string p, .string m, .int .i64 I, .slice q l6 cc6] 38)).heap[g]? = some (.cells cs 38 (0, 0)) := fun g hg => by
          obtain ⟨h1, h2, cs, h3⟩ := hrowk g hg
          exact ⟨h1, h2, cs, hb_alloc (hb_alloc (G2.out.block _ _ h3 h2 (fun cs fr e => by injection e with _ e _; exact absurd e (by decide))) _) _⟩
        have hkf : Kp c w w' := (hk8.m.grown_new (M := w.heap.size) hg' (fun g hg => (hown8 g hg).1) hbw).kp (Nat.le_refl _)
        have hsv8 := G1.out.mono hba2 (G1.out.st.below hba2)
        have hsvf := hsv8.grown38 hg' (fun g hg => (hown8 g hg).2)
        have hdn6 := (HDN.out.kp G2.out).kp (Kp.of_below (by have := hk6.size; omega) hba2)
        have hmv : ∀ b, (Tz c ((w6.alloc (.cells #[.int .i64 k, .string p, .string m, .int .i64 I, .slice q l6 cc6] 36)).alloc (.cells #[.string n, .int .i64 k, .string p, .string m, .int .i64 I, .slice q l6 cc6] 38))) b → Tz c w' b ∧ w'.heap[b]? = ((w6.alloc (.cells #[.int .i64 k, .string p, .string m, .int .i64 I, .slice q l6 cc6] 36)).alloc (.cells #[.string n, .int .i64 k, .string p, .string m, .int .i64 I, .slice q l6 cc6] 38)).heap[b]? := fun b hb => by
          obtain ⟨h1, cs, fr, h2⟩ := hb
          have h3 := hb_grown h2 hg' (fun e => by obtain ⟨_, _, cs', h4⟩ := hown8 b e.symm; exact type_ne h2 h4 (by decide) rfl)
          exact ⟨⟨h1, cs, fr, h3⟩, h3.trans h2.symm⟩
        have htk : ns.take (j + 1) = ns.take j ++ [n] := by rw [List.take_add_one, HN1.out]; rfl
        have hfinal : DnV c w' (l ++ [(n, k, p, m, I, Value.slice q l6 cc6)]) ((ns.take (j + 1)).map fun n => (n, σ n)) := by
          rw [htk, List.map_append]
          refine ⟨by rw [List.length_append, List.length_append, hdn6.1]; rfl, fun a x hx => ?_⟩
          rw [List.getElem?_append] at hx
          split at hx
          · rename_i ha
            obtain ⟨t, e1, e2, e3, e4⟩ := hdn6.2 a x hx
            exact ⟨t, by rw [List.getElem?_append_left (by rw [hdn6.1]; exact ha)]; exact e1, e2, e3, fun D hD => (e4 D hD).move fun b hX _ => hmv b hX⟩
          · rename_i ha
            have ha2 : a - (List.map (fun n => (n, σ n)) (ns.take j)).length = 0 := by
              exact Nat.lt_one_iff.1 (List.getElem?_eq_some_iff.1 hx).1
            rw [ha2] at hx
            obtain rfl : (n, σ n) = x := by simpa using hx
            have hal : a = l.length := by rw [hdn6.1]; omega
            refine ⟨_, by rw [hal]; exact List.getElem?_concat_length, rfl, hnsz, fun D hD => ((G3.out HCN.out D hD).move (Y := Tz c ((w6.alloc (.cells #[.int .i64 k, .string p, .string m, .int .i64 I, .slice q l6 cc6] 36)).alloc (.cells #[.string n, .int .i64 k, .string p, .string m, .int .i64 I, .slice q l6 cc6] 38))) fun b hX hbl => ?_).move fun b hX _ => hmv b hX⟩
            obtain ⟨g1, g2, cs, fr, hbb⟩ := hX
            have h3 := hb_below hbb hba2 hbl
            exact ⟨⟨g2, cs, fr, h3⟩, h3.trans hbb.symm⟩
        have hall2 : ∀ x ∈ ns.take (j + 1), cnt2 (σ x) ≤ 1000 := by
          intro x hx
          rw [htk] at hx
          rcases List.mem_append.1 hx with hx | hx
          · exact HALL.out x hx
          · cases List.mem_singleton.1 hx; exact HCN.out
        have HF := Lib.hid hfinal
        have HA2 := Lib.hid hall2
        have HSV := Lib.hid hsvf
        have HKF := Lib.hid hkf
        have HR' := Lib.hid hrow'
        clear hfinal hall2 hsvf hkf hrow' hmv hdn6 hsv8 hown8 hk8 hba2 hba8 hrow6 hrowk hk7 hk6 hba hrun hg' htk
        go_wp2
        refine ⟨⟨j + 1, _, by go_num, by omega, HSV.out, HKF.out, ?_, HF.out, HA2.out⟩, by simp [intOf]; omega⟩
        have := HR'.out
        rw [List.length_append] at this ⊢
        exact this
      · have hd : decide (cnt2 (σ n) ≤ 1000) = false := by simpa using hcn
        have HD := Lib.hid hd
        have HCN := Lib.hid hcn
        clear hd hcn
        go_wp2_with (first
          | (with_reducible refine wpList_pm_look1 rfl _ _ rfl rfl HVM.out _ rfl hnsz _ hgi ?_)
          | (go_at_call 46; (with_reducible refine HT.out.mono ?_); rintro e w6 ⟨k, I, p, m, q, l6, cc6, rfl, g1, g2, g3⟩; rw [HD.out]; have G1 := Lib.hid g1; have G2 := Lib.hid g2; have G3 := Lib.hid g3; clear g1 g2 g3))
        all_goals
          have hk6 := HKP.out.trans G2.out
          have hba := below_alloc w6 (.cells #[.int .i64 k, .string p, .string m, .int .i64 I, .slice q l6 cc6] 36)
          refine bodyPost_ret (results_tmp2 rfl _ _ _) rfl ⟨.inr ⟨rfl, n, List.mem_of_getElem? HN1.out, by have := HCN.out; omega⟩, (hk6.trans (Kp.of_below (by have := hk6.size; omega) hba)).below⟩
    · have hki : ¬ (j : Int) < (ns.length : Int) := by omega
      obtain rfl : j = ns.length := by omega
      rw [List.take_length] at hdn hall
      have HROW := Lib.hid hrow
      have HDN := Lib.hid hdn
      have HALL := Lib.hid hall
      have HKP := Lib.hid hkp
      clear hs hrow hdn hall hkp
      go_wp2
      go_ret2
      refine ⟨.inl ⟨.slice qk l.length ck, rfl, HALL.out, ?_⟩, HKP.out.below⟩
      refine MadeV.all (base := w.heap.size) ⟨l, by rw [HDN.out.1], HROW.out, fun a x hx => ?_⟩ (by simp; omega)
      obtain ⟨t, e1, e2, e3, e4⟩ := HDN.out.2 a x hx
      refine ⟨t, e1, e2, e3, (e4 1000 ?_).move fun b hX _ => ⟨fun e => ?_, rfl⟩⟩
      · obtain ⟨y, hy, rfl⟩ := List.mem_map.1 (List.mem_of_getElem? hx)
        exact HALL.out y hy
      · obtain ⟨_, cs, fr, h2⟩ := hX
        rcases HROW.out.2 with ⟨h0, _⟩ | ⟨g', cap, cur, e', h3, h4, _⟩
        · rw [h0] at e; cases e
        · rw [e'] at e
          injection e with e
          subst e
          exact type_ne h2 h4 (by decide) rfl
end Go.Proofs.YtncebhddcokkoaaDoor
/- A solver is made: what is in it, ahead of its equations. -/
namespace Go.Proofs.YtncebhddcokkoaaDoor
open Go.RowKit Go.Maps
set_option linter.unusedSimpArgs false
set_option linter.unusedVariables false
/-- Equations in memory. -/
def EqAt (w : World) (d : Nat) (v : Value) (E : List (Tm × Tm)) : Prop := ∃ q cc, v = .slice q E.length cc ∧ ∀ (i : Nat) (x : Tm × Tm), E[i]? = some x → ∃ g o k p n N s k' p' n' N' s', q = some ⟨g, o, none⟩ ∧
  (TAt w g (o + i * 10) k p n N s ∧ IsT w d (tv k p n N s) x.1) ∧ (TAt w g (o + i * 10 + 5) k' p' n' N' s' ∧ IsT w d (tv k' p' n' N' s') x.2)
theorem EqAt.below {w w' : World} {d : Nat} {v : Value} {E : List (Tm × Tm)} (h : EqAt w d v E) (hb : Below w.heap.size w w') : EqAt w' d v E := by
  obtain ⟨q, cc, e, h⟩ := h
  refine ⟨q, cc, e, fun i x hx => ?_⟩
  obtain ⟨g, o, k, p, n, N, s, k', p', n', N', s', e, ⟨h1, h2⟩, h3, h4⟩ := h i x hx
  exact ⟨g, o, k, p, n, N, s, k', p', n', N', s', e, ⟨h1.below hb h1.lt, h2.below hb⟩, h3.below hb h3.lt, h4.below hb⟩
/-- Both sides, one behind the other. -/
def two : List (Tm × Tm) → List Tm
  | [] => []
  | x :: l => x.1 :: x.2 :: two l
theorem two_app : ∀ (l m : List (Tm × Tm)), two (l ++ m) = two l ++ two m
  | [], m => rfl
  | x :: l, m => by simp [two, two_app l m]
theorem two_len : ∀ l : List (Tm × Tm), (two l).length = 2 * l.length
  | [] => rfl
  | x :: l => by simp [two, two_len l]; omega
/-- How many terms they have. -/
def tot (d : Nat) (E : List (Tm × Tm)) : Nat := (two E).foldl (fun n t => n + tszN d t) 0
theorem tot_app (d : Nat) (l m : List (Tm × Tm)) : tot d (l ++ m) = tot d l + tot d m := by
  unfold tot
  rw [two_app, List.foldl_append, foldl_add (tszN d) (two m)]
theorem tot_one (d : Nat) (x : Tm × Tm) : tot d [x] = tszN d x.1 + tszN d x.2 := by
  unfold tot two two
  simp
/-- The names of the first ones. -/
def nmsE (d : Nat) (E : List (Tm × Tm)) : List ByteArray := (two E).foldl (varsT d) []
theorem nmsE_snoc (d : Nat) (E : List (Tm × Tm)) (x : Tm × Tm) : nmsE d (E ++ [x]) = varsT d (varsT d (nmsE d E) x.1) x.2 := by
  unfold nmsE
  rw [two_app, List.foldl_append]
  rfl
/-- Two terms are appended. -/
theorem append_tt {w : World} {base : Nat} {v : Value} {l : List T5} (hown : w.ownsRow base 36 5 v l.length (flatC l)) (hbase : base ≤ w.heap.size) {k N k' N' : Int} {p n p' n' : ByteArray} {q q' : Option Addr} {ln c ln' c' : Nat} (hn : l.length ≤ 100000) :
    ∃ v' w', (Builtin.append_ #[34, 34] 34 #[v, .slice (some ⟨w.heap.size, 0, none⟩) 2 2]).run Tryd.prog (w.alloc (.cells #[.int .i64 k, .string p, .string n, .int .i64 N, .slice q ln c, .int .i64 k', .string p', .string n', .int .i64 N', .slice q' ln' c'] 36)) = .ok v' w' ∧
      w'.ownsRow base 36 5 v' (l ++ [(k, p, n, N, Value.slice q ln c), (k', p', n', N', Value.slice q' ln' c')]).length (flatC (l ++ [(k, p, n, N, Value.slice q ln c), (k', p', n', N', Value.slice q' ln' c')])) ∧
      (w.alloc (.cells #[.int .i64 k, .string p, .string n, .int .i64 N, .slice q ln c, .int .i64 k', .string p', .string n', .int .i64 N', .slice q' ln' c'] 36)).grownBy w' v.ownBlock := by
  obtain ⟨z, hz, hzc⟩ := info24
  obtain ⟨i0, hi, hz0, hz1, hz2⟩ := info_parts hz
  have hnew := hb_new w (.cells #[.int .i64 k, .string p, .string n, .int .i64 N, .slice q ln c, .int .i64 k', .string p', .string n', .int .i64 N', .slice q' ln' c'] 36)
  obtain ⟨v', w', r1, r2, r3, _, r5⟩ := run_append_own_at (P := Tryd.prog) (w := w.alloc (.cells #[.int .i64 k, .string p, .string n, .int .i64 N, .slice q ln c, .int .i64 k', .string p', .string n', .int .i64 N', .slice q' ln' c'] 36)) base 34 34 36 i0 z 5 72 Tryd.underlying34 hi hz0 hz1 hz2 hzc (by decide) v l.length (flatC l) (hown.alloc _) ⟨w.heap.size, 0, none⟩ 2 2
    [.int .i64 k, .string p, .string n, .int .i64 N, .slice q ln c, .int .i64 k', .string p', .string n', .int .i64 N', .slice q' ln' c'] rfl
    (fun j u hu => by
      rw [add_zero_none, hb_cell hnew]
      match j, hu with
      | 0, hu => exact hu
      | 1, hu => exact hu
      | 2, hu => exact hu
      | 3, hu => exact hu
      | 4, hu => exact hu
      | 5, hu => exact hu
      | 6, hu => exact hu
      | 7, hu => exact hu
      | 8, hu => exact hu
      | 9, hu => exact hu
      | j + 10, hu => simp at hu)
    (fun u hu => by
      simp only [List.mem_cons, List.not_mem_nil, or_false] at hu
      rcases hu with rfl | rfl | rfl | rfl | rfl | rfl | rfl | rfl | rfl | rfl <;> rfl)
    (by unfold maxLen; omega) (by omega) (by simp; omega)
  refine ⟨v', w', r1, ?_, r3⟩
  have e : flatC (l ++ [(k, p, n, N, Value.slice q ln c), (k', p', n', N', Value.slice q' ln' c')]) = flatC l ++ [.int .i64 k, .string p, .string n, .int .i64 N, .slice q ln c, .int .i64 k', .string p', .string n', .int .i64 N', .slice q' ln' c'] := by simp [flatC]
  rw [List.length_append, e]
  exact r2
/-- A solver's place. -/
def cfgN (w : World) (sv : Value) : Cfg := ⟨w.heap.size, w.heap.size + 1 + 1, 86, [sv, .slice none 0 0, .map (some w.heap.size), .map (some (w.heap.size + 1))], 9223372036854775807, false, 0⟩
theorem cfgN_cf (w : World) (sv : Value) : Cf (cfgN w sv) := ⟨rfl, by show (100000 : Int) ≤ 9223372036854775807; decide, by show (0 : Int) ≤ 0; decide⟩
/-- What a store says, but for its types, is stored. -/
theorem StA.rest {X : Nat → Prop} {c : Cfg} {A : Abs} {w : World} (h : StA X c A w) {i : Nat} {u : Value} {r : List Value} (hr : ∀ v : Value, (v :: .int .i64 c.bud :: .bool true :: .bool c.full :: .int .i64 c.wks :: c.rest).toArray.setIfInBounds i u = (v :: .int .i64 c.bud :: .bool true :: .bool c.full :: .int .i64 c.wks :: r).toArray) :
    StA X { c with rest := r } A (w.setCell ⟨c.B, i, none⟩ u) := by
  obtain ⟨v, L, rk, p1, p2, p3, p4⟩ := h
  have hB := p1.blk
  refine ⟨v, L, rk, ⟨p1.hb, p1.ne, ?_, ?_, fun x hx => ?_, p1.few⟩, ⟨p2.l, p2.lv, p2.be⟩, ⟨p3.pl, p3.wk⟩, p4⟩
  · have := hb_set_same hB i u
    rw [hr v] at this
    exact this
  · rcases p1.row with h1 | ⟨g, cap, cur, h1, h2, h3, h4⟩
    · exact .inl h1
    · exact .inr ⟨g, cap, cur, h1, h2, hb_set_other h3 u (fun e => type_ne h3 hB (fun e => p1.ne e.symm) e), h4⟩
  · obtain ⟨q, cc, e1, e2⟩ := p1.kid x hx
    refine ⟨q, cc, e1, ?_⟩
    rcases e2 with e2 | ⟨g, o, cs', fr', e, hg, hB', hc'⟩
    · exact .inl e2
    · exact .inr ⟨g, o, cs', fr', e, hb_set_other hg u (fun e5 => hB' e5), hB', hc'⟩
theorem IS.rest {c : Cfg} {bx M : Nat} {X : Nat → Prop} {l : List Inf} {ns : List ByteArray} {ρ : ByteArray → Option Nat} {w : World} (h : IS c bx M X l ns ρ w) {i : Nat} {u : Value} {r : List Value} (hr : ∀ v : Value, (v :: .int .i64 c.bud :: .bool true :: .bool c.full :: .int .i64 c.wks :: c.rest).toArray.setIfInBounds i u = (v :: .int .i64 c.bud :: .bool true :: .bool c.full :: .int .i64 c.wks :: r).toArray) (hM : M ≠ c.B) :
    IS { c with rest := r } bx M X l ns ρ (w.setCell ⟨c.B, i, none⟩ u) :=
  ⟨h.st.rest hr, hb_set_other h.box u (fun e => h.bB e), h.map.same (Below.heap_setCell w _ u M (fun e => hM e)), h.tab, h.wf, h.kd, h.b0, h.bB, h.sm⟩
theorem IS.grown {c : Cfg} {bx M : Nat} {X : Nat → Prop} {l : List Inf} {ns : List ByteArray} {ρ : ByteArray → Option Nat} {w w' : World} {row : Option Nat} (h : IS c bx M X l ns ρ w) (hg : w.grownBy w' row) {T : TypeId} (hT : T ≠ 90 ∧ T ≠ 3 ∧ T ≠ 68) (hr : ∀ g, row = some g → g ≠ c.B ∧ ∃ cs, w.heap[g]? = some (.cells cs T (0, 0))) : IS c bx M X l ns ρ w' := by
  refine ⟨h.st.cellsB fun g cs t fr hgg hc => hb_grown hgg hg (fun e => ?_), hb_grown h.box hg (fun e => ?_), h.map.same ?_, h.tab, h.wf, h.kd, h.b0, h.bB, h.sm⟩
  · obtain ⟨h1, cs', h2⟩ := hr g e.symm
    rcases hc with rfl | rfl | rfl
    · exact h1 rfl
    · exact type_ne hgg h2 (fun e => hT.1 e.symm) rfl
    · exact type_ne hgg h2 (fun e => hT.2.1 e.symm) rfl
  · obtain ⟨h1, cs', h2⟩ := hr _ e.symm
    exact type_ne h.box h2 (fun e => hT.2.2 e.symm) rfl
  · obtain ⟨es, cl, hm⟩ := h.map.heap
    rw [hm]
    refine hb_grown hm hg (fun e => ?_)
    obtain ⟨h1, cs', h2⟩ := hr _ e.symm
    rw [hm] at h2
    cases h2
theorem IS.b7 {c : Cfg} {bx M : Nat} {X : Nat → Prop} {l : List Inf} {ns : List ByteArray} {ρ : ByteArray → Option Nat} {w : World} (h : IS c bx M X l ns ρ w) {sv nv : Value} {m p : Value} (hr : c.rest = [sv, nv, m, p]) : w.cell? ⟨c.B, 5, none⟩ = some sv ∧ w.cell? ⟨c.B, 7, none⟩ = some m ∧ w.cell? ⟨c.B, 8, none⟩ = some p ∧ (∀ o, w.frozen? ⟨c.B, o, none⟩ = false) ∧ w.cell? ⟨c.B, 6, none⟩ = some nv := by
  obtain ⟨v, L, rk, p1, _, _, _⟩ := h.st
  have hblk := p1.blk
  rw [hr] at hblk
  exact ⟨hb_at hblk 5 rfl, hb_at hblk 7 rfl, hb_at hblk 8 rfl, fun o => hb_free hblk o, hb_at hblk 6 rfl⟩
/-- The state of a solver that equations come into. -/
structure NS (w : World) (E : List (Tm × Tm)) (d : Nat) (l : List Inf) (ρ : ByteArray → Option Nat) (sd : List (Nat × Nat)) (sv tv' : Value) (ts : List T5) (wr : World) : Prop where
  is : IS (cfgN w sv) (w.heap.size + 1 + 1 + 1) w.heap.size (fun _ => False) l (nmsE d E) ρ wr
  pl : IMap wr (w.heap.size + 1) 0 fun _ => none
  sides : PRow w.heap.size wr sv (sd.map fun s => (((s.1 : Nat) : Int), ((s.2 : Nat) : Int)))
  terms : wr.ownsRow w.heap.size 36 5 tv' ts.length (flatC ts)
  tlen : ts.length = (two E).length
  trm : ∀ (i : Nat) (x : Tm), (two E)[i]? = some x → ∃ t, ts[i]? = some t ∧ IsT w d (t5v t) x
  eqs : Abs.Eqs l ρ sd E
  wt : Abs.wt l ≤ 2 * tot d E
  ln : l.length ≤ tot d E
  bel : Below w.heap.size w wr
end Go.Proofs.YtncebhddcokkoaaDoor
/- A solver is made: its equations' sides come into it. -/
namespace Go.Proofs.YtncebhddcokkoaaDoor
open Go.RowKit Go.Maps
set_option linter.unusedSimpArgs false
set_option linter.unusedVariables false
def InP (w : World) (E : List (Tm × Tm)) (d : Nat) (j : Nat) (tv' : Value) (wr : World) : Prop := ∃ l ρ sd sv ts, NS w (E.take j) d l ρ sd sv tv' ts wr
theorem ns_start (w : World) (d : Nat) : ∃ W : World, W = ((((w.alloc (.map #[] 0)).alloc (.map #[] 0)).alloc (.cells #[.slice none 0 0, .int .i64 9223372036854775807, .bool true, .bool false, .int .i64 0, .slice none 0 0, .slice none 0 0, .map (some w.heap.size), .map (some (w.heap.size + 1))] 86)).alloc (.cells #[.pointer (some ⟨w.heap.size + 1 + 1, 0, none⟩)] 68)) ∧ NS w [] d [] (fun _ => none) [] (.slice none 0 0) (.slice none 0 0) [] W := by
  have hb : Below w.heap.size w ((((w.alloc (.map #[] 0)).alloc (.map #[] 0)).alloc (.cells #[.slice none 0 0, .int .i64 9223372036854775807, .bool true, .bool false, .int .i64 0, .slice none 0 0, .slice none 0 0, .map (some w.heap.size), .map (some (w.heap.size + 1))] 86)).alloc (.cells #[.pointer (some ⟨w.heap.size + 1 + 1, 0, none⟩)] 68)) :=
    (((below_alloc w (.map #[] 0)).alloc (below_alloc w _).size (.map #[] 0)).alloc (by simp; omega) (.cells #[.slice none 0 0, .int .i64 9223372036854775807, .bool true, .bool false, .int .i64 0, .slice none 0 0, .slice none 0 0, .map (some w.heap.size), .map (some (w.heap.size + 1))] 86)).alloc (by simp; omega) (.cells #[.pointer (some ⟨w.heap.size + 1 + 1, 0, none⟩)] 68)
  have hB : ((((w.alloc (.map #[] 0)).alloc (.map #[] 0)).alloc (.cells #[.slice none 0 0, .int .i64 9223372036854775807, .bool true, .bool false, .int .i64 0, .slice none 0 0, .slice none 0 0, .map (some w.heap.size), .map (some (w.heap.size + 1))] 86)).alloc (.cells #[.pointer (some ⟨w.heap.size + 1 + 1, 0, none⟩)] 68)).heap[w.heap.size + 1 + 1]? = some (.cells #[.slice none 0 0, .int .i64 9223372036854775807, .bool true, .bool false, .int .i64 0, .slice none 0 0, .slice none 0 0, .map (some w.heap.size), .map (some (w.heap.size + 1))] 86 (0, 0)) := by
    simpa using hb_alloc (hb_new ((w.alloc (.map #[] 0)).alloc (.map #[] 0)) (.cells #[.slice none 0 0, .int .i64 9223372036854775807, .bool true, .bool false, .int .i64 0, .slice none 0 0, .slice none 0 0, .map (some w.heap.size), .map (some (w.heap.size + 1))] 86)) (.cells #[.pointer (some ⟨w.heap.size + 1 + 1, 0, none⟩)] 68)
  have hx : ((((w.alloc (.map #[] 0)).alloc (.map #[] 0)).alloc (.cells #[.slice none 0 0, .int .i64 9223372036854775807, .bool true, .bool false, .int .i64 0, .slice none 0 0, .slice none 0 0, .map (some w.heap.size), .map (some (w.heap.size + 1))] 86)).alloc (.cells #[.pointer (some ⟨w.heap.size + 1 + 1, 0, none⟩)] 68)).heap[w.heap.size + 1 + 1 + 1]? = some (.cells #[.pointer (some ⟨w.heap.size + 1 + 1, 0, none⟩)] 68 (0, 0)) := by
    simpa using hb_new (((w.alloc (.map #[] 0)).alloc (.map #[] 0)).alloc (.cells #[.slice none 0 0, .int .i64 9223372036854775807, .bool true, .bool false, .int .i64 0, .slice none 0 0, .slice none 0 0, .map (some w.heap.size), .map (some (w.heap.size + 1))] 86)) (.cells #[.pointer (some ⟨w.heap.size + 1 + 1, 0, none⟩)] 68)
  have hm1 : PMap (w.alloc (.map #[] 0)) w.heap.size 0 fun _ => none := PMap.made w
  have hm2 : IMap ((w.alloc (.map #[] 0)).alloc (.map #[] 0)) (w.heap.size + 1) 0 fun _ => none := by simpa using IMap.made (w.alloc (.map #[] 0))
  have hb1 := ((below_alloc (w.alloc (.map #[] 0)) (.map #[] 0)).alloc (below_alloc _ _).size (.cells #[.slice none 0 0, .int .i64 9223372036854775807, .bool true, .bool false, .int .i64 0, .slice none 0 0, .slice none 0 0, .map (some w.heap.size), .map (some (w.heap.size + 1))] 86)).alloc (by simp) (.cells #[.pointer (some ⟨w.heap.size + 1 + 1, 0, none⟩)] 68)
  have hb2 := (below_alloc ((w.alloc (.map #[] 0)).alloc (.map #[] 0)) (.cells #[.slice none 0 0, .int .i64 9223372036854775807, .bool true, .bool false, .int .i64 0, .slice none 0 0, .slice none 0 0, .map (some w.heap.size), .map (some (w.heap.size + 1))] 86)).alloc (below_alloc _ _).size (.cells #[.pointer (some ⟨w.heap.size + 1 + 1, 0, none⟩)] 68)
  refine ⟨_, rfl, ⟨⟨⟨.slice none 0 0, [], fun _ => 0, ⟨by show w.heap.size ≤ w.heap.size + 1 + 1; omega, by show (86 : Nat) ≠ 90; decide, hB, .inl ⟨rfl, rfl⟩, fun x hx => (by cases hx), Nat.zero_le _⟩, ⟨rfl, fun i x h => (by simp at h), fun i x h => (by simp at h)⟩, ⟨fun i x h => (by simp at h), fun x hx => (by cases hx)⟩, fun x hx => (by cases hx)⟩, hx, hm1.below hb1, ⟨fun n => ⟨fun h => (by cases h), fun ⟨i, h⟩ => (by cases h)⟩, fun n i h => (by cases h), fun i x h => (by simp at h), fun j j' n n' i i' h => (by simp [nmsE, two] at h)⟩, ⟨fun i x h => (by simp at h), fun i x h => (by simp at h)⟩, fun i x h => (by simp at h), Nat.le_refl _, by show w.heap.size + 1 + 1 + 1 ≠ w.heap.size + 1 + 1; omega, ⟨fun x hx => (by cases hx), fun n hn => (by cases hn)⟩⟩, hm2.below hb2, World.ownsRow_nil _ _ _ _, World.ownsRow_nil _ _ _ _, rfl, fun i x h => (by simp [two] at h), .nil, Nat.zero_le _, Nat.zero_le _, hb⟩⟩
theorem own_blk {w : World} {base : Nat} {e : TypeId} {size n : Nat} {v : Value} {xs : List Value} (h : w.ownsRow base e size v n xs) : ∀ g, v.ownBlock = some g → base ≤ g ∧ ∃ cs, w.heap[g]? = some (.cells cs e (0, 0)) := by
  intro g hg
  rcases h.2 with ⟨rfl, h0⟩ | ⟨g', cap, cur, rfl, h3, h4, _⟩
  · cases hg
  · injection hg with hg
    subst hg
    exact ⟨h3, cur, h4⟩
theorem own_kpN {c : Cfg} {M : Nat} {w w' : World} {base : Nat} {e : TypeId} {size n : Nat} {v : Value} {xs : List Value} (h : w.ownsRow base e size v n xs) (k : KpM c M w w') (he : e ≠ 90 ∧ e ≠ 86) (hB : ∃ cs, w.heap[c.B]? = some (.cells cs 86 (0, 0))) (hM : ∃ es cl, w.heap[M]? = some (.map es cl)) : w'.ownsRow base e size v n xs := by
  refine own_kept h fun g x hg hx => ?_
  obtain ⟨_, cs, h2⟩ := own_blk h g hg
  obtain ⟨cb, hB⟩ := hB
  obtain ⟨es, cl, hM⟩ := hM
  rw [h2] at hx
  cases hx
  exact k.kept h2 (fun e2 => type_ne h2 hB he.2 e2) (fun e2 => by rw [e2, hM] at h2; cases h2) he.1
theorem IS.rest5 {w W : World} {sv : Value} {bx : Nat} {X : Nat → Prop} {l : List Inf} {ns : List ByteArray} {ρ : ByteArray → Option Nat} (h : IS (cfgN w sv) bx w.heap.size X l ns ρ W) (u : Value) : IS (cfgN w u) bx w.heap.size X l ns ρ (W.setCell ⟨w.heap.size + 1 + 1, 5, none⟩ u) :=
  h.rest (i := 5) (u := u) (r := [u, .slice none 0 0, .map (some w.heap.size), .map (some (w.heap.size + 1))]) (fun v => rfl) (by show w.heap.size ≠ w.heap.size + 1 + 1; omega)
theorem IS.blkN {w W : World} {sv : Value} {bx M : Nat} {X : Nat → Prop} {l : List Inf} {ns : List ByteArray} {ρ : ByteArray → Option Nat} (h : IS (cfgN w sv) bx M X l ns ρ W) : ∃ cs, W.heap[(cfgN w sv).B]? = some (.cells cs 86 (0, 0)) := by
  obtain ⟨v, L, rk, p1, _, _, _⟩ := h.st
  exact ⟨_, p1.blk⟩
theorem import_N {w : World} {sv : Value} (d : Nat) (v : Value) (t : Tm) (l : List Inf) (ns : List ByteArray) (ρ : ByteArray → Option Nat) (W : World) (h : IS (cfgN w sv) (w.heap.size + 1 + 1 + 1) w.heap.size (fun _ => False) l ns ρ W) (hw : Below w.heap.size w W) (ht : IsT w d v t) (hy : Typ t) (hroom : l.length + tszN d t ≤ 50000) :
    Calls Tryd.prog 67 #[.pointer (some ⟨w.heap.size + 1 + 1, 0, none⟩), v, .map (some w.heap.size), .func (.func 66) #[] #[.pointer (some ⟨w.heap.size + 1 + 1 + 1, 0, none⟩)]] W (ImpQ (cfgN w sv) (w.heap.size + 1 + 1 + 1) w.heap.size (fun _ => False) l (varsT d ns t) ρ W (tszN d t) t) :=
  import_any (cfgN_cf w sv) rfl d v t l ns ρ W h hw ht hy hroom
theorem IS.b7N {w W : World} {sv : Value} {bx M : Nat} {X : Nat → Prop} {l : List Inf} {ns : List ByteArray} {ρ : ByteArray → Option Nat} (h : IS (cfgN w sv) bx M X l ns ρ W) : W.cell? ⟨w.heap.size + 1 + 1, 5, none⟩ = some sv ∧ W.cell? ⟨w.heap.size + 1 + 1, 7, none⟩ = some (.map (some w.heap.size)) ∧ W.cell? ⟨w.heap.size + 1 + 1, 8, none⟩ = some (.map (some (w.heap.size + 1))) ∧ (∀ o, W.frozen? ⟨w.heap.size + 1 + 1, o, none⟩ = false) ∧ W.cell? ⟨w.heap.size + 1 + 1, 6, none⟩ = some (.slice none 0 0) := h.b7 rfl
theorem IS.boxN {w W : World} {sv : Value} {bx M : Nat} {X : Nat → Prop} {l : List Inf} {ns : List ByteArray} {ρ : ByteArray → Option Nat} (h : IS (cfgN w sv) bx M X l ns ρ W) : W.heap[bx]? = some (.cells #[.pointer (some ⟨w.heap.size + 1 + 1, 0, none⟩)] 68 (0, 0)) := h.box
theorem PRow.at {base : Nat} {w : World} {v : Value} {ps : List (Int × Int)} (h : PRow base w v ps) {j : Nat} {p : Int × Int} (hj : ps[j]? = some p) : ∃ g cc, v = .slice (some ⟨g, 0, none⟩) ps.length cc ∧ w.cell? ⟨g, j * 2, none⟩ = some (.int .i64 p.1) ∧ w.cell? ⟨g, j * 2 + 1, none⟩ = some (.int .i64 p.2) := by
  have hjl := (List.getElem?_eq_some_iff.1 hj).1
  obtain ⟨hl, ⟨_, h0⟩ | ⟨g, cap, cur, rfl, _, hg, _, _, _, htk⟩⟩ := h
  · omega
  · have hc : (ps.map pairV)[j]? = some (pairV p) := by rw [List.getElem?_map, hj]; rfl
    have f0 := cflat_at (ps.map pairV) j 0 (pairV p) (pair_len ps) hc (by omega)
    have f1 := cflat_at (ps.map pairV) j 1 (pairV p) (pair_len ps) hc (by omega)
    rw [← htk, List.getElem?_take, if_pos (by omega), Array.getElem?_toList] at f0 f1
    exact ⟨g, cap, rfl, by rw [hb_cell hg]; exact f0, by rw [hb_cell hg]; exact f1⟩
theorem UniQ.split {c : Cfg} {A : Abs} {l0 : List Abs.Item} {o : Option Abs} {w w' : World} {e : Ending} (h : UniQ c A l0 o w e w') : ∃ (b : Bool) (k : Int), e = .returned (.bool b) ∧ 0 ≤ k ∧ k ≤ c.wks + A.l.length + 1 ∧ Kp c w w' ∧ (b = true → ∃ B, o = some B ∧ St { c with wks := k } B w' ∧ Abs.Inv B []) ∧ (b = false → o = none) := by
  obtain ⟨k, h0, h1, h2, h3⟩ := h
  cases o with
  | some B => exact ⟨true, k, h3.1, h0, h1, h2, fun _ => ⟨B, rfl, h3.2.1, h3.2.2⟩, fun h => by cases h⟩
  | none => exact ⟨false, k, h3.1, h0, h1, h2, fun h => (by cases h), fun _ => rfl⟩
theorem kidsT_of {w : World} {N d : Nat} {sv : Value} {l : List T5} {ts : List Tm} (h : w.ownsRow N 36 5 sv l.length (flatC l)) (hl : l.length = ts.length) (hm : ts.length ≤ maxLen) (ht : ∀ (i : Nat) (x : Tm), ts[i]? = some x → ∃ t, l[i]? = some t ∧ IsT w d (t5v t) x) : KidsT w d sv ts := by
  obtain ⟨hfl, ⟨rfl, h0⟩ | ⟨g, cap, cur, rfl, hbg, hh, _, _, _, htk⟩⟩ := h
  · have : ts = [] := List.eq_nil_of_length_eq_zero (by omega)
    subst this
    exact ⟨none, 0, rfl, hm, fun i x h => by simp at h⟩
  · refine ⟨some ⟨g, 0, none⟩, cap, by rw [hl], hm, fun i x hx => ?_⟩
    obtain ⟨t, h1, h2⟩ := ht i x hx
    have hi : i < l.length := (List.getElem?_eq_some_iff.1 h1).1
    have hcell : ∀ j (hj : j < 5), w.cell? ⟨g, 0 + i * 5 + j, none⟩ = (flatC l)[i * 5 + j]? := fun j hj => by
      rw [hb_cell hh, ← htk, List.getElem?_take, if_pos (by omega), Array.getElem?_toList, Nat.zero_add]
    have hflat : ∀ j (hj : j < 5), (flatC l)[i * 5 + j]? = [Value.int .i64 t.1, .string t.2.1, .string t.2.2.1, .int .i64 t.2.2.2.1, t.2.2.2.2][j]? := fun j hj => by
      have e : l = l.take i ++ t :: l.drop (i + 1) := by
        have h4 := List.getElem?_eq_some_iff.1 h1
        rw [← h4.2, List.getElem_cons_drop, List.take_append_drop]
      rw [e]
      have e2 : flatC (l.take i ++ t :: l.drop (i + 1)) = flatC (l.take i) ++ ([Value.int .i64 t.1, .string t.2.1, .string t.2.2.1, .int .i64 t.2.2.2.1, t.2.2.2.2] ++ flatC (l.drop (i + 1))) := by simp [flatC]
      have e3 : (flatC (l.take i)).length = i * 5 := by rw [flatC_length, List.length_take]; omega
      rw [e2, List.getElem?_append_right (by omega), e3, List.getElem?_append_left (by simp; omega)]
      congr 1
      omega
    have c0 := (hcell 0 (by omega)).trans (hflat 0 (by omega))
    have c1 := (hcell 1 (by omega)).trans (hflat 1 (by omega))
    have c2 := (hcell 2 (by omega)).trans (hflat 2 (by omega))
    have c3 := (hcell 3 (by omega)).trans (hflat 3 (by omega))
    have c4 := (hcell 4 (by omega)).trans (hflat 4 (by omega))
    exact ⟨g, 0, t.1, t.2.1, t.2.2.1, t.2.2.2.1, t.2.2.2.2, rfl, ⟨c0, c1, c2, c3, c4⟩, h2⟩
theorem St.toA {c : Cfg} {A : Abs} {w : World} (h : St c A w) : StA (fun _ => False) c A w := by
  obtain ⟨v, L, rk, h1, h2, h3⟩ := h
  exact ⟨v, L, rk, h1, h2, h3, fun x _ _ g o n cc _ hf => hf⟩
theorem step_imput {ops : Array Oper} {o : Oper} {a : Act} {w : World} {K : Act → World → Prop} {Q : Exit → Act → World → Prop} {E : Prop} {M n : Nat} {g : Int → Option Int} (hgd : o.guard = none) (m x v : Operand) (hop : o.op = Op.mapUpdate 84 m x v) (hm : a.eval m = .map (some M)) (h : IMap w M n g) (hn : n < maxLen) (s : Int) (hx : a.eval x = .int .i64 s) (hs : (Lit.int .i64 s).wf = true)
    (y : Int) (hy : (Lit.int .i64 y).wf = true) (hv : a.eval v = .int .i64 y) (hK : ∀ w', IMap w' M (n + 1) (fun t => if t = s then some y else g t) → w.mapTurned w' M → K (a.put o.dst undef) w') : if Region.wanted o (yielded ops a.tmps) = true then Oper.wp Tryd.prog o a w K Q else E := by
  have hw : Region.wanted o (yielded ops a.tmps) = true := by simp [Region.wanted, hgd]
  rw [if_pos hw]
  obtain ⟨w', hrun, h1, h2⟩ := h.put hn s hs y hy
  unfold Oper.wp
  simp [execOp, hop, hm, hx, hv, hrun, Result.andThen]
  exact hK w' h1 h2
/-- What newSolver answers. -/
def NslQ (w : World) (d : Nat) (E : List (Tm × Tm)) (e : Ending) (w' : World) : Prop :=
  Below w.heap.size w w' ∧ ((e = .returned (.tuple #[.pointer none, .int .i64 15]) ∧ ¬ ∃ τ, SolE E τ) ∨
    (e = .returned (.tuple #[.pointer (some ⟨w.heap.size + 1 + 1, 0, none⟩), .int .i64 0]) ∧ ∃ (c : Cfg) (A : Abs) (l : List Inf) (ρ : ByteArray → Option Nat) (sd : List (Nat × Nat)) (sv nv : Value), c.B = w.heap.size + 1 + 1 ∧ c.b0 = w.heap.size ∧ SV (fun _ => False) c w.heap.size A (nmsE d E) ρ sv nv w.heap.size (w.heap.size + 1) w' ∧
      PRow w.heap.size w' sv (sd.map fun s => (((s.1 : Nat) : Int), ((s.2 : Nat) : Int))) ∧ Abs.Tab l (nmsE d E) ρ ∧ Abs.Eqs l ρ sd E ∧ Abs.Wf l ∧ (∀ (i : Nat) (x : Inf), l[i]? = some x → x.k ≠ 5) ∧ Abs.Inv A [] ∧ A.l = l ∧ A.Erl ∧ (∀ θ, A.Mod θ ↔ (Abs.flat l).Mod θ ∧ ∀ s ∈ sd, θ s.1 = θ s.2) ∧
      ((∀ x ∈ l, x.p.size ≤ maxLen ∧ x.n.size ≤ maxLen ∧ x.kids.length ≤ 50000) ∧ ∀ n ∈ nmsE d E, n.size ≤ maxLen)))
/-- Equations' sides are made the same, so far. -/
structure US (w W0 : World) (sv : Value) (l : List Inf) (sd : List (Nat × Nat)) (j : Nat) (A : Abs) (kk : Int) (wr : World) : Prop where
  st : St { cfgN w sv with wks := kk } A wr
  inv : Abs.Inv A []
  lA : A.l = l
  erl : A.Erl
  sem : ∀ θ, A.Mod θ ↔ (Abs.flat l).Mod θ ∧ ∀ s ∈ sd.take j, θ s.1 = θ s.2
  k0 : 0 ≤ kk
  k1 : kk ≤ (j : Int) * ((l.length : Int) + 1)
  kp : Kp (cfgN w sv) W0 wr
theorem all2_snoc {α β : Type} {R S : α → β → Prop} {l : List α} {m : List β} {a : α} {b : β} (h : Abs.All2 R l m) (hRS : ∀ a b, R a b → S a b) (h2 : S a b) : Abs.All2 S (l ++ [a]) (m ++ [b]) := by
  induction h with
  | nil => exact .cons h2 .nil
  | cons h1 _ ih => exact .cons (hRS _ _ h1) ih
theorem IMap.le {w : World} {M n m : Nat} {g : Int → Option Int} (h : IMap w M n g) (hm : n ≤ m) : IMap w M m g := by
  obtain ⟨D, ⟨es, clock, h1, h2, h3, h4⟩, h5⟩ := h
  exact ⟨D, ⟨es, clock, h1, h2, Nat.le_trans h3 hm, h4⟩, h5⟩
theorem IMap.grown {w w' : World} {M n : Nat} {g : Int → Option Int} {row : Option Nat} (h : IMap w M n g) (hg : w.grownBy w' row) {T : TypeId} (hr : ∀ b, row = some b → ∃ cs, w.heap[b]? = some (.cells cs T (0, 0))) : IMap w' M n g := by
  obtain ⟨es, cl, hm⟩ := h.heap
  refine h.same ?_
  rw [hm]
  refine hb_grown hm hg (fun e => ?_)
  obtain ⟨cs, h2⟩ := hr _ e.symm
  rw [hm] at h2
  cases h2
theorem ns_next {w wr W7 : World} {E : List (Tm × Tm)} {d j : Nat} {l l2 l3 : List Inf} {ρ ρ2 ρ3 : ByteArray → Option Nat} {sd : List (Nat × Nat)} {sv sv' : Value} {qt : Option Addr} {ct : Nat} {ts : List T5} {x : Tm × Tm} {ia ib : Nat} (hS : NS w (E.take j) d l ρ sd sv (.slice qt ts.length ct) ts wr) (hx : E[j]? = some x) (htot : tot d E ≤ 1000)
    (his : IS (cfgN w sv') (w.heap.size + 1 + 1 + 1) w.heap.size (fun _ => False) l3 (varsT d (varsT d (nmsE d (E.take j)) x.1) x.2) ρ3 W7) (hpl : IMap W7 (w.heap.size + 1) 0 fun _ => none) (hsd : PRow w.heap.size W7 sv' ((sd.map fun s => (((s.1 : Nat) : Int), ((s.2 : Nat) : Int))) ++ [(((ia : Nat) : Int), ((ib : Nat) : Int))])) (hte : W7.ownsRow w.heap.size 36 5 (.slice qt ts.length ct) ts.length (flatC ts)) (hbel : Below w.heap.size w W7)
    (g3 : Grew l l2 ρ ρ2 ∧ Abs.wt l2 + 1 ≤ Abs.wt l + 2 * tszN d x.1 ∧ l2.length ≤ l.length + tszN d x.1 ∧ ia < l2.length ∧ Abs.Repr (Abs.flat l2) ρ2 ia x.1) (e3 : Grew l2 l3 ρ2 ρ3 ∧ Abs.wt l3 + 1 ≤ Abs.wt l2 + 2 * tszN d x.2 ∧ l3.length ≤ l2.length + tszN d x.2 ∧ ib < l3.length ∧ Abs.Repr (Abs.flat l3) ρ3 ib x.2)
    {k I k' I' : Int} {p n p' n' : ByteArray} {q q' : Option Addr} {ln cc ln' cc' : Nat} (hi1 : IsT w d (tv k p n I (.slice q ln cc)) x.1) (hi2 : IsT w d (tv k' p' n' I' (.slice q' ln' cc')) x.2) (hel : E.length ≤ 1000) :
    ∃ q8 c8 w8, (Builtin.append_ #[34, 34] 34 #[.slice qt ts.length ct, .slice (some ⟨W7.heap.size, 0, none⟩) 2 2]).run Tryd.prog (W7.alloc (.cells #[.int .i64 k, .string p, .string n, .int .i64 I, .slice q ln cc, .int .i64 k', .string p', .string n', .int .i64 I', .slice q' ln' cc'] 36)) = .ok (.slice q8 (ts.length + 2) c8) w8 ∧ InP w E d (j + 1) (.slice q8 (ts.length + 2) c8) w8 := by
  have hjl := (List.getElem?_eq_some_iff.1 hx).1
  have htl : ts.length ≤ 2000 := by rw [hS.tlen, two_len, List.length_take]; omega
  obtain ⟨v8, w8, hrun, hrow, hg⟩ := append_tt hte (by have := hbel.size; omega) (k := k) (p := p) (n := n) (N := I) (q := q) (ln := ln) (c := cc) (k' := k') (p' := p') (n' := n') (N' := I') (q' := q') (ln' := ln') (c' := cc') (by omega)
  have hsh : ∃ q8 c8, v8 = .slice q8 (ts.length + 2) c8 := by
    rcases hrow.2 with ⟨_, h0⟩ | ⟨g', cap, cur, rfl, _⟩
    · rw [List.length_append] at h0; simp at h0
    · exact ⟨_, _, by rw [List.length_append]; rfl⟩
  obtain ⟨q8, c8, rfl⟩ := hsh
  have htk : E.take (j + 1) = E.take j ++ [x] := by rw [List.take_add_one, hx]; rfl
  have hba := below_alloc W7 (.cells #[.int .i64 k, .string p, .string n, .int .i64 I, .slice q ln cc, .int .i64 k', .string p', .string n', .int .i64 I', .slice q' ln' cc'] 36)
  have hbk : ∀ g, (Value.slice qt ts.length ct).ownBlock = some g → w.heap.size ≤ g ∧ ∃ cs, (W7.alloc (.cells #[.int .i64 k, .string p, .string n, .int .i64 I, .slice q ln cc, .int .i64 k', .string p', .string n', .int .i64 I', .slice q' ln' cc'] 36)).heap[g]? = some (.cells cs 36 (0, 0)) := fun g hg => by
    obtain ⟨h1, cs, h2⟩ := own_blk hte g hg
    exact ⟨h1, cs, hb_alloc h2 _⟩
  have hB := his.blkN
  refine ⟨q8, c8, w8, hrun, l3, ρ3, sd ++ [(ia, ib)], sv', ts ++ [(k, p, n, I, .slice q ln cc), (k', p', n', I', .slice q' ln' cc')], ?_⟩
  rw [htk]
  refine ⟨?_, (hpl.below hba).grown hg (fun b hb => (hbk b hb).2), ?_, ?_, ?_, fun i y hy => ?_, ?_, ?_, ?_, ?_⟩
  · rw [nmsE_snoc]
    exact (his.below hba).grown hg (T := 36) ⟨by decide, by decide, by decide⟩ (fun g hg => ⟨fun e => by obtain ⟨cb, hB⟩ := hB; obtain ⟨_, cs', h2⟩ := hbk g hg; exact type_ne (hb_alloc hB _) h2 (by decide) e.symm, (hbk g hg).2⟩)
  · rw [List.map_append]
    refine own_kept hsd fun b y hb hy => ?_
    obtain ⟨_, cs, h2⟩ := own_blk hsd b hb
    exact hb_grown (hb_alloc hy _) hg (fun e => by obtain ⟨_, cs', h3⟩ := hbk b e.symm; exact type_ne (hb_alloc h2 _) h3 (by decide) rfl)
  · have : (ts ++ [(k, p, n, I, Value.slice q ln cc), (k', p', n', I', Value.slice q' ln' cc')]).length = ts.length + 2 := by rw [List.length_append]; rfl
    rw [this] at hrow ⊢
    exact hrow
  · rw [two_app, List.length_append, List.length_append, hS.tlen]; rfl
  · rw [two_app, List.getElem?_append] at hy
    split at hy
    · rename_i hlt
      obtain ⟨t, e1, e2⟩ := hS.trm i y hy
      exact ⟨t, by rw [List.getElem?_append_left (by rw [hS.tlen]; exact hlt)]; exact e1, e2⟩
    · rename_i hlt
      have hi : ts.length ≤ i := by rw [hS.tlen]; omega
      rw [List.getElem?_append_right hi, hS.tlen]
      generalize i - (two (E.take j)).length = m at hy ⊢
      match m, hy with
      | 0, hy => obtain rfl := Option.some.inj hy; exact ⟨_, rfl, hi1⟩
      | 1, hy => obtain rfl := Option.some.inj hy; exact ⟨_, rfl, hi2⟩
      | m + 2, hy => simp [two] at hy
  · refine all2_snoc hS.eqs (fun a b h => ?_) ?_
    · obtain ⟨⟨h1, h2⟩, h3, h4⟩ := h
      have hg13 := g3.1.trans e3.1
      have := hg13.len
      exact ⟨⟨hg13.repr h1, by omega⟩, hg13.repr h3, by omega⟩
    · have := e3.1.len
      exact ⟨⟨e3.1.repr g3.2.2.2.2, by have := g3.2.2.2.1; show ia < l3.length; omega⟩, e3.2.2.2.2, e3.2.2.2.1⟩
  · rw [tot_app, tot_one]
    have := hS.wt; have := g3.2.1; have := e3.2.1
    omega
  · rw [tot_app, tot_one]
    have := hS.ln; have := g3.2.2.1; have := e3.2.2.1
    omega
  · exact (hbel.trans (hba.mono hbel.size)).grown hg (by have := hbel.size; simp; omega) (fun g hg => (hbk g hg).1)
set_option maxRecDepth 100000 in
set_option maxHeartbeats 4000000 in
theorem newSolver_any (w : World) (d : Nat) (v : Value) (E : List (Tm × Tm)) (hE : EqAt w d v E) (hT : ∀ x ∈ E, Typ x.1 ∧ Typ x.2) (htot : tot d E ≤ 1000) (hel : E.length ≤ 1000) :
    Calls Tryd.prog 40 #[v] w (NslQ w d E) := by
  obtain ⟨W1, hW1, hns⟩ := ns_start w d
  obtain ⟨qe, ce, rfl, hq⟩ := hE
  have HE := Lib.hid (⟨qe, ce, rfl, hq⟩ : EqAt w d (.slice qe E.length ce) E)
  have HT := Lib.hid hT
  have hst : InP w E d 0 (.slice none 0 0) W1 := ⟨_, _, _, _, _, hns⟩
  have HST := Lib.hid hst
  clear hst hns hT hq
  go_enter Tryd.func40, Tryd.ntmps40
  have hmm := @run_makeMap Tryd.prog
  go_upto_region 4 with (fail)
  clear hmm
  rw [show ((((w.alloc (.map #[] 0)).alloc (.map #[] 0)).alloc (.cells #[.slice none 0 0, .int .i64 9223372036854775807, .bool true, .bool false, .int .i64 0, .slice none 0 0, .slice none 0 0, .map (some w.heap.size), .map (some (w.heap.size + 1))] 86)).alloc (.cells #[.pointer (some ⟨w.heap.size + 1 + 1, 0, none⟩)] 68)) = W1 from hW1.symm]
  clear hW1
  go_wp2
  go_loopw [6, 21] (fun tv' t wr => ∃ j : Nat, t = .int .i64 (j : Nat) ∧ j ≤ E.length ∧ InP w E d j tv' wr) (fun _ t _ => E.length - (intOf t).toNat)
  case atStart => exact ⟨0, rfl, Nat.zero_le _, HST.out⟩
  case round =>
    obtain ⟨j, rfl, hjl, l, ρ, sd, sv, ts, hS⟩ := hrel
    have hut : ∃ q c, u6 = .slice q ts.length c := by
      rcases hS.terms.2 with ⟨rfl, h0⟩ | ⟨g', cap, cur, rfl, _⟩
      · exact ⟨none, 0, by rw [h0]⟩
      · exact ⟨_, _, rfl⟩
    obtain ⟨qt, ct, rfl⟩ := hut
    have HS := Lib.hid hS
    by_cases hlt : j < E.length
    · have hki : (j : Int) < (E.length : Int) := by omega
      obtain ⟨x, hx⟩ : ∃ x, E[j]? = some x := ⟨_, List.getElem?_eq_getElem hlt⟩
      obtain ⟨_, _, e5, hq⟩ := HE.out
      injection e5 with e6 _ e7
      subst e6 e7
      obtain ⟨g, o, k, p, n, I, s1, k', p', n', I', s2, rfl, ⟨ht1, hi1⟩, ht2, hi2⟩ := hq j x hx
      obtain ⟨q, ln, cc, rfl⟩ := hi1.spell
      obtain ⟨q', ln', cc', rfl⟩ := hi2.spell
      obtain ⟨t0, t1, t2, t3, t4⟩ := ht1.below hS.bel ht1.lt
      obtain ⟨t5, t6, t7, t8, t9⟩ := ht2.below hS.bel ht2.lt
      have t6 : wr.cell? ⟨g, o + j * 10 + 6, none⟩ = _ := t6
      have t7 : wr.cell? ⟨g, o + j * 10 + 7, none⟩ = _ := t7
      have t8 : wr.cell? ⟨g, o + j * 10 + 8, none⟩ = _ := t8
      have t9 : wr.cell? ⟨g, o + j * 10 + 9, none⟩ = _ := t9
      have htk : E.take (j + 1) = E.take j ++ [x] := by rw [List.take_add_one, hx]; rfl
      have htot1 : tot d (E.take (j + 1)) ≤ tot d E := by
        have e : tot d E = tot d (E.take (j + 1)) + tot d (E.drop (j + 1)) := by rw [← tot_app, List.take_append_drop]
        omega
      have htot2 : tot d (E.take (j + 1)) = tot d (E.take j) + (tszN d x.1 + tszN d x.2) := by rw [htk, tot_app, tot_one]
      have hln := hS.ln
      have hsr := hS.bel.size
      have hisz := hS.is.sz
      have hty := HT.out x (List.mem_of_getElem? hx)
      have hb7 := (below_alloc wr (.cells #[.int .i64 k, .string p, .string n, .int .i64 I, .slice q ln cc, .int .i64 k', .string p', .string n', .int .i64 I', .slice q' ln' cc'] 43)).drew
      have hbx7 := hb_new wr (.cells #[.int .i64 k, .string p, .string n, .int .i64 I, .slice q ln cc, .int .i64 k', .string p', .string n', .int .i64 I', .slice q' ln' cc'] 43)
      have HIA := Lib.hid (import_N d (tv k p n I (.slice q ln cc)) x.1 l (nmsE d (E.take j)) ρ _ (hS.is.below hb7) (hS.bel.trans (hb7.mono hS.bel.size)) hi1 hty.1 (by omega))
      have HIB := Lib.hid fun (W : World) (l2 : List Inf) (ns2 : List ByteArray) (ρ2 : ByteArray → Option Nat) (hW : IS (cfgN w sv) (w.heap.size + 1 + 1 + 1) w.heap.size (fun _ => False) l2 ns2 ρ2 W) (hbW : Below w.heap.size w W) (hlen : l2.length + tszN d x.2 ≤ 50000) => import_N d (tv k' p' n' I' (.slice q' ln' cc')) x.2 l2 ns2 ρ2 W hW hbW hi2 hty.2 hlen
      obtain ⟨c5, c7, c8, cf, c6⟩ := hS.is.b7N
      have hbxc := hb_at (hb_below hS.is.boxN hb7 (hb_lt hS.is.box)) 0 rfl
      have hB7 := hb7
      have c57 := keep_cell hb7 c5
      have c77 := keep_cell hb7 c7
      have HB7 := Lib.hid hb7
      have HBX7 := Lib.hid hbx7
      have HTK := Lib.hid htk
      have HTOT1 := Lib.hid htot1
      have HTOT2 := Lib.hid htot2
      have HXX := Lib.hid hx
      have HI1 := Lib.hid hi1
      have HI2 := Lib.hid hi2
      obtain ⟨qs, cs, hsv, _, _⟩ := hS.sides.shape
      rw [List.length_map] at hsv
      subst hsv
      clear hS hq ht1 hi1 ht2 hi2 hb7 hB7 htk htot1 htot2 hty cf c8 c6 c5 c7 hx
      go_upto_region 7 with (fail)
      refine wp_region_held_drew (S := (fun w' => w'.cell? ⟨w.heap.size + 1 + 1 + 1, 0, none⟩ = some (.pointer (some ⟨w.heap.size + 1 + 1, 0, none⟩)) ∧ w'.cell? ⟨w.heap.size + 1 + 1, 7, none⟩ = some (.map (some w.heap.size)) ∧ w'.cell? ⟨wr.heap.size, 0, none⟩ = some (.int .i64 k) ∧ w'.cell? ⟨wr.heap.size, 1, none⟩ = some (.string p) ∧ w'.cell? ⟨wr.heap.size, 2, none⟩ = some (.string n) ∧ w'.cell? ⟨wr.heap.size, 3, none⟩ = some (.int .i64 I) ∧ w'.cell? ⟨wr.heap.size, 4, none⟩ = some (.slice q ln cc) ∧ w'.cell? ⟨wr.heap.size, 5, none⟩ = some (.int .i64 k') ∧ w'.cell? ⟨wr.heap.size, 6, none⟩ = some (.string p') ∧ w'.cell? ⟨wr.heap.size, 7, none⟩ = some (.string n') ∧ w'.cell? ⟨wr.heap.size, 8, none⟩ = some (.int .i64 I') ∧ w'.cell? ⟨wr.heap.size, 9, none⟩ = some (.slice q' ln' cc'))) (by kernel_rfl) (by exact ⟨hbxc, c77, hb_at (HBX7.out) 0 rfl, hb_at (HBX7.out) 1 rfl, hb_at (HBX7.out) 2 rfl, hb_at (HBX7.out) 3 rfl, hb_at (HBX7.out) 4 rfl, hb_at (HBX7.out) 5 rfl, hb_at (HBX7.out) 6 rfl, hb_at (HBX7.out) 7 rfl, hb_at (HBX7.out) 8 rfl, hb_at (HBX7.out) 9 rfl⟩) (fun hHeld => ?_)
      refine wpAnyH_take (i := 0) (oi := ⟨some 25, _, _, _, _, _⟩) (v := ?_) rfl (by kernel_rfl) (by kernel_rfl) (by kernel_rfl) (fun _ _ _ h => h) (Or.inl ⟨by rfl, ?_⟩) (by assumption) ?_
      rotate_left
      focus (intro w hSw; (try dsimp only at hSw); go_simp; first | done | with_reducible rfl)
      try simp only [Act.put, List.setIfInBounds_toArray, List.set_cons_zero, List.set_cons_succ]
      refine wpAnyH_take (i := 1) (oi := ⟨some 26, _, _, _, _, _⟩) (v := ?_) rfl (by kernel_rfl) (by kernel_rfl) (by kernel_rfl) (fun _ _ _ h => h) (Or.inl ⟨by rfl, ?_⟩) (by assumption) ?_
      rotate_left
      focus (intro w hSw; (try dsimp only at hSw); go_simp; first | done | with_reducible rfl)
      try simp only [Act.put, List.setIfInBounds_toArray, List.set_cons_zero, List.set_cons_succ]
      refine wpAnyH_take (i := 2) (oi := ⟨some 27, _, _, _, _, _⟩) (v := ?_) rfl (by kernel_rfl) (by kernel_rfl) (by kernel_rfl) (fun _ _ _ h => h) (Or.inl ⟨by rfl, ?_⟩) (by assumption) ?_
      rotate_left
      focus (intro w hSw; (try dsimp only at hSw); go_simp; first | done | with_reducible rfl)
      try simp only [Act.put, List.setIfInBounds_toArray, List.set_cons_zero, List.set_cons_succ]
      refine wpAnyH_take (i := 3) (oi := ⟨some 28, _, _, _, _, _⟩) (v := ?_) rfl (by kernel_rfl) (by kernel_rfl) (by kernel_rfl) (fun _ _ _ h => h) (Or.inl ⟨by rfl, ?_⟩) (by assumption) ?_
      rotate_left
      focus (intro w hSw; (try dsimp only at hSw); go_simp; first | done | with_reducible rfl)
      try simp only [Act.put, List.setIfInBounds_toArray, List.set_cons_zero, List.set_cons_succ]
      refine wpAnyH_take (i := 5) (oi := ⟨some 30, _, _, _, _, _⟩) (v := ?_) rfl (by kernel_rfl) (by kernel_rfl) (by kernel_rfl) (fun _ _ _ h => h) (Or.inl ⟨by rfl, ?_⟩) (by assumption) ?_
      rotate_left
      focus (intro w hSw; (try dsimp only at hSw); go_simp; first | done | with_reducible rfl)
      try simp only [Act.put, List.setIfInBounds_toArray, List.set_cons_zero, List.set_cons_succ]
      refine wpAnyH_take (i := 6) (oi := ⟨some 31, _, _, _, _, _⟩) (v := ?_) rfl (by kernel_rfl) (by kernel_rfl) (by kernel_rfl) (fun _ _ _ h => h) (Or.inl ⟨by rfl, ?_⟩) (by assumption) ?_
      rotate_left
      focus (intro w hSw; (try dsimp only at hSw); go_simp; first | done | with_reducible rfl)
      try simp only [Act.put, List.setIfInBounds_toArray, List.set_cons_zero, List.set_cons_succ]
      refine wpAnyH_take (i := 7) (oi := ⟨some 32, _, _, _, _, _⟩) (v := ?_) rfl (by kernel_rfl) (by kernel_rfl) (by kernel_rfl) (fun _ _ _ h => h) (Or.inl ⟨by rfl, ?_⟩) (by assumption) ?_
      rotate_left
      focus (intro w hSw; (try dsimp only at hSw); go_simp; first | done | with_reducible rfl)
      try simp only [Act.put, List.setIfInBounds_toArray, List.set_cons_zero, List.set_cons_succ]
      refine wpAnyH_take (i := 8) (oi := ⟨some 33, _, _, _, _, _⟩) (v := ?_) rfl (by kernel_rfl) (by kernel_rfl) (by kernel_rfl) (fun _ _ _ h => h) (Or.inl ⟨by rfl, ?_⟩) (by assumption) ?_
      rotate_left
      focus (intro w hSw; (try dsimp only at hSw); go_simp; first | done | with_reducible rfl)
      try simp only [Act.put, List.setIfInBounds_toArray, List.set_cons_zero, List.set_cons_succ]
      refine wpAnyH_take (i := 9) (oi := ⟨some 34, _, _, _, _, _⟩) (v := ?_) rfl (by kernel_rfl) (by kernel_rfl) (by kernel_rfl) (fun _ _ _ h => h) (Or.inl ⟨by rfl, ?_⟩) (by assumption) ?_
      rotate_left
      focus (intro w hSw; (try dsimp only at hSw); go_simp; first | done | with_reducible rfl)
      try simp only [Act.put, List.setIfInBounds_toArray, List.set_cons_zero, List.set_cons_succ]
      refine wpAnyH_take (i := 10) (oi := ⟨some 35, _, _, _, _, _⟩) (v := ?_) rfl (by kernel_rfl) (by kernel_rfl) (by kernel_rfl) (fun _ _ _ h => h) (Or.inl ⟨by rfl, ?_⟩) (by assumption) ?_
      rotate_left
      focus (intro w hSw; (try dsimp only at hSw); go_simp; first | done | with_reducible rfl)
      try simp only [Act.put, List.setIfInBounds_toArray, List.set_cons_zero, List.set_cons_succ]
      refine wpAnyH_take (i := 11) (oi := ⟨some 36, _, _, _, _, _⟩) (v := ?_) rfl (by kernel_rfl) (by kernel_rfl) (by kernel_rfl) (fun _ _ _ h => h) (Or.inl ⟨by rfl, ?_⟩) (by assumption) ?_
      rotate_left
      focus (intro w hSw; (try dsimp only at hSw); go_simp; first | done | with_reducible rfl)
      try simp only [Act.put, List.setIfInBounds_toArray, List.set_cons_zero, List.set_cons_succ]
      refine wpAnyH_take (i := 12) (oi := ⟨some 37, _, _, _, _, _⟩) (v := ?_) rfl (by kernel_rfl) (by kernel_rfl) (by kernel_rfl) (fun _ _ _ h => h) (Or.inl ⟨by rfl, ?_⟩) (by assumption) ?_
      rotate_left
      focus (intro w hSw; (try dsimp only at hSw); go_simp; first | done | with_reducible rfl)
      try simp only [Act.put, List.setIfInBounds_toArray, List.set_cons_zero, List.set_cons_succ]
      refine wpAnyH_take (i := 13) (oi := ⟨some 38, _, _, _, _, _⟩) (v := ?_) rfl (by kernel_rfl) (by kernel_rfl) (by kernel_rfl) (fun _ _ _ h => h) (Or.inl ⟨by rfl, ?_⟩) (by assumption) ?_
      rotate_left
      focus (intro w hSw; (try dsimp only at hSw); go_simp; first | done | with_reducible rfl)
      try simp only [Act.put, List.setIfInBounds_toArray, List.set_cons_zero, List.set_cons_succ]
      refine wpAnyH_take (i := 14) (oi := ⟨some 39, _, _, _, _, _⟩) (v := ?_) rfl (by kernel_rfl) (by kernel_rfl) (by kernel_rfl) (fun _ _ _ h => h) (Or.inl ⟨by rfl, ?_⟩) (by assumption) ?_
      rotate_left
      focus (intro w hSw; (try dsimp only at hSw); go_simp; first | done | with_reducible rfl)
      try simp only [Act.put, List.setIfInBounds_toArray, List.set_cons_zero, List.set_cons_succ]
      refine wpAnyH_take (i := 16) (oi := ⟨some 41, _, _, _, _, _⟩) (v := ?_) rfl (by kernel_rfl) (by kernel_rfl) (by kernel_rfl) (fun _ _ _ h => h) (Or.inl ⟨by rfl, ?_⟩) (by assumption) ?_
      rotate_left
      focus (intro w hSw; (try dsimp only at hSw); go_simp; first | done | with_reducible rfl)
      try simp only [Act.put, List.setIfInBounds_toArray, List.set_cons_zero, List.set_cons_succ]
      refine wpAnyH_take (i := 17) (oi := ⟨some 42, _, _, _, _, _⟩) (v := ?_) rfl (by kernel_rfl) (by kernel_rfl) (by kernel_rfl) (fun _ _ _ h => h) (Or.inl ⟨by rfl, ?_⟩) (by assumption) ?_
      rotate_left
      focus (intro w hSw; (try dsimp only at hSw); go_simp; first | done | with_reducible rfl)
      try simp only [Act.put, List.setIfInBounds_toArray, List.set_cons_zero, List.set_cons_succ]
      refine wpAnyH_take (i := 18) (oi := ⟨some 43, _, _, _, _, _⟩) (v := ?_) rfl (by kernel_rfl) (by kernel_rfl) (by kernel_rfl) (fun _ _ _ h => h) (Or.inl ⟨by rfl, ?_⟩) (by assumption) ?_
      rotate_left
      focus (intro w hSw; (try dsimp only at hSw); go_simp; first | done | with_reducible rfl)
      try simp only [Act.put, List.setIfInBounds_toArray, List.set_cons_zero, List.set_cons_succ]
      refine wpAnyH_take (i := 19) (oi := ⟨some 44, _, _, _, _, _⟩) (v := ?_) rfl (by kernel_rfl) (by kernel_rfl) (by kernel_rfl) (fun _ _ _ h => h) (Or.inl ⟨by rfl, ?_⟩) (by assumption) ?_
      rotate_left
      focus (intro w hSw; (try dsimp only at hSw); go_simp; first | done | with_reducible rfl)
      try simp only [Act.put, List.setIfInBounds_toArray, List.set_cons_zero, List.set_cons_succ]
      refine wpAnyH_take (i := 20) (oi := ⟨some 45, _, _, _, _, _⟩) (v := ?_) rfl (by kernel_rfl) (by kernel_rfl) (by kernel_rfl) (fun _ _ _ h => h) (Or.inl ⟨by rfl, ?_⟩) (by assumption) ?_
      rotate_left
      focus (intro w hSw; (try dsimp only at hSw); go_simp; first | done | with_reducible rfl)
      try simp only [Act.put, List.setIfInBounds_toArray, List.set_cons_zero, List.set_cons_succ]
      refine wpAnyH_take (i := 21) (oi := ⟨some 46, _, _, _, _, _⟩) (v := ?_) rfl (by kernel_rfl) (by kernel_rfl) (by kernel_rfl) (fun _ _ _ h => h) (Or.inl ⟨by rfl, ?_⟩) (by assumption) ?_
      rotate_left
      focus (intro w hSw; (try dsimp only at hSw); go_simp; first | done | with_reducible rfl)
      try simp only [Act.put, List.setIfInBounds_toArray, List.set_cons_zero, List.set_cons_succ]
      refine wpAnyH_take (i := 22) (oi := ⟨some 47, _, _, _, _, _⟩) (v := ?_) rfl (by kernel_rfl) (by kernel_rfl) (by kernel_rfl) (fun _ _ _ h => h) (Or.inl ⟨by rfl, ?_⟩) (by assumption) ?_
      rotate_left
      focus (intro w hSw; (try dsimp only at hSw); go_simp; first | done | with_reducible rfl)
      try simp only [Act.put, List.setIfInBounds_toArray, List.set_cons_zero, List.set_cons_succ]
      refine wpAnyH_take (i := 23) (oi := ⟨some 48, _, _, _, _, _⟩) (v := ?_) rfl (by kernel_rfl) (by kernel_rfl) (by kernel_rfl) (fun _ _ _ h => h) (Or.inl ⟨by rfl, ?_⟩) (by assumption) ?_
      rotate_left
      focus (intro w hSw; (try dsimp only at hSw); go_simp; first | done | with_reducible rfl)
      try simp only [Act.put, List.setIfInBounds_toArray, List.set_cons_zero, List.set_cons_succ]
      refine wpAnyH_take (i := 24) (oi := ⟨some 49, _, _, _, _, _⟩) (v := ?_) rfl (by kernel_rfl) (by kernel_rfl) (by kernel_rfl) (fun _ _ _ h => h) (Or.inl ⟨by rfl, ?_⟩) (by assumption) ?_
      rotate_left
      focus (intro w hSw; (try dsimp only at hSw); go_simp; first | done | with_reducible rfl)
      try simp only [Act.put, List.setIfInBounds_toArray, List.set_cons_zero, List.set_cons_succ]
      refine wpAnyH_take (i := 25) (oi := ⟨some 50, _, _, _, _, _⟩) (v := ?_) rfl (by kernel_rfl) (by kernel_rfl) (by kernel_rfl) (fun _ _ _ h => h) (Or.inl ⟨by rfl, ?_⟩) (by assumption) ?_
      rotate_left
      focus (intro w hSw; (try dsimp only at hSw); go_simp; first | done | with_reducible rfl)
      try simp only [Act.put, List.setIfInBounds_toArray, List.set_cons_zero, List.set_cons_succ]
      refine wpAnyH_ready (rs := [4, 15]) (by kernel_rfl) (by simp) ?_
      refine AllReadyH.cons (o := ⟨some 29, _, _, _, _, _⟩) rfl (fun K hK => ?_) (AllReadyH.cons (o := ⟨some 40, _, _, _, _, _⟩) rfl (fun K hK => ?_) AllReadyH.nil)
      · go_simp
        refine hK.out _ _ (by exact hHeld) (fun hNew => ?_)
        clear hK K
        clear hHeld; have hHeld := hNew; clear hNew
        try simp only [Act.put, List.setIfInBounds_toArray, List.set_cons_zero, List.set_cons_succ]
        refine wpAnyH_ready (rs := [15]) (by kernel_rfl) (by simp) ?_
        refine AllReadyH.cons (o := ⟨some 40, _, _, _, _, _⟩) rfl (fun K hK => ?_) AllReadyH.nil
        go_simp
        (with_reducible refine HIA.out.mono ?_); rintro e w4 ⟨ia, l2, ρ2, rfl, g1, g2, g3⟩; have hbx4 := g2.kept (w := (wr.alloc (.cells #[.int .i64 k, .string p, .string n, .int .i64 I, .slice q ln cc, .int .i64 k', .string p', .string n', .int .i64 I', .slice q' ln' cc'] 43)).drew) HBX7.out (by show wr.heap.size ≠ w.heap.size + 1 + 1; omega) (by omega) (by decide); obtain ⟨c54, c74, _, cf4, _⟩ := g1.b7N; have k4 := hb_at g1.boxN 0 rfl; have HBX4 := Lib.hid hbx4; have HBW4 := Lib.hid ((HS.out.bel.trans (HB7.out.mono HS.out.bel.size)).trans (show Below w.heap.size _ w4 from g2.below)); have G1 := Lib.hid g1; have G2 := Lib.hid g2; have G3 := Lib.hid g3; have hS4 := g2.size; clear g1 g2 g3 hbx4
        go_wp2_with fail
        refine hK.out _ _ (by exact ⟨k4, c74, hb_at (HBX4.out) 0 rfl, hb_at (HBX4.out) 1 rfl, hb_at (HBX4.out) 2 rfl, hb_at (HBX4.out) 3 rfl, hb_at (HBX4.out) 4 rfl, hb_at (HBX4.out) 5 rfl, hb_at (HBX4.out) 6 rfl, hb_at (HBX4.out) 7 rfl, hb_at (HBX4.out) 8 rfl, hb_at (HBX4.out) 9 rfl⟩) (fun hNew => ?_)
        clear hK K
        clear hHeld; have hHeld := hNew; clear hNew
        try simp only [Act.put, List.setIfInBounds_toArray, List.set_cons_zero, List.set_cons_succ]
        refine wpAnyH_ready (rs := [26]) (by kernel_rfl) (by simp) ?_
        refine AllReadyH.cons (o := ⟨some 51, _, _, _, _, _⟩) rfl (fun K hK => ?_) AllReadyH.nil
        go_simp
        (with_reducible refine (HIB.out w4 l2 _ ρ2 G1.out HBW4.out (by have h1 := G3.out.2.2.1; have := HTOT1.out; have := HTOT2.out; omega)).mono ?_); rintro e w5 ⟨ib, l3, ρ3, rfl, g1, g2, g3⟩; have hbx5 := g2.kept HBX4.out (by show wr.heap.size ≠ w.heap.size + 1 + 1; omega) (by omega) (by decide); obtain ⟨c55, c75, _, cf5, _⟩ := g1.b7N; have k5 := hb_at g1.boxN 0 rfl; have HBX5 := Lib.hid hbx5; have E1 := Lib.hid g1; have E2 := Lib.hid g2; have E3 := Lib.hid g3; have hS5 := g2.size; have hbB5 : w.heap.size + 1 + 1 < w5.heap.size := g1.sz.2.1; clear g1 g2 g3 hbx5
        go_wp2_with fail
        refine hK.out _ _ (by exact ⟨k5, c75, hb_at (HBX5.out) 0 rfl, hb_at (HBX5.out) 1 rfl, hb_at (HBX5.out) 2 rfl, hb_at (HBX5.out) 3 rfl, hb_at (HBX5.out) 4 rfl, hb_at (HBX5.out) 5 rfl, hb_at (HBX5.out) 6 rfl, hb_at (HBX5.out) 7 rfl, hb_at (HBX5.out) 8 rfl, hb_at (HBX5.out) 9 rfl⟩) (fun hNew => ?_)
        clear hK K
        clear hHeld; have hHeld := hNew; clear hNew
        try simp only [Act.put, List.setIfInBounds_toArray, List.set_cons_zero, List.set_cons_succ]
        refine wpAnyH_take (i := 27) (oi := ⟨some 52, _, _, _, _, _⟩) (v := ?_) rfl (by kernel_rfl) (by kernel_rfl) (by kernel_rfl) (fun _ _ _ h => h) (Or.inl ⟨by rfl, ?_⟩) (by assumption) ?_
        rotate_left
        focus (intro w hSw; (try dsimp only at hSw); go_simp; first | done | with_reducible rfl)
        try simp only [Act.put, List.setIfInBounds_toArray, List.set_cons_zero, List.set_cons_succ]
        refine wpAnyH_ready (rs := [28]) (by kernel_rfl) (by simp) ?_
        refine AllReadyH.cons (o := ⟨some 53, _, _, _, _, _⟩) rfl (fun K hK => ?_) AllReadyH.nil
        go_simp
        refine hK.out _ _ (by exact ⟨keep_cell (below_alloc _ _) hHeld.1, keep_cell (below_alloc _ _) hHeld.2.1, keep_cell (below_alloc _ _) hHeld.2.2.1, keep_cell (below_alloc _ _) hHeld.2.2.2.1, keep_cell (below_alloc _ _) hHeld.2.2.2.2.1, keep_cell (below_alloc _ _) hHeld.2.2.2.2.2.1, keep_cell (below_alloc _ _) hHeld.2.2.2.2.2.2.1, keep_cell (below_alloc _ _) hHeld.2.2.2.2.2.2.2.1, keep_cell (below_alloc _ _) hHeld.2.2.2.2.2.2.2.2.1, keep_cell (below_alloc _ _) hHeld.2.2.2.2.2.2.2.2.2.1, keep_cell (below_alloc _ _) hHeld.2.2.2.2.2.2.2.2.2.2.1, keep_cell (below_alloc _ _) hHeld.2.2.2.2.2.2.2.2.2.2.2⟩) (fun hNew => ?_)
        clear hK K
        clear hHeld; have hHeld := hNew; clear hNew
        try simp only [Act.put, List.setIfInBounds_toArray, List.set_cons_zero, List.set_cons_succ]
        refine wpAnyH_ready (rs := [29]) (by kernel_rfl) (by simp) ?_
        refine AllReadyH.cons (o := ⟨some 54, _, _, _, _, _⟩) rfl (fun K hK => ?_) AllReadyH.nil
        have hk57 : KpM (cfgN w (.slice qs sd.length cs)) w.heap.size wr w5 := (KpM.of_below (by show w.heap.size ≤ wr.heap.size; omega) HB7.out).trans (G2.out.trans E2.out)
        have hsd5 := own_kpN HS.out.sides hk57 ⟨by decide, by decide⟩ HS.out.is.blkN HS.out.is.map.heap
        obtain ⟨v6, w6, hrun, hsd6, hg6, _⟩ := PRow.app (w := w5.alloc (.cells #[.int .i64 (ia : Nat), .int .i64 (ib : Nat)] 78)) (t := (((ia : Nat) : Int), ((ib : Nat) : Int))) (g := w5.heap.size) (cc := 1) (own_kept hsd5 fun g x _ hx => hb_alloc hx _) (by simp; omega) (hb_at (hb_new w5 _) 0 rfl) (hb_at (hb_new w5 _) 1 rfl) (by rw [List.length_map]; have h1 := HS.out.eqs.len; rw [List.length_take] at h1; omega)
        obtain ⟨q6, c6, e6, _, _⟩ := hsd6.shape
        have e6' : v6 = .slice q6 (sd.length + 1) c6 := by rw [e6, List.length_append, List.length_map]; rfl
        clear e6
        subst e6'
        refine step_append rfl (.tmp 29) (.tmp 53) rfl rfl rfl rfl hrun ?_
        have hblk5 : ∀ g, (Value.slice qs sd.length cs).ownBlock = some g → w.heap.size ≤ g ∧ ∃ cs, (w5.alloc (.cells #[.int .i64 (ia : Nat), .int .i64 (ib : Nat)] 78)).heap[g]? = some (.cells cs 78 (0, 0)) := fun g hg => by
          obtain ⟨h1, cs, h2⟩ := own_blk hsd5 g hg
          exact ⟨h1, cs, hb_alloc h2 _⟩
        have hBB := E1.out.blkN
        have hne5 : ∀ {b : Nat} {cs : Array Value} {T : TypeId} {fr : Nat × Nat}, w5.heap[b]? = some (.cells cs T fr) → T ≠ 78 → w6.heap[b]? = some (.cells cs T fr) := fun hb hT => hb_grown (hb_alloc hb _) hg6 (fun e => by obtain ⟨_, cs', h2⟩ := hblk5 _ e.symm; exact type_ne (hb_alloc hb _) h2 hT rfl)
        have hbx6 := hne5 HBX5.out (by decide)
        have hb68 := hne5 E1.out.boxN (by decide)
        have his6 := (E1.out.below (below_alloc w5 (.cells #[.int .i64 (ia : Nat), .int .i64 (ib : Nat)] 78))).grown hg6 (T := 78) ⟨by decide, by decide, by decide⟩ (fun g hg => ⟨fun e => by obtain ⟨cb, hB⟩ := hBB; obtain ⟨_, cs', h2⟩ := hblk5 g hg; exact type_ne (hb_alloc hB _) h2 (by decide) e.symm, (hblk5 g hg).2⟩)
        obtain ⟨z5, z7, _, zf, _⟩ := his6.b7N
        have zf5 := zf 5
        have k6 := hb_at hb68 0 rfl
        have HIS6 := Lib.hid his6
        have HG6 := Lib.hid hg6
        have HSD6 := Lib.hid hsd6
        have HBX6 := Lib.hid hbx6
        have HB68 := Lib.hid hb68
        have HK57 := Lib.hid hk57
        have HBLK5 := Lib.hid hblk5
        have hkeep := (⟨k6, z7, hb_at (HBX6.out) 0 rfl, hb_at (HBX6.out) 1 rfl, hb_at (HBX6.out) 2 rfl, hb_at (HBX6.out) 3 rfl, hb_at (HBX6.out) 4 rfl, hb_at (HBX6.out) 5 rfl, hb_at (HBX6.out) 6 rfl, hb_at (HBX6.out) 7 rfl, hb_at (HBX6.out) 8 rfl, hb_at (HBX6.out) 9 rfl⟩ : _ ∧ _ ∧ _ ∧ _ ∧ _ ∧ _ ∧ _ ∧ _ ∧ _ ∧ _ ∧ _ ∧ _)
        have hBx : w.heap.size + 1 + 1 ≠ wr.heap.size := by omega
        have hkeep2 := (⟨hb_at (hb_set_other HB68.out (.slice q6 (sd.length + 1) c6) (a := ⟨w.heap.size + 1 + 1, 5, none⟩) (by show w.heap.size + 1 + 1 + 1 ≠ w.heap.size + 1 + 1; omega)) 0 rfl, (HIS6.out.rest5 (.slice q6 (sd.length + 1) c6)).b7N.2.1, hb_at (hb_set_other HBX6.out (.slice q6 (sd.length + 1) c6) (a := ⟨w.heap.size + 1 + 1, 5, none⟩) (by show wr.heap.size ≠ w.heap.size + 1 + 1; omega)) 0 rfl, hb_at (hb_set_other HBX6.out (.slice q6 (sd.length + 1) c6) (a := ⟨w.heap.size + 1 + 1, 5, none⟩) (by show wr.heap.size ≠ w.heap.size + 1 + 1; omega)) 1 rfl, hb_at (hb_set_other HBX6.out (.slice q6 (sd.length + 1) c6) (a := ⟨w.heap.size + 1 + 1, 5, none⟩) (by show wr.heap.size ≠ w.heap.size + 1 + 1; omega)) 2 rfl, hb_at (hb_set_other HBX6.out (.slice q6 (sd.length + 1) c6) (a := ⟨w.heap.size + 1 + 1, 5, none⟩) (by show wr.heap.size ≠ w.heap.size + 1 + 1; omega)) 3 rfl, hb_at (hb_set_other HBX6.out (.slice q6 (sd.length + 1) c6) (a := ⟨w.heap.size + 1 + 1, 5, none⟩) (by show wr.heap.size ≠ w.heap.size + 1 + 1; omega)) 4 rfl, hb_at (hb_set_other HBX6.out (.slice q6 (sd.length + 1) c6) (a := ⟨w.heap.size + 1 + 1, 5, none⟩) (by show wr.heap.size ≠ w.heap.size + 1 + 1; omega)) 5 rfl, hb_at (hb_set_other HBX6.out (.slice q6 (sd.length + 1) c6) (a := ⟨w.heap.size + 1 + 1, 5, none⟩) (by show wr.heap.size ≠ w.heap.size + 1 + 1; omega)) 6 rfl, hb_at (hb_set_other HBX6.out (.slice q6 (sd.length + 1) c6) (a := ⟨w.heap.size + 1 + 1, 5, none⟩) (by show wr.heap.size ≠ w.heap.size + 1 + 1; omega)) 7 rfl, hb_at (hb_set_other HBX6.out (.slice q6 (sd.length + 1) c6) (a := ⟨w.heap.size + 1 + 1, 5, none⟩) (by show wr.heap.size ≠ w.heap.size + 1 + 1; omega)) 8 rfl, hb_at (hb_set_other HBX6.out (.slice q6 (sd.length + 1) c6) (a := ⟨w.heap.size + 1 + 1, 5, none⟩) (by show wr.heap.size ≠ w.heap.size + 1 + 1; omega)) 9 rfl⟩ : _ ∧ _ ∧ _ ∧ _ ∧ _ ∧ _ ∧ _ ∧ _ ∧ _ ∧ _ ∧ _ ∧ _)
        clear hsd5 hrun hsd6 hg6 hblk5 hBB hne5 hbx6 hb68 his6 hk57 zf
        refine hK.out _ _ (by exact hkeep) (fun hNew => ?_)
        clear hK K
        clear hHeld; have hHeld := hNew; clear hNew
        try simp only [Act.put, List.setIfInBounds_toArray, List.set_cons_zero, List.set_cons_succ]
        refine wpAnyH_take (i := 30) (oi := ⟨some 55, _, _, _, _, _⟩) (v := ?_) rfl (by kernel_rfl) (by kernel_rfl) (by kernel_rfl) (fun _ _ _ h => h) (Or.inl ⟨by rfl, ?_⟩) (by assumption) ?_
        rotate_left
        focus (intro w hSw; (try dsimp only at hSw); go_simp; first | done | with_reducible rfl)
        try simp only [Act.put, List.setIfInBounds_toArray, List.set_cons_zero, List.set_cons_succ]
        refine wpAnyH_take (i := 31) (oi := ⟨some 56, _, _, _, _, _⟩) (v := ?_) rfl (by kernel_rfl) (by kernel_rfl) (by kernel_rfl) (fun _ _ _ h => h) (Or.inl ⟨by rfl, ?_⟩) (by assumption) ?_
        rotate_left
        focus (intro w hSw; (try dsimp only at hSw); go_simp; first | done | with_reducible rfl)
        try simp only [Act.put, List.setIfInBounds_toArray, List.set_cons_zero, List.set_cons_succ]
        refine wpAnyH_ready (rs := [32]) (by kernel_rfl) (by simp) ?_
        refine AllReadyH.cons (o := ⟨none, _, _, _, _, _⟩) rfl (fun K hK => ?_) AllReadyH.nil
        go_simp
        refine hK.out _ _ (by exact hkeep2) (fun hNew => ?_)
        clear hK K
        clear hHeld; have hHeld := hNew; clear hNew
        try simp only [Act.put, List.setIfInBounds_toArray, List.set_cons_zero, List.set_cons_succ]
        refine wpAnyH_done (by kernel_rfl) ?_ _
        obtain ⟨_, _, v0, v1, v2, v3, v4, v5, v6, v7, v8, v9⟩ := hHeld
        have hisF := HIS6.out.rest5 (.slice q6 (sd.length + 1) c6)
        have hB5 := E1.out.blkN
        have hB6 := HIS6.out.blkN
        have hset : ∀ (b : Nat) (ob : Obj), w6.heap[b]? = some ob → (∀ cs fr, ob ≠ .cells cs 86 fr) → (w6.setCell ⟨w.heap.size + 1 + 1, 5, none⟩ (.slice q6 (sd.length + 1) c6)).heap[b]? = some ob := fun b ob hb hne => hb_set_other hb _ (fun e => by obtain ⟨cs, h⟩ := hB6; have e : b = w.heap.size + 1 + 1 := e; rw [e] at hb; have h : w6.heap[w.heap.size + 1 + 1]? = _ := h; rw [h] at hb; exact hne _ _ (Option.some.inj hb).symm)
        have hsdF : PRow w.heap.size (w6.setCell ⟨w.heap.size + 1 + 1, 5, none⟩ (.slice q6 (sd.length + 1) c6)) (.slice q6 (sd.length + 1) c6) ((sd.map fun s => (((s.1 : Nat) : Int), ((s.2 : Nat) : Int))) ++ [(((ia : Nat) : Int), ((ib : Nat) : Int))]) := own_kept HSD6.out fun b y hb hy => by
          obtain ⟨_, cs, h2⟩ := own_blk HSD6.out b hb
          rw [h2] at hy
          cases hy
          exact hset b _ h2 (fun cs fr e => by injection e with _ e _; exact absurd e (by decide))
        have hte5 := own_kpN HS.out.terms HK57.out ⟨by decide, by decide⟩ HS.out.is.blkN HS.out.is.map.heap
        have hteF : (w6.setCell ⟨w.heap.size + 1 + 1, 5, none⟩ (.slice q6 (sd.length + 1) c6)).ownsRow w.heap.size 36 5 (.slice qt ts.length ct) ts.length (flatC ts) := own_kept hte5 fun b y hb hy => by
          obtain ⟨_, cs, h2⟩ := own_blk hte5 b hb
          rw [h2] at hy
          cases hy
          exact hset b _ (hb_grown (hb_alloc h2 _) HG6.out (fun e => by obtain ⟨_, cs', h3⟩ := HBLK5.out b e.symm; exact type_ne (hb_alloc h2 _) h3 (by decide) rfl)) (fun cs fr e => by injection e with _ e _; exact absurd e (by decide))
        have hplF : IMap (w6.setCell ⟨w.heap.size + 1 + 1, 5, none⟩ (.slice q6 (sd.length + 1) c6)) (w.heap.size + 1) 0 fun _ => none := by
          obtain ⟨es, cl, hm⟩ := HS.out.pl.heap
          have h1 := HK57.out.block _ _ hm (by show w.heap.size + 1 ≠ w.heap.size + 1 + 1; omega) (by omega) (fun cs fr e => by cases e)
          refine HS.out.pl.same ?_
          rw [hm]
          exact hset _ _ (hb_grown (hb_alloc h1 _) HG6.out (fun e => by obtain ⟨_, cs', h3⟩ := HBLK5.out _ e.symm; rw [hb_alloc h1 _] at h3; cases h3)) (fun cs fr e => by cases e)
        have hb57 : Below w.heap.size wr w5 := HK57.out.below
        have hbelF : Below w.heap.size w (w6.setCell ⟨w.heap.size + 1 + 1, 5, none⟩ (.slice q6 (sd.length + 1) c6)) := (((HS.out.bel.trans hb57).alloc (HS.out.bel.trans hb57).size _).grown HG6.out (by have := HS.out.bel.size; have := HK57.out.size; simp; omega) (fun b hb => (HBLK5.out b hb).1)).setCell (by show w.heap.size ≤ w.heap.size + 1 + 1; omega) _
        obtain ⟨q8, c8, w8, hrun8, hin8⟩ := ns_next HS.out HXX.out htot hisF hplF hsdF hteF hbelF G3.out E3.out HI1.out HI2.out hel
        have HRUN8 := Lib.hid hrun8
        have HIN8 := Lib.hid hin8
        clear hisF hB5 hB6 hset hsdF hte5 hteF hplF hb57 hbelF hrun8 hin8 hkeep hkeep2
        generalize w6.setCell ⟨w.heap.size + 1 + 1, 5, none⟩ (.slice q6 (sd.length + 1) c6) = W7 at *
        go_wp2_with ((at_builtin; refine (fun h : True → _ => h trivial) ?_))
        intro _
        refine wpList_app rfl _ _ rfl rfl rfl rfl HRUN8.out ?_
        go_wp2
        exact ⟨⟨j + 1, by go_num, by omega, HIN8.out⟩, by simp [intOf]; omega⟩
      · go_simp
        (with_reducible refine HIA.out.mono ?_); rintro e w4 ⟨ia, l2, ρ2, rfl, g1, g2, g3⟩; have hbx4 := g2.kept (w := (wr.alloc (.cells #[.int .i64 k, .string p, .string n, .int .i64 I, .slice q ln cc, .int .i64 k', .string p', .string n', .int .i64 I', .slice q' ln' cc'] 43)).drew) HBX7.out (by show wr.heap.size ≠ w.heap.size + 1 + 1; omega) (by omega) (by decide); obtain ⟨c54, c74, _, cf4, _⟩ := g1.b7N; have k4 := hb_at g1.boxN 0 rfl; have HBX4 := Lib.hid hbx4; have HBW4 := Lib.hid ((HS.out.bel.trans (HB7.out.mono HS.out.bel.size)).trans (show Below w.heap.size _ w4 from g2.below)); have G1 := Lib.hid g1; have G2 := Lib.hid g2; have G3 := Lib.hid g3; have hS4 := g2.size; clear g1 g2 g3 hbx4
        go_wp2_with fail
        refine hK.out _ _ (by exact ⟨k4, c74, hb_at (HBX4.out) 0 rfl, hb_at (HBX4.out) 1 rfl, hb_at (HBX4.out) 2 rfl, hb_at (HBX4.out) 3 rfl, hb_at (HBX4.out) 4 rfl, hb_at (HBX4.out) 5 rfl, hb_at (HBX4.out) 6 rfl, hb_at (HBX4.out) 7 rfl, hb_at (HBX4.out) 8 rfl, hb_at (HBX4.out) 9 rfl⟩) (fun hNew => ?_)
        clear hK K
        clear hHeld; have hHeld := hNew; clear hNew
        try simp only [Act.put, List.setIfInBounds_toArray, List.set_cons_zero, List.set_cons_succ]
        refine wpAnyH_ready (rs := [4, 26]) (by kernel_rfl) (by simp) ?_
        refine AllReadyH.cons (o := ⟨some 29, _, _, _, _, _⟩) rfl (fun K hK => ?_) (AllReadyH.cons (o := ⟨some 51, _, _, _, _, _⟩) rfl (fun K hK => ?_) AllReadyH.nil)
        · go_simp
          refine hK.out _ _ (by exact hHeld) (fun hNew => ?_)
          clear hK K
          clear hHeld; have hHeld := hNew; clear hNew
          try simp only [Act.put, List.setIfInBounds_toArray, List.set_cons_zero, List.set_cons_succ]
          refine wpAnyH_ready (rs := [26]) (by kernel_rfl) (by simp) ?_
          refine AllReadyH.cons (o := ⟨some 51, _, _, _, _, _⟩) rfl (fun K hK => ?_) AllReadyH.nil
          go_simp
          (with_reducible refine (HIB.out w4 l2 _ ρ2 G1.out HBW4.out (by have h1 := G3.out.2.2.1; have := HTOT1.out; have := HTOT2.out; omega)).mono ?_); rintro e w5 ⟨ib, l3, ρ3, rfl, g1, g2, g3⟩; have hbx5 := g2.kept HBX4.out (by show wr.heap.size ≠ w.heap.size + 1 + 1; omega) (by omega) (by decide); obtain ⟨c55, c75, _, cf5, _⟩ := g1.b7N; have k5 := hb_at g1.boxN 0 rfl; have HBX5 := Lib.hid hbx5; have E1 := Lib.hid g1; have E2 := Lib.hid g2; have E3 := Lib.hid g3; have hS5 := g2.size; have hbB5 : w.heap.size + 1 + 1 < w5.heap.size := g1.sz.2.1; clear g1 g2 g3 hbx5
          go_wp2_with fail
          refine hK.out _ _ (by exact ⟨k5, c75, hb_at (HBX5.out) 0 rfl, hb_at (HBX5.out) 1 rfl, hb_at (HBX5.out) 2 rfl, hb_at (HBX5.out) 3 rfl, hb_at (HBX5.out) 4 rfl, hb_at (HBX5.out) 5 rfl, hb_at (HBX5.out) 6 rfl, hb_at (HBX5.out) 7 rfl, hb_at (HBX5.out) 8 rfl, hb_at (HBX5.out) 9 rfl⟩) (fun hNew => ?_)
          clear hK K
          clear hHeld; have hHeld := hNew; clear hNew
          try simp only [Act.put, List.setIfInBounds_toArray, List.set_cons_zero, List.set_cons_succ]
          refine wpAnyH_take (i := 27) (oi := ⟨some 52, _, _, _, _, _⟩) (v := ?_) rfl (by kernel_rfl) (by kernel_rfl) (by kernel_rfl) (fun _ _ _ h => h) (Or.inl ⟨by rfl, ?_⟩) (by assumption) ?_
          rotate_left
          focus (intro w hSw; (try dsimp only at hSw); go_simp; first | done | with_reducible rfl)
          try simp only [Act.put, List.setIfInBounds_toArray, List.set_cons_zero, List.set_cons_succ]
          refine wpAnyH_ready (rs := [28]) (by kernel_rfl) (by simp) ?_
          refine AllReadyH.cons (o := ⟨some 53, _, _, _, _, _⟩) rfl (fun K hK => ?_) AllReadyH.nil
          go_simp
          refine hK.out _ _ (by exact ⟨keep_cell (below_alloc _ _) hHeld.1, keep_cell (below_alloc _ _) hHeld.2.1, keep_cell (below_alloc _ _) hHeld.2.2.1, keep_cell (below_alloc _ _) hHeld.2.2.2.1, keep_cell (below_alloc _ _) hHeld.2.2.2.2.1, keep_cell (below_alloc _ _) hHeld.2.2.2.2.2.1, keep_cell (below_alloc _ _) hHeld.2.2.2.2.2.2.1, keep_cell (below_alloc _ _) hHeld.2.2.2.2.2.2.2.1, keep_cell (below_alloc _ _) hHeld.2.2.2.2.2.2.2.2.1, keep_cell (below_alloc _ _) hHeld.2.2.2.2.2.2.2.2.2.1, keep_cell (below_alloc _ _) hHeld.2.2.2.2.2.2.2.2.2.2.1, keep_cell (below_alloc _ _) hHeld.2.2.2.2.2.2.2.2.2.2.2⟩) (fun hNew => ?_)
          clear hK K
          clear hHeld; have hHeld := hNew; clear hNew
          try simp only [Act.put, List.setIfInBounds_toArray, List.set_cons_zero, List.set_cons_succ]
          refine wpAnyH_ready (rs := [29]) (by kernel_rfl) (by simp) ?_
          refine AllReadyH.cons (o := ⟨some 54, _, _, _, _, _⟩) rfl (fun K hK => ?_) AllReadyH.nil
          have hk57 : KpM (cfgN w (.slice qs sd.length cs)) w.heap.size wr w5 := (KpM.of_below (by show w.heap.size ≤ wr.heap.size; omega) HB7.out).trans (G2.out.trans E2.out)
          have hsd5 := own_kpN HS.out.sides hk57 ⟨by decide, by decide⟩ HS.out.is.blkN HS.out.is.map.heap
          obtain ⟨v6, w6, hrun, hsd6, hg6, _⟩ := PRow.app (w := w5.alloc (.cells #[.int .i64 (ia : Nat), .int .i64 (ib : Nat)] 78)) (t := (((ia : Nat) : Int), ((ib : Nat) : Int))) (g := w5.heap.size) (cc := 1) (own_kept hsd5 fun g x _ hx => hb_alloc hx _) (by simp; omega) (hb_at (hb_new w5 _) 0 rfl) (hb_at (hb_new w5 _) 1 rfl) (by rw [List.length_map]; have h1 := HS.out.eqs.len; rw [List.length_take] at h1; omega)
          obtain ⟨q6, c6, e6, _, _⟩ := hsd6.shape
          have e6' : v6 = .slice q6 (sd.length + 1) c6 := by rw [e6, List.length_append, List.length_map]; rfl
          clear e6
          subst e6'
          refine step_append rfl (.tmp 29) (.tmp 53) rfl rfl rfl rfl hrun ?_
          have hblk5 : ∀ g, (Value.slice qs sd.length cs).ownBlock = some g → w.heap.size ≤ g ∧ ∃ cs, (w5.alloc (.cells #[.int .i64 (ia : Nat), .int .i64 (ib : Nat)] 78)).heap[g]? = some (.cells cs 78 (0, 0)) := fun g hg => by
            obtain ⟨h1, cs, h2⟩ := own_blk hsd5 g hg
            exact ⟨h1, cs, hb_alloc h2 _⟩
          have hBB := E1.out.blkN
          have hne5 : ∀ {b : Nat} {cs : Array Value} {T : TypeId} {fr : Nat × Nat}, w5.heap[b]? = some (.cells cs T fr) → T ≠ 78 → w6.heap[b]? = some (.cells cs T fr) := fun hb hT => hb_grown (hb_alloc hb _) hg6 (fun e => by obtain ⟨_, cs', h2⟩ := hblk5 _ e.symm; exact type_ne (hb_alloc hb _) h2 hT rfl)
          have hbx6 := hne5 HBX5.out (by decide)
          have hb68 := hne5 E1.out.boxN (by decide)
          have his6 := (E1.out.below (below_alloc w5 (.cells #[.int .i64 (ia : Nat), .int .i64 (ib : Nat)] 78))).grown hg6 (T := 78) ⟨by decide, by decide, by decide⟩ (fun g hg => ⟨fun e => by obtain ⟨cb, hB⟩ := hBB; obtain ⟨_, cs', h2⟩ := hblk5 g hg; exact type_ne (hb_alloc hB _) h2 (by decide) e.symm, (hblk5 g hg).2⟩)
          obtain ⟨z5, z7, _, zf, _⟩ := his6.b7N
          have zf5 := zf 5
          have k6 := hb_at hb68 0 rfl
          have HIS6 := Lib.hid his6
          have HG6 := Lib.hid hg6
          have HSD6 := Lib.hid hsd6
          have HBX6 := Lib.hid hbx6
          have HB68 := Lib.hid hb68
          have HK57 := Lib.hid hk57
          have HBLK5 := Lib.hid hblk5
          have hkeep := (⟨k6, z7, hb_at (HBX6.out) 0 rfl, hb_at (HBX6.out) 1 rfl, hb_at (HBX6.out) 2 rfl, hb_at (HBX6.out) 3 rfl, hb_at (HBX6.out) 4 rfl, hb_at (HBX6.out) 5 rfl, hb_at (HBX6.out) 6 rfl, hb_at (HBX6.out) 7 rfl, hb_at (HBX6.out) 8 rfl, hb_at (HBX6.out) 9 rfl⟩ : _ ∧ _ ∧ _ ∧ _ ∧ _ ∧ _ ∧ _ ∧ _ ∧ _ ∧ _ ∧ _ ∧ _)
          have hBx : w.heap.size + 1 + 1 ≠ wr.heap.size := by omega
          have hkeep2 := (⟨hb_at (hb_set_other HB68.out (.slice q6 (sd.length + 1) c6) (a := ⟨w.heap.size + 1 + 1, 5, none⟩) (by show w.heap.size + 1 + 1 + 1 ≠ w.heap.size + 1 + 1; omega)) 0 rfl, (HIS6.out.rest5 (.slice q6 (sd.length + 1) c6)).b7N.2.1, hb_at (hb_set_other HBX6.out (.slice q6 (sd.length + 1) c6) (a := ⟨w.heap.size + 1 + 1, 5, none⟩) (by show wr.heap.size ≠ w.heap.size + 1 + 1; omega)) 0 rfl, hb_at (hb_set_other HBX6.out (.slice q6 (sd.length + 1) c6) (a := ⟨w.heap.size + 1 + 1, 5, none⟩) (by show wr.heap.size ≠ w.heap.size + 1 + 1; omega)) 1 rfl, hb_at (hb_set_other HBX6.out (.slice q6 (sd.length + 1) c6) (a := ⟨w.heap.size + 1 + 1, 5, none⟩) (by show wr.heap.size ≠ w.heap.size + 1 + 1; omega)) 2 rfl, hb_at (hb_set_other HBX6.out (.slice q6 (sd.length + 1) c6) (a := ⟨w.heap.size + 1 + 1, 5, none⟩) (by show wr.heap.size ≠ w.heap.size + 1 + 1; omega)) 3 rfl, hb_at (hb_set_other HBX6.out (.slice q6 (sd.length + 1) c6) (a := ⟨w.heap.size + 1 + 1, 5, none⟩) (by show wr.heap.size ≠ w.heap.size + 1 + 1; omega)) 4 rfl, hb_at (hb_set_other HBX6.out (.slice q6 (sd.length + 1) c6) (a := ⟨w.heap.size + 1 + 1, 5, none⟩) (by show wr.heap.size ≠ w.heap.size + 1 + 1; omega)) 5 rfl, hb_at (hb_set_other HBX6.out (.slice q6 (sd.length + 1) c6) (a := ⟨w.heap.size + 1 + 1, 5, none⟩) (by show wr.heap.size ≠ w.heap.size + 1 + 1; omega)) 6 rfl, hb_at (hb_set_other HBX6.out (.slice q6 (sd.length + 1) c6) (a := ⟨w.heap.size + 1 + 1, 5, none⟩) (by show wr.heap.size ≠ w.heap.size + 1 + 1; omega)) 7 rfl, hb_at (hb_set_other HBX6.out (.slice q6 (sd.length + 1) c6) (a := ⟨w.heap.size + 1 + 1, 5, none⟩) (by show wr.heap.size ≠ w.heap.size + 1 + 1; omega)) 8 rfl, hb_at (hb_set_other HBX6.out (.slice q6 (sd.length + 1) c6) (a := ⟨w.heap.size + 1 + 1, 5, none⟩) (by show wr.heap.size ≠ w.heap.size + 1 + 1; omega)) 9 rfl⟩ : _ ∧ _ ∧ _ ∧ _ ∧ _ ∧ _ ∧ _ ∧ _ ∧ _ ∧ _ ∧ _ ∧ _)
          clear hsd5 hrun hsd6 hg6 hblk5 hBB hne5 hbx6 hb68 his6 hk57 zf
          refine hK.out _ _ (by exact hkeep) (fun hNew => ?_)
          clear hK K
          clear hHeld; have hHeld := hNew; clear hNew
          try simp only [Act.put, List.setIfInBounds_toArray, List.set_cons_zero, List.set_cons_succ]
          refine wpAnyH_take (i := 30) (oi := ⟨some 55, _, _, _, _, _⟩) (v := ?_) rfl (by kernel_rfl) (by kernel_rfl) (by kernel_rfl) (fun _ _ _ h => h) (Or.inl ⟨by rfl, ?_⟩) (by assumption) ?_
          rotate_left
          focus (intro w hSw; (try dsimp only at hSw); go_simp; first | done | with_reducible rfl)
          try simp only [Act.put, List.setIfInBounds_toArray, List.set_cons_zero, List.set_cons_succ]
          refine wpAnyH_take (i := 31) (oi := ⟨some 56, _, _, _, _, _⟩) (v := ?_) rfl (by kernel_rfl) (by kernel_rfl) (by kernel_rfl) (fun _ _ _ h => h) (Or.inl ⟨by rfl, ?_⟩) (by assumption) ?_
          rotate_left
          focus (intro w hSw; (try dsimp only at hSw); go_simp; first | done | with_reducible rfl)
          try simp only [Act.put, List.setIfInBounds_toArray, List.set_cons_zero, List.set_cons_succ]
          refine wpAnyH_ready (rs := [32]) (by kernel_rfl) (by simp) ?_
          refine AllReadyH.cons (o := ⟨none, _, _, _, _, _⟩) rfl (fun K hK => ?_) AllReadyH.nil
          go_simp
          refine hK.out _ _ (by exact hkeep2) (fun hNew => ?_)
          clear hK K
          clear hHeld; have hHeld := hNew; clear hNew
          try simp only [Act.put, List.setIfInBounds_toArray, List.set_cons_zero, List.set_cons_succ]
          refine wpAnyH_done (by kernel_rfl) ?_ _
          obtain ⟨_, _, v0, v1, v2, v3, v4, v5, v6, v7, v8, v9⟩ := hHeld
          have hisF := HIS6.out.rest5 (.slice q6 (sd.length + 1) c6)
          have hB5 := E1.out.blkN
          have hB6 := HIS6.out.blkN
          have hset : ∀ (b : Nat) (ob : Obj), w6.heap[b]? = some ob → (∀ cs fr, ob ≠ .cells cs 86 fr) → (w6.setCell ⟨w.heap.size + 1 + 1, 5, none⟩ (.slice q6 (sd.length + 1) c6)).heap[b]? = some ob := fun b ob hb hne => hb_set_other hb _ (fun e => by obtain ⟨cs, h⟩ := hB6; have e : b = w.heap.size + 1 + 1 := e; rw [e] at hb; have h : w6.heap[w.heap.size + 1 + 1]? = _ := h; rw [h] at hb; exact hne _ _ (Option.some.inj hb).symm)
          have hsdF : PRow w.heap.size (w6.setCell ⟨w.heap.size + 1 + 1, 5, none⟩ (.slice q6 (sd.length + 1) c6)) (.slice q6 (sd.length + 1) c6) ((sd.map fun s => (((s.1 : Nat) : Int), ((s.2 : Nat) : Int))) ++ [(((ia : Nat) : Int), ((ib : Nat) : Int))]) := own_kept HSD6.out fun b y hb hy => by
            obtain ⟨_, cs, h2⟩ := own_blk HSD6.out b hb
            rw [h2] at hy
            cases hy
            exact hset b _ h2 (fun cs fr e => by injection e with _ e _; exact absurd e (by decide))
          have hte5 := own_kpN HS.out.terms HK57.out ⟨by decide, by decide⟩ HS.out.is.blkN HS.out.is.map.heap
          have hteF : (w6.setCell ⟨w.heap.size + 1 + 1, 5, none⟩ (.slice q6 (sd.length + 1) c6)).ownsRow w.heap.size 36 5 (.slice qt ts.length ct) ts.length (flatC ts) := own_kept hte5 fun b y hb hy => by
            obtain ⟨_, cs, h2⟩ := own_blk hte5 b hb
            rw [h2] at hy
            cases hy
            exact hset b _ (hb_grown (hb_alloc h2 _) HG6.out (fun e => by obtain ⟨_, cs', h3⟩ := HBLK5.out b e.symm; exact type_ne (hb_alloc h2 _) h3 (by decide) rfl)) (fun cs fr e => by injection e with _ e _; exact absurd e (by decide))
          have hplF : IMap (w6.setCell ⟨w.heap.size + 1 + 1, 5, none⟩ (.slice q6 (sd.length + 1) c6)) (w.heap.size + 1) 0 fun _ => none := by
            obtain ⟨es, cl, hm⟩ := HS.out.pl.heap
            have h1 := HK57.out.block _ _ hm (by show w.heap.size + 1 ≠ w.heap.size + 1 + 1; omega) (by omega) (fun cs fr e => by cases e)
            refine HS.out.pl.same ?_
            rw [hm]
            exact hset _ _ (hb_grown (hb_alloc h1 _) HG6.out (fun e => by obtain ⟨_, cs', h3⟩ := HBLK5.out _ e.symm; rw [hb_alloc h1 _] at h3; cases h3)) (fun cs fr e => by cases e)
          have hb57 : Below w.heap.size wr w5 := HK57.out.below
          have hbelF : Below w.heap.size w (w6.setCell ⟨w.heap.size + 1 + 1, 5, none⟩ (.slice q6 (sd.length + 1) c6)) := (((HS.out.bel.trans hb57).alloc (HS.out.bel.trans hb57).size _).grown HG6.out (by have := HS.out.bel.size; have := HK57.out.size; simp; omega) (fun b hb => (HBLK5.out b hb).1)).setCell (by show w.heap.size ≤ w.heap.size + 1 + 1; omega) _
          obtain ⟨q8, c8, w8, hrun8, hin8⟩ := ns_next HS.out HXX.out htot hisF hplF hsdF hteF hbelF G3.out E3.out HI1.out HI2.out hel
          have HRUN8 := Lib.hid hrun8
          have HIN8 := Lib.hid hin8
          clear hisF hB5 hB6 hset hsdF hte5 hteF hplF hb57 hbelF hrun8 hin8 hkeep hkeep2
          generalize w6.setCell ⟨w.heap.size + 1 + 1, 5, none⟩ (.slice q6 (sd.length + 1) c6) = W7 at *
          go_wp2_with ((at_builtin; refine (fun h : True → _ => h trivial) ?_))
          intro _
          refine wpList_app rfl _ _ rfl rfl rfl rfl HRUN8.out ?_
          go_wp2
          exact ⟨⟨j + 1, by go_num, by omega, HIN8.out⟩, by simp [intOf]; omega⟩
        · go_simp
          (with_reducible refine (HIB.out w4 l2 _ ρ2 G1.out HBW4.out (by have h1 := G3.out.2.2.1; have := HTOT1.out; have := HTOT2.out; omega)).mono ?_); rintro e w5 ⟨ib, l3, ρ3, rfl, g1, g2, g3⟩; have hbx5 := g2.kept HBX4.out (by show wr.heap.size ≠ w.heap.size + 1 + 1; omega) (by omega) (by decide); obtain ⟨c55, c75, _, cf5, _⟩ := g1.b7N; have k5 := hb_at g1.boxN 0 rfl; have HBX5 := Lib.hid hbx5; have E1 := Lib.hid g1; have E2 := Lib.hid g2; have E3 := Lib.hid g3; have hS5 := g2.size; have hbB5 : w.heap.size + 1 + 1 < w5.heap.size := g1.sz.2.1; clear g1 g2 g3 hbx5
          go_wp2_with fail
          refine hK.out _ _ (by exact ⟨k5, c75, hb_at (HBX5.out) 0 rfl, hb_at (HBX5.out) 1 rfl, hb_at (HBX5.out) 2 rfl, hb_at (HBX5.out) 3 rfl, hb_at (HBX5.out) 4 rfl, hb_at (HBX5.out) 5 rfl, hb_at (HBX5.out) 6 rfl, hb_at (HBX5.out) 7 rfl, hb_at (HBX5.out) 8 rfl, hb_at (HBX5.out) 9 rfl⟩) (fun hNew => ?_)
          clear hK K
          clear hHeld; have hHeld := hNew; clear hNew
          try simp only [Act.put, List.setIfInBounds_toArray, List.set_cons_zero, List.set_cons_succ]
          refine wpAnyH_take (i := 27) (oi := ⟨some 52, _, _, _, _, _⟩) (v := ?_) rfl (by kernel_rfl) (by kernel_rfl) (by kernel_rfl) (fun _ _ _ h => h) (Or.inl ⟨by rfl, ?_⟩) (by assumption) ?_
          rotate_left
          focus (intro w hSw; (try dsimp only at hSw); go_simp; first | done | with_reducible rfl)
          try simp only [Act.put, List.setIfInBounds_toArray, List.set_cons_zero, List.set_cons_succ]
          refine wpAnyH_ready (rs := [4, 28]) (by kernel_rfl) (by simp) ?_
          refine AllReadyH.cons (o := ⟨some 29, _, _, _, _, _⟩) rfl (fun K hK => ?_) (AllReadyH.cons (o := ⟨some 53, _, _, _, _, _⟩) rfl (fun K hK => ?_) AllReadyH.nil)
          · go_simp
            refine hK.out _ _ (by exact hHeld) (fun hNew => ?_)
            clear hK K
            clear hHeld; have hHeld := hNew; clear hNew
            try simp only [Act.put, List.setIfInBounds_toArray, List.set_cons_zero, List.set_cons_succ]
            refine wpAnyH_ready (rs := [28]) (by kernel_rfl) (by simp) ?_
            refine AllReadyH.cons (o := ⟨some 53, _, _, _, _, _⟩) rfl (fun K hK => ?_) AllReadyH.nil
            go_simp
            refine hK.out _ _ (by exact ⟨keep_cell (below_alloc _ _) hHeld.1, keep_cell (below_alloc _ _) hHeld.2.1, keep_cell (below_alloc _ _) hHeld.2.2.1, keep_cell (below_alloc _ _) hHeld.2.2.2.1, keep_cell (below_alloc _ _) hHeld.2.2.2.2.1, keep_cell (below_alloc _ _) hHeld.2.2.2.2.2.1, keep_cell (below_alloc _ _) hHeld.2.2.2.2.2.2.1, keep_cell (below_alloc _ _) hHeld.2.2.2.2.2.2.2.1, keep_cell (below_alloc _ _) hHeld.2.2.2.2.2.2.2.2.1, keep_cell (below_alloc _ _) hHeld.2.2.2.2.2.2.2.2.2.1, keep_cell (below_alloc _ _) hHeld.2.2.2.2.2.2.2.2.2.2.1, keep_cell (below_alloc _ _) hHeld.2.2.2.2.2.2.2.2.2.2.2⟩) (fun hNew => ?_)
            clear hK K
            clear hHeld; have hHeld := hNew; clear hNew
            try simp only [Act.put, List.setIfInBounds_toArray, List.set_cons_zero, List.set_cons_succ]
            refine wpAnyH_ready (rs := [29]) (by kernel_rfl) (by simp) ?_
            refine AllReadyH.cons (o := ⟨some 54, _, _, _, _, _⟩) rfl (fun K hK => ?_) AllReadyH.nil
            have hk57 : KpM (cfgN w (.slice qs sd.length cs)) w.heap.size wr w5 := (KpM.of_below (by show w.heap.size ≤ wr.heap.size; omega) HB7.out).trans (G2.out.trans E2.out)
            have hsd5 := own_kpN HS.out.sides hk57 ⟨by decide, by decide⟩ HS.out.is.blkN HS.out.is.map.heap
            obtain ⟨v6, w6, hrun, hsd6, hg6, _⟩ := PRow.app (w := w5.alloc (.cells #[.int .i64 (ia : Nat), .int .i64 (ib : Nat)] 78)) (t := (((ia : Nat) : Int), ((ib : Nat) : Int))) (g := w5.heap.size) (cc := 1) (own_kept hsd5 fun g x _ hx => hb_alloc hx _) (by simp; omega) (hb_at (hb_new w5 _) 0 rfl) (hb_at (hb_new w5 _) 1 rfl) (by rw [List.length_map]; have h1 := HS.out.eqs.len; rw [List.length_take] at h1; omega)
            obtain ⟨q6, c6, e6, _, _⟩ := hsd6.shape
            have e6' : v6 = .slice q6 (sd.length + 1) c6 := by rw [e6, List.length_append, List.length_map]; rfl
            clear e6
            subst e6'
            refine step_append rfl (.tmp 29) (.tmp 53) rfl rfl rfl rfl hrun ?_
            have hblk5 : ∀ g, (Value.slice qs sd.length cs).ownBlock = some g → w.heap.size ≤ g ∧ ∃ cs, (w5.alloc (.cells #[.int .i64 (ia : Nat), .int .i64 (ib : Nat)] 78)).heap[g]? = some (.cells cs 78 (0, 0)) := fun g hg => by
              obtain ⟨h1, cs, h2⟩ := own_blk hsd5 g hg
              exact ⟨h1, cs, hb_alloc h2 _⟩
            have hBB := E1.out.blkN
            have hne5 : ∀ {b : Nat} {cs : Array Value} {T : TypeId} {fr : Nat × Nat}, w5.heap[b]? = some (.cells cs T fr) → T ≠ 78 → w6.heap[b]? = some (.cells cs T fr) := fun hb hT => hb_grown (hb_alloc hb _) hg6 (fun e => by obtain ⟨_, cs', h2⟩ := hblk5 _ e.symm; exact type_ne (hb_alloc hb _) h2 hT rfl)
            have hbx6 := hne5 HBX5.out (by decide)
            have hb68 := hne5 E1.out.boxN (by decide)
            have his6 := (E1.out.below (below_alloc w5 (.cells #[.int .i64 (ia : Nat), .int .i64 (ib : Nat)] 78))).grown hg6 (T := 78) ⟨by decide, by decide, by decide⟩ (fun g hg => ⟨fun e => by obtain ⟨cb, hB⟩ := hBB; obtain ⟨_, cs', h2⟩ := hblk5 g hg; exact type_ne (hb_alloc hB _) h2 (by decide) e.symm, (hblk5 g hg).2⟩)
            obtain ⟨z5, z7, _, zf, _⟩ := his6.b7N
            have zf5 := zf 5
            have k6 := hb_at hb68 0 rfl
            have HIS6 := Lib.hid his6
            have HG6 := Lib.hid hg6
            have HSD6 := Lib.hid hsd6
            have HBX6 := Lib.hid hbx6
            have HB68 := Lib.hid hb68
            have HK57 := Lib.hid hk57
            have HBLK5 := Lib.hid hblk5
            have hkeep := (⟨k6, z7, hb_at (HBX6.out) 0 rfl, hb_at (HBX6.out) 1 rfl, hb_at (HBX6.out) 2 rfl, hb_at (HBX6.out) 3 rfl, hb_at (HBX6.out) 4 rfl, hb_at (HBX6.out) 5 rfl, hb_at (HBX6.out) 6 rfl, hb_at (HBX6.out) 7 rfl, hb_at (HBX6.out) 8 rfl, hb_at (HBX6.out) 9 rfl⟩ : _ ∧ _ ∧ _ ∧ _ ∧ _ ∧ _ ∧ _ ∧ _ ∧ _ ∧ _ ∧ _ ∧ _)
            have hBx : w.heap.size + 1 + 1 ≠ wr.heap.size := by omega
            have hkeep2 := (⟨hb_at (hb_set_other HB68.out (.slice q6 (sd.length + 1) c6) (a := ⟨w.heap.size + 1 + 1, 5, none⟩) (by show w.heap.size + 1 + 1 + 1 ≠ w.heap.size + 1 + 1; omega)) 0 rfl, (HIS6.out.rest5 (.slice q6 (sd.length + 1) c6)).b7N.2.1, hb_at (hb_set_other HBX6.out (.slice q6 (sd.length + 1) c6) (a := ⟨w.heap.size + 1 + 1, 5, none⟩) (by show wr.heap.size ≠ w.heap.size + 1 + 1; omega)) 0 rfl, hb_at (hb_set_other HBX6.out (.slice q6 (sd.length + 1) c6) (a := ⟨w.heap.size + 1 + 1, 5, none⟩) (by show wr.heap.size ≠ w.heap.size + 1 + 1; omega)) 1 rfl, hb_at (hb_set_other HBX6.out (.slice q6 (sd.length + 1) c6) (a := ⟨w.heap.size + 1 + 1, 5, none⟩) (by show wr.heap.size ≠ w.heap.size + 1 + 1; omega)) 2 rfl, hb_at (hb_set_other HBX6.out (.slice q6 (sd.length + 1) c6) (a := ⟨w.heap.size + 1 + 1, 5, none⟩) (by show wr.heap.size ≠ w.heap.size + 1 + 1; omega)) 3 rfl, hb_at (hb_set_other HBX6.out (.slice q6 (sd.length + 1) c6) (a := ⟨w.heap.size + 1 + 1, 5, none⟩) (by show wr.heap.size ≠ w.heap.size + 1 + 1; omega)) 4 rfl, hb_at (hb_set_other HBX6.out (.slice q6 (sd.length + 1) c6) (a := ⟨w.heap.size + 1 + 1, 5, none⟩) (by show wr.heap.size ≠ w.heap.size + 1 + 1; omega)) 5 rfl, hb_at (hb_set_other HBX6.out (.slice q6 (sd.length + 1) c6) (a := ⟨w.heap.size + 1 + 1, 5, none⟩) (by show wr.heap.size ≠ w.heap.size + 1 + 1; omega)) 6 rfl, hb_at (hb_set_other HBX6.out (.slice q6 (sd.length + 1) c6) (a := ⟨w.heap.size + 1 + 1, 5, none⟩) (by show wr.heap.size ≠ w.heap.size + 1 + 1; omega)) 7 rfl, hb_at (hb_set_other HBX6.out (.slice q6 (sd.length + 1) c6) (a := ⟨w.heap.size + 1 + 1, 5, none⟩) (by show wr.heap.size ≠ w.heap.size + 1 + 1; omega)) 8 rfl, hb_at (hb_set_other HBX6.out (.slice q6 (sd.length + 1) c6) (a := ⟨w.heap.size + 1 + 1, 5, none⟩) (by show wr.heap.size ≠ w.heap.size + 1 + 1; omega)) 9 rfl⟩ : _ ∧ _ ∧ _ ∧ _ ∧ _ ∧ _ ∧ _ ∧ _ ∧ _ ∧ _ ∧ _ ∧ _)
            clear hsd5 hrun hsd6 hg6 hblk5 hBB hne5 hbx6 hb68 his6 hk57 zf
            refine hK.out _ _ (by exact hkeep) (fun hNew => ?_)
            clear hK K
            clear hHeld; have hHeld := hNew; clear hNew
            try simp only [Act.put, List.setIfInBounds_toArray, List.set_cons_zero, List.set_cons_succ]
            refine wpAnyH_take (i := 30) (oi := ⟨some 55, _, _, _, _, _⟩) (v := ?_) rfl (by kernel_rfl) (by kernel_rfl) (by kernel_rfl) (fun _ _ _ h => h) (Or.inl ⟨by rfl, ?_⟩) (by assumption) ?_
            rotate_left
            focus (intro w hSw; (try dsimp only at hSw); go_simp; first | done | with_reducible rfl)
            try simp only [Act.put, List.setIfInBounds_toArray, List.set_cons_zero, List.set_cons_succ]
            refine wpAnyH_take (i := 31) (oi := ⟨some 56, _, _, _, _, _⟩) (v := ?_) rfl (by kernel_rfl) (by kernel_rfl) (by kernel_rfl) (fun _ _ _ h => h) (Or.inl ⟨by rfl, ?_⟩) (by assumption) ?_
            rotate_left
            focus (intro w hSw; (try dsimp only at hSw); go_simp; first | done | with_reducible rfl)
            try simp only [Act.put, List.setIfInBounds_toArray, List.set_cons_zero, List.set_cons_succ]
            refine wpAnyH_ready (rs := [32]) (by kernel_rfl) (by simp) ?_
            refine AllReadyH.cons (o := ⟨none, _, _, _, _, _⟩) rfl (fun K hK => ?_) AllReadyH.nil
            go_simp
            refine hK.out _ _ (by exact hkeep2) (fun hNew => ?_)
            clear hK K
            clear hHeld; have hHeld := hNew; clear hNew
            try simp only [Act.put, List.setIfInBounds_toArray, List.set_cons_zero, List.set_cons_succ]
            refine wpAnyH_done (by kernel_rfl) ?_ _
            obtain ⟨_, _, v0, v1, v2, v3, v4, v5, v6, v7, v8, v9⟩ := hHeld
            have hisF := HIS6.out.rest5 (.slice q6 (sd.length + 1) c6)
            have hB5 := E1.out.blkN
            have hB6 := HIS6.out.blkN
            have hset : ∀ (b : Nat) (ob : Obj), w6.heap[b]? = some ob → (∀ cs fr, ob ≠ .cells cs 86 fr) → (w6.setCell ⟨w.heap.size + 1 + 1, 5, none⟩ (.slice q6 (sd.length + 1) c6)).heap[b]? = some ob := fun b ob hb hne => hb_set_other hb _ (fun e => by obtain ⟨cs, h⟩ := hB6; have e : b = w.heap.size + 1 + 1 := e; rw [e] at hb; have h : w6.heap[w.heap.size + 1 + 1]? = _ := h; rw [h] at hb; exact hne _ _ (Option.some.inj hb).symm)
            have hsdF : PRow w.heap.size (w6.setCell ⟨w.heap.size + 1 + 1, 5, none⟩ (.slice q6 (sd.length + 1) c6)) (.slice q6 (sd.length + 1) c6) ((sd.map fun s => (((s.1 : Nat) : Int), ((s.2 : Nat) : Int))) ++ [(((ia : Nat) : Int), ((ib : Nat) : Int))]) := own_kept HSD6.out fun b y hb hy => by
              obtain ⟨_, cs, h2⟩ := own_blk HSD6.out b hb
              rw [h2] at hy
              cases hy
              exact hset b _ h2 (fun cs fr e => by injection e with _ e _; exact absurd e (by decide))
            have hte5 := own_kpN HS.out.terms HK57.out ⟨by decide, by decide⟩ HS.out.is.blkN HS.out.is.map.heap
            have hteF : (w6.setCell ⟨w.heap.size + 1 + 1, 5, none⟩ (.slice q6 (sd.length + 1) c6)).ownsRow w.heap.size 36 5 (.slice qt ts.length ct) ts.length (flatC ts) := own_kept hte5 fun b y hb hy => by
              obtain ⟨_, cs, h2⟩ := own_blk hte5 b hb
              rw [h2] at hy
              cases hy
              exact hset b _ (hb_grown (hb_alloc h2 _) HG6.out (fun e => by obtain ⟨_, cs', h3⟩ := HBLK5.out b e.symm; exact type_ne (hb_alloc h2 _) h3 (by decide) rfl)) (fun cs fr e => by injection e with _ e _; exact absurd e (by decide))
            have hplF : IMap (w6.setCell ⟨w.heap.size + 1 + 1, 5, none⟩ (.slice q6 (sd.length + 1) c6)) (w.heap.size + 1) 0 fun _ => none := by
              obtain ⟨es, cl, hm⟩ := HS.out.pl.heap
              have h1 := HK57.out.block _ _ hm (by show w.heap.size + 1 ≠ w.heap.size + 1 + 1; omega) (by omega) (fun cs fr e => by cases e)
              refine HS.out.pl.same ?_
              rw [hm]
              exact hset _ _ (hb_grown (hb_alloc h1 _) HG6.out (fun e => by obtain ⟨_, cs', h3⟩ := HBLK5.out _ e.symm; rw [hb_alloc h1 _] at h3; cases h3)) (fun cs fr e => by cases e)
            have hb57 : Below w.heap.size wr w5 := HK57.out.below
            have hbelF : Below w.heap.size w (w6.setCell ⟨w.heap.size + 1 + 1, 5, none⟩ (.slice q6 (sd.length + 1) c6)) := (((HS.out.bel.trans hb57).alloc (HS.out.bel.trans hb57).size _).grown HG6.out (by have := HS.out.bel.size; have := HK57.out.size; simp; omega) (fun b hb => (HBLK5.out b hb).1)).setCell (by show w.heap.size ≤ w.heap.size + 1 + 1; omega) _
            obtain ⟨q8, c8, w8, hrun8, hin8⟩ := ns_next HS.out HXX.out htot hisF hplF hsdF hteF hbelF G3.out E3.out HI1.out HI2.out hel
            have HRUN8 := Lib.hid hrun8
            have HIN8 := Lib.hid hin8
            clear hisF hB5 hB6 hset hsdF hte5 hteF hplF hb57 hbelF hrun8 hin8 hkeep hkeep2
            generalize w6.setCell ⟨w.heap.size + 1 + 1, 5, none⟩ (.slice q6 (sd.length + 1) c6) = W7 at *
            go_wp2_with ((at_builtin; refine (fun h : True → _ => h trivial) ?_))
            intro _
            refine wpList_app rfl _ _ rfl rfl rfl rfl HRUN8.out ?_
            go_wp2
            exact ⟨⟨j + 1, by go_num, by omega, HIN8.out⟩, by simp [intOf]; omega⟩
          · go_simp
            refine hK.out _ _ (by exact ⟨keep_cell (below_alloc _ _) hHeld.1, keep_cell (below_alloc _ _) hHeld.2.1, keep_cell (below_alloc _ _) hHeld.2.2.1, keep_cell (below_alloc _ _) hHeld.2.2.2.1, keep_cell (below_alloc _ _) hHeld.2.2.2.2.1, keep_cell (below_alloc _ _) hHeld.2.2.2.2.2.1, keep_cell (below_alloc _ _) hHeld.2.2.2.2.2.2.1, keep_cell (below_alloc _ _) hHeld.2.2.2.2.2.2.2.1, keep_cell (below_alloc _ _) hHeld.2.2.2.2.2.2.2.2.1, keep_cell (below_alloc _ _) hHeld.2.2.2.2.2.2.2.2.2.1, keep_cell (below_alloc _ _) hHeld.2.2.2.2.2.2.2.2.2.2.1, keep_cell (below_alloc _ _) hHeld.2.2.2.2.2.2.2.2.2.2.2⟩) (fun hNew => ?_)
            clear hK K
            clear hHeld; have hHeld := hNew; clear hNew
            try simp only [Act.put, List.setIfInBounds_toArray, List.set_cons_zero, List.set_cons_succ]
            refine wpAnyH_ready (rs := [4]) (by kernel_rfl) (by simp) ?_
            refine AllReadyH.cons (o := ⟨some 29, _, _, _, _, _⟩) rfl (fun K hK => ?_) AllReadyH.nil
            go_simp
            refine hK.out _ _ (by exact hHeld) (fun hNew => ?_)
            clear hK K
            clear hHeld; have hHeld := hNew; clear hNew
            try simp only [Act.put, List.setIfInBounds_toArray, List.set_cons_zero, List.set_cons_succ]
            refine wpAnyH_ready (rs := [29]) (by kernel_rfl) (by simp) ?_
            refine AllReadyH.cons (o := ⟨some 54, _, _, _, _, _⟩) rfl (fun K hK => ?_) AllReadyH.nil
            have hk57 : KpM (cfgN w (.slice qs sd.length cs)) w.heap.size wr w5 := (KpM.of_below (by show w.heap.size ≤ wr.heap.size; omega) HB7.out).trans (G2.out.trans E2.out)
            have hsd5 := own_kpN HS.out.sides hk57 ⟨by decide, by decide⟩ HS.out.is.blkN HS.out.is.map.heap
            obtain ⟨v6, w6, hrun, hsd6, hg6, _⟩ := PRow.app (w := w5.alloc (.cells #[.int .i64 (ia : Nat), .int .i64 (ib : Nat)] 78)) (t := (((ia : Nat) : Int), ((ib : Nat) : Int))) (g := w5.heap.size) (cc := 1) (own_kept hsd5 fun g x _ hx => hb_alloc hx _) (by simp; omega) (hb_at (hb_new w5 _) 0 rfl) (hb_at (hb_new w5 _) 1 rfl) (by rw [List.length_map]; have h1 := HS.out.eqs.len; rw [List.length_take] at h1; omega)
            obtain ⟨q6, c6, e6, _, _⟩ := hsd6.shape
            have e6' : v6 = .slice q6 (sd.length + 1) c6 := by rw [e6, List.length_append, List.length_map]; rfl
            clear e6
            subst e6'
            refine step_append rfl (.tmp 29) (.tmp 53) rfl rfl rfl rfl hrun ?_
            have hblk5 : ∀ g, (Value.slice qs sd.length cs).ownBlock = some g → w.heap.size ≤ g ∧ ∃ cs, (w5.alloc (.cells #[.int .i64 (ia : Nat), .int .i64 (ib : Nat)] 78)).heap[g]? = some (.cells cs 78 (0, 0)) := fun g hg => by
              obtain ⟨h1, cs, h2⟩ := own_blk hsd5 g hg
              exact ⟨h1, cs, hb_alloc h2 _⟩
            have hBB := E1.out.blkN
            have hne5 : ∀ {b : Nat} {cs : Array Value} {T : TypeId} {fr : Nat × Nat}, w5.heap[b]? = some (.cells cs T fr) → T ≠ 78 → w6.heap[b]? = some (.cells cs T fr) := fun hb hT => hb_grown (hb_alloc hb _) hg6 (fun e => by obtain ⟨_, cs', h2⟩ := hblk5 _ e.symm; exact type_ne (hb_alloc hb _) h2 hT rfl)
            have hbx6 := hne5 HBX5.out (by decide)
            have hb68 := hne5 E1.out.boxN (by decide)
            have his6 := (E1.out.below (below_alloc w5 (.cells #[.int .i64 (ia : Nat), .int .i64 (ib : Nat)] 78))).grown hg6 (T := 78) ⟨by decide, by decide, by decide⟩ (fun g hg => ⟨fun e => by obtain ⟨cb, hB⟩ := hBB; obtain ⟨_, cs', h2⟩ := hblk5 g hg; exact type_ne (hb_alloc hB _) h2 (by decide) e.symm, (hblk5 g hg).2⟩)
            obtain ⟨z5, z7, _, zf, _⟩ := his6.b7N
            have zf5 := zf 5
            have k6 := hb_at hb68 0 rfl
            have HIS6 := Lib.hid his6
            have HG6 := Lib.hid hg6
            have HSD6 := Lib.hid hsd6
            have HBX6 := Lib.hid hbx6
            have HB68 := Lib.hid hb68
            have HK57 := Lib.hid hk57
            have HBLK5 := Lib.hid hblk5
            have hkeep := (⟨k6, z7, hb_at (HBX6.out) 0 rfl, hb_at (HBX6.out) 1 rfl, hb_at (HBX6.out) 2 rfl, hb_at (HBX6.out) 3 rfl, hb_at (HBX6.out) 4 rfl, hb_at (HBX6.out) 5 rfl, hb_at (HBX6.out) 6 rfl, hb_at (HBX6.out) 7 rfl, hb_at (HBX6.out) 8 rfl, hb_at (HBX6.out) 9 rfl⟩ : _ ∧ _ ∧ _ ∧ _ ∧ _ ∧ _ ∧ _ ∧ _ ∧ _ ∧ _ ∧ _ ∧ _)
            have hBx : w.heap.size + 1 + 1 ≠ wr.heap.size := by omega
            have hkeep2 := (⟨hb_at (hb_set_other HB68.out (.slice q6 (sd.length + 1) c6) (a := ⟨w.heap.size + 1 + 1, 5, none⟩) (by show w.heap.size + 1 + 1 + 1 ≠ w.heap.size + 1 + 1; omega)) 0 rfl, (HIS6.out.rest5 (.slice q6 (sd.length + 1) c6)).b7N.2.1, hb_at (hb_set_other HBX6.out (.slice q6 (sd.length + 1) c6) (a := ⟨w.heap.size + 1 + 1, 5, none⟩) (by show wr.heap.size ≠ w.heap.size + 1 + 1; omega)) 0 rfl, hb_at (hb_set_other HBX6.out (.slice q6 (sd.length + 1) c6) (a := ⟨w.heap.size + 1 + 1, 5, none⟩) (by show wr.heap.size ≠ w.heap.size + 1 + 1; omega)) 1 rfl, hb_at (hb_set_other HBX6.out (.slice q6 (sd.length + 1) c6) (a := ⟨w.heap.size + 1 + 1, 5, none⟩) (by show wr.heap.size ≠ w.heap.size + 1 + 1; omega)) 2 rfl, hb_at (hb_set_other HBX6.out (.slice q6 (sd.length + 1) c6) (a := ⟨w.heap.size + 1 + 1, 5, none⟩) (by show wr.heap.size ≠ w.heap.size + 1 + 1; omega)) 3 rfl, hb_at (hb_set_other HBX6.out (.slice q6 (sd.length + 1) c6) (a := ⟨w.heap.size + 1 + 1, 5, none⟩) (by show wr.heap.size ≠ w.heap.size + 1 + 1; omega)) 4 rfl, hb_at (hb_set_other HBX6.out (.slice q6 (sd.length + 1) c6) (a := ⟨w.heap.size + 1 + 1, 5, none⟩) (by show wr.heap.size ≠ w.heap.size + 1 + 1; omega)) 5 rfl, hb_at (hb_set_other HBX6.out (.slice q6 (sd.length + 1) c6) (a := ⟨w.heap.size + 1 + 1, 5, none⟩) (by show wr.heap.size ≠ w.heap.size + 1 + 1; omega)) 6 rfl, hb_at (hb_set_other HBX6.out (.slice q6 (sd.length + 1) c6) (a := ⟨w.heap.size + 1 + 1, 5, none⟩) (by show wr.heap.size ≠ w.heap.size + 1 + 1; omega)) 7 rfl, hb_at (hb_set_other HBX6.out (.slice q6 (sd.length + 1) c6) (a := ⟨w.heap.size + 1 + 1, 5, none⟩) (by show wr.heap.size ≠ w.heap.size + 1 + 1; omega)) 8 rfl, hb_at (hb_set_other HBX6.out (.slice q6 (sd.length + 1) c6) (a := ⟨w.heap.size + 1 + 1, 5, none⟩) (by show wr.heap.size ≠ w.heap.size + 1 + 1; omega)) 9 rfl⟩ : _ ∧ _ ∧ _ ∧ _ ∧ _ ∧ _ ∧ _ ∧ _ ∧ _ ∧ _ ∧ _ ∧ _)
            clear hsd5 hrun hsd6 hg6 hblk5 hBB hne5 hbx6 hb68 his6 hk57 zf
            refine hK.out _ _ (by exact hkeep) (fun hNew => ?_)
            clear hK K
            clear hHeld; have hHeld := hNew; clear hNew
            try simp only [Act.put, List.setIfInBounds_toArray, List.set_cons_zero, List.set_cons_succ]
            refine wpAnyH_take (i := 30) (oi := ⟨some 55, _, _, _, _, _⟩) (v := ?_) rfl (by kernel_rfl) (by kernel_rfl) (by kernel_rfl) (fun _ _ _ h => h) (Or.inl ⟨by rfl, ?_⟩) (by assumption) ?_
            rotate_left
            focus (intro w hSw; (try dsimp only at hSw); go_simp; first | done | with_reducible rfl)
            try simp only [Act.put, List.setIfInBounds_toArray, List.set_cons_zero, List.set_cons_succ]
            refine wpAnyH_take (i := 31) (oi := ⟨some 56, _, _, _, _, _⟩) (v := ?_) rfl (by kernel_rfl) (by kernel_rfl) (by kernel_rfl) (fun _ _ _ h => h) (Or.inl ⟨by rfl, ?_⟩) (by assumption) ?_
            rotate_left
            focus (intro w hSw; (try dsimp only at hSw); go_simp; first | done | with_reducible rfl)
            try simp only [Act.put, List.setIfInBounds_toArray, List.set_cons_zero, List.set_cons_succ]
            refine wpAnyH_ready (rs := [32]) (by kernel_rfl) (by simp) ?_
            refine AllReadyH.cons (o := ⟨none, _, _, _, _, _⟩) rfl (fun K hK => ?_) AllReadyH.nil
            go_simp
            refine hK.out _ _ (by exact hkeep2) (fun hNew => ?_)
            clear hK K
            clear hHeld; have hHeld := hNew; clear hNew
            try simp only [Act.put, List.setIfInBounds_toArray, List.set_cons_zero, List.set_cons_succ]
            refine wpAnyH_done (by kernel_rfl) ?_ _
            obtain ⟨_, _, v0, v1, v2, v3, v4, v5, v6, v7, v8, v9⟩ := hHeld
            have hisF := HIS6.out.rest5 (.slice q6 (sd.length + 1) c6)
            have hB5 := E1.out.blkN
            have hB6 := HIS6.out.blkN
            have hset : ∀ (b : Nat) (ob : Obj), w6.heap[b]? = some ob → (∀ cs fr, ob ≠ .cells cs 86 fr) → (w6.setCell ⟨w.heap.size + 1 + 1, 5, none⟩ (.slice q6 (sd.length + 1) c6)).heap[b]? = some ob := fun b ob hb hne => hb_set_other hb _ (fun e => by obtain ⟨cs, h⟩ := hB6; have e : b = w.heap.size + 1 + 1 := e; rw [e] at hb; have h : w6.heap[w.heap.size + 1 + 1]? = _ := h; rw [h] at hb; exact hne _ _ (Option.some.inj hb).symm)
            have hsdF : PRow w.heap.size (w6.setCell ⟨w.heap.size + 1 + 1, 5, none⟩ (.slice q6 (sd.length + 1) c6)) (.slice q6 (sd.length + 1) c6) ((sd.map fun s => (((s.1 : Nat) : Int), ((s.2 : Nat) : Int))) ++ [(((ia : Nat) : Int), ((ib : Nat) : Int))]) := own_kept HSD6.out fun b y hb hy => by
              obtain ⟨_, cs, h2⟩ := own_blk HSD6.out b hb
              rw [h2] at hy
              cases hy
              exact hset b _ h2 (fun cs fr e => by injection e with _ e _; exact absurd e (by decide))
            have hte5 := own_kpN HS.out.terms HK57.out ⟨by decide, by decide⟩ HS.out.is.blkN HS.out.is.map.heap
            have hteF : (w6.setCell ⟨w.heap.size + 1 + 1, 5, none⟩ (.slice q6 (sd.length + 1) c6)).ownsRow w.heap.size 36 5 (.slice qt ts.length ct) ts.length (flatC ts) := own_kept hte5 fun b y hb hy => by
              obtain ⟨_, cs, h2⟩ := own_blk hte5 b hb
              rw [h2] at hy
              cases hy
              exact hset b _ (hb_grown (hb_alloc h2 _) HG6.out (fun e => by obtain ⟨_, cs', h3⟩ := HBLK5.out b e.symm; exact type_ne (hb_alloc h2 _) h3 (by decide) rfl)) (fun cs fr e => by injection e with _ e _; exact absurd e (by decide))
            have hplF : IMap (w6.setCell ⟨w.heap.size + 1 + 1, 5, none⟩ (.slice q6 (sd.length + 1) c6)) (w.heap.size + 1) 0 fun _ => none := by
              obtain ⟨es, cl, hm⟩ := HS.out.pl.heap
              have h1 := HK57.out.block _ _ hm (by show w.heap.size + 1 ≠ w.heap.size + 1 + 1; omega) (by omega) (fun cs fr e => by cases e)
              refine HS.out.pl.same ?_
              rw [hm]
              exact hset _ _ (hb_grown (hb_alloc h1 _) HG6.out (fun e => by obtain ⟨_, cs', h3⟩ := HBLK5.out _ e.symm; rw [hb_alloc h1 _] at h3; cases h3)) (fun cs fr e => by cases e)
            have hb57 : Below w.heap.size wr w5 := HK57.out.below
            have hbelF : Below w.heap.size w (w6.setCell ⟨w.heap.size + 1 + 1, 5, none⟩ (.slice q6 (sd.length + 1) c6)) := (((HS.out.bel.trans hb57).alloc (HS.out.bel.trans hb57).size _).grown HG6.out (by have := HS.out.bel.size; have := HK57.out.size; simp; omega) (fun b hb => (HBLK5.out b hb).1)).setCell (by show w.heap.size ≤ w.heap.size + 1 + 1; omega) _
            obtain ⟨q8, c8, w8, hrun8, hin8⟩ := ns_next HS.out HXX.out htot hisF hplF hsdF hteF hbelF G3.out E3.out HI1.out HI2.out hel
            have HRUN8 := Lib.hid hrun8
            have HIN8 := Lib.hid hin8
            clear hisF hB5 hB6 hset hsdF hte5 hteF hplF hb57 hbelF hrun8 hin8 hkeep hkeep2
            generalize w6.setCell ⟨w.heap.size + 1 + 1, 5, none⟩ (.slice q6 (sd.length + 1) c6) = W7 at *
            go_wp2_with ((at_builtin; refine (fun h : True → _ => h trivial) ?_))
            intro _
            refine wpList_app rfl _ _ rfl rfl rfl rfl HRUN8.out ?_
            go_wp2
            exact ⟨⟨j + 1, by go_num, by omega, HIN8.out⟩, by simp [intOf]; omega⟩
    · have hki : ¬ (j : Int) < (E.length : Int) := by omega
      obtain rfl : j = E.length := by omega
      clear HST
      rw [List.take_length] at HS
      have hsl := HS.out.eqs.len
      have hslen : sd.length ≤ 1000 := by omega
      obtain ⟨c5, c7, c8, cf, c6⟩ := HS.out.is.b7N
      have hbxc := hb_at HS.out.is.boxN 0 rfl
      have hshape : ∃ qs cs, sv = .slice qs sd.length cs := by
        obtain ⟨qs, cs, h, _, _⟩ := HS.out.sides.shape
        exact ⟨qs, cs, by rw [h, List.length_map]⟩
      obtain ⟨qs, cs, rfl⟩ := hshape
      have hus : US w wr (.slice qs sd.length cs) l sd 0 (Abs.flat l) 0 wr := ⟨HS.out.is.st.st, Abs.flat_inv HS.out.is.wf, rfl, Abs.flat_erl l, fun θ => ⟨fun h => ⟨h, fun s hs => by simp at hs⟩, fun h => h.1⟩, Int.le_refl _, by simp, Kp.refl _ _⟩
      have HUS := Lib.hid hus
      clear hus cf c6 c7 c8
      have hwt : Abs.wt l ≤ 2000 := by have := HS.out.wt; omega
      have hll : l.length ≤ 1000 := by have := HS.out.ln; omega
      go_wp2
      generalize hwr : wr = W0 at *
      clear hwr
      go_loopw [70] (fun t wr => ∃ (j : Nat) (A : Abs) (kk : Int), t = .int .i64 (j : Nat) ∧ j ≤ sd.length ∧ US w W0 (.slice qs sd.length cs) l sd j A kk wr) (fun t _ => sd.length - (intOf t).toNat)
      case atStart => exact ⟨0, _, _, rfl, Nat.zero_le _, HUS.out⟩
      case round =>
        obtain ⟨j, A, kk, rfl, hjs, hU⟩ := hrel
        by_cases hlt2 : j < sd.length
        · have hki2 : (j : Int) < (sd.length : Int) := by omega
          obtain ⟨s, hs⟩ : ∃ s, sd[j]? = some s := ⟨_, List.getElem?_eq_getElem hlt2⟩
          obtain ⟨x2, _, ⟨_, hu1⟩, _, hu2⟩ := HS.out.eqs.mem_l (List.mem_of_getElem? hs)
          have hrow2 := own_kpN HS.out.sides (hU.kp.m (M := w.heap.size)) ⟨by decide, by decide⟩ HS.out.is.blkN HS.out.is.map.heap
          have hpr : (sd.map fun s => (((s.1 : Nat) : Int), ((s.2 : Nat) : Int)))[j]? = some (((s.1 : Nat) : Int), ((s.2 : Nat) : Int)) := by rw [List.getElem?_map, hs]; rfl
          obtain ⟨gr, cr, er, p0, p1⟩ := PRow.at hrow2 hpr
          injection er with er1 _ er2
          subst er1 er2
          have hbxr := hU.kp.block _ _ HS.out.is.boxN (by show w.heap.size + 1 + 1 + 1 ≠ w.heap.size + 1 + 1; omega) (fun cs fr e => by injection e with _ e _; exact absurd e (by decide))
          have hb12 := (below_alloc wr (.cells #[.int .i64 (s.1 : Nat), .int .i64 (s.2 : Nat)] 78)).drew
          have h12 := hb_new wr (.cells #[.int .i64 (s.1 : Nat), .int .i64 (s.2 : Nat)] 78)
          have bxr0 := hb_at (hb_below hbxr hb12 (hb_lt hbxr)) 0 rfl
          have m0 := hb_at h12 0 rfl
          have m1 := hb_at h12 1 rfl
          have hAl : A.l.length = l.length := by rw [hU.lA]
          obtain ⟨nn, oo, hrun⟩ := Abs.run_all (hU.inv.pair (u := s.1) (v := s.2) (by omega) (by omega))
          have hkb : kk ≤ 1000000 * 1001 := by
            have h1 := hU.k1
            have h2 : (j : Int) * ((l.length : Int) + 1) ≤ 1000000 * 1001 := by
              have : j * (l.length + 1) ≤ 1000 * 1001 := Nat.mul_le_mul (by omega) (by omega)
              have h3 : ((j * (l.length + 1) : Nat) : Int) = (j : Int) * ((l.length : Int) + 1) := by rw [Int.natCast_mul, Int.natCast_add]; rfl
              omega
            omega
          have hun : Calls Tryd.prog 27 #[.pointer (some ⟨w.heap.size + 1 + 1, 0, none⟩), .int .i64 (s.1 : Nat), .int .i64 (s.2 : Nat)] (wr.alloc (.cells #[.int .i64 (s.1 : Nat), .int .i64 (s.2 : Nat)] 78)).drew (UniQ { cfgN w (.slice (some ⟨gr, 0, none⟩) sd.length cs) with wks := kk } A [.pr s.1 s.2] oo (wr.alloc (.cells #[.int .i64 (s.1 : Nat), .int .i64 (s.2 : Nat)] 78)).drew) := (unify_any { cfgN w (.slice (some ⟨gr, 0, none⟩) sd.length cs) with wks := kk } A _ s.1 s.2 nn oo hU.inv (hU.st.below hb12) (by omega) (by omega) rfl hU.k0 (by show kk + _ < _; omega) (by rw [hU.lA]; show Abs.wt l ≤ _; omega) hrun)
          have HUN := Lib.hid hun
          have HU := Lib.hid hU
          have HB12 := Lib.hid hb12
          have HSS := Lib.hid hs
          have HBXD := Lib.hid (hb_below hbxr hb12 (hb_lt hbxr))
          have H12 := Lib.hid (show (wr.alloc (.cells #[.int .i64 (s.1 : Nat), .int .i64 (s.2 : Nat)] 78)).drew.heap[wr.heap.size]? = _ from h12)
          have hszr : w.heap.size + 1 + 1 + 1 < wr.heap.size := hb_lt hbxr
          have HRUN := Lib.hid hrun
          clear hU hrow2 hpr hbxr hb12 h12 hs hrun hun
          go_upto_region 13 with (fail)
          refine wp_region_held_drew (S := (fun w' => w'.cell? ⟨w.heap.size + 1 + 1 + 1, 0, none⟩ = some (.pointer (some ⟨w.heap.size + 1 + 1, 0, none⟩)) ∧ w'.cell? ⟨wr.heap.size, 0, none⟩ = some (.int .i64 (s.1 : Nat)) ∧ w'.cell? ⟨wr.heap.size, 1, none⟩ = some (.int .i64 (s.2 : Nat)))) (by kernel_rfl) (by exact ⟨bxr0, m0, m1⟩) (fun hHeld => ?_)
          refine wpAnyH_take (i := 0) (oi := ⟨some 74, _, _, _, _, _⟩) (v := ?_) rfl (by kernel_rfl) (by kernel_rfl) (by kernel_rfl) (fun _ _ _ h => h) (Or.inl ⟨by rfl, ?_⟩) (by assumption) ?_
          rotate_left
          focus (intro w hSw; (try dsimp only at hSw); go_simp; first | done | with_reducible rfl)
          try simp only [Act.put, List.setIfInBounds_toArray, List.set_cons_zero, List.set_cons_succ]
          refine wpAnyH_take (i := 1) (oi := ⟨some 75, _, _, _, _, _⟩) (v := ?_) rfl (by kernel_rfl) (by kernel_rfl) (by kernel_rfl) (fun _ _ _ h => h) (Or.inl ⟨by rfl, ?_⟩) (by assumption) ?_
          rotate_left
          focus (intro w hSw; (try dsimp only at hSw); go_simp; first | done | with_reducible rfl)
          try simp only [Act.put, List.setIfInBounds_toArray, List.set_cons_zero, List.set_cons_succ]
          refine wpAnyH_take (i := 2) (oi := ⟨some 76, _, _, _, _, _⟩) (v := ?_) rfl (by kernel_rfl) (by kernel_rfl) (by kernel_rfl) (fun _ _ _ h => h) (Or.inl ⟨by rfl, ?_⟩) (by assumption) ?_
          rotate_left
          focus (intro w hSw; (try dsimp only at hSw); go_simp; first | done | with_reducible rfl)
          try simp only [Act.put, List.setIfInBounds_toArray, List.set_cons_zero, List.set_cons_succ]
          refine wpAnyH_take (i := 3) (oi := ⟨some 77, _, _, _, _, _⟩) (v := ?_) rfl (by kernel_rfl) (by kernel_rfl) (by kernel_rfl) (fun _ _ _ h => h) (Or.inl ⟨by rfl, ?_⟩) (by assumption) ?_
          rotate_left
          focus (intro w hSw; (try dsimp only at hSw); go_simp; first | done | with_reducible rfl)
          try simp only [Act.put, List.setIfInBounds_toArray, List.set_cons_zero, List.set_cons_succ]
          refine wpAnyH_take (i := 4) (oi := ⟨some 78, _, _, _, _, _⟩) (v := ?_) rfl (by kernel_rfl) (by kernel_rfl) (by kernel_rfl) (fun _ _ _ h => h) (Or.inl ⟨by rfl, ?_⟩) (by assumption) ?_
          rotate_left
          focus (intro w hSw; (try dsimp only at hSw); go_simp; first | done | with_reducible rfl)
          try simp only [Act.put, List.setIfInBounds_toArray, List.set_cons_zero, List.set_cons_succ]
          refine wpAnyH_take (i := 5) (oi := ⟨some 79, _, _, _, _, _⟩) (v := ?_) rfl (by kernel_rfl) (by kernel_rfl) (by kernel_rfl) (fun _ _ _ h => h) (Or.inl ⟨by rfl, ?_⟩) (by assumption) ?_
          rotate_left
          focus (intro w hSw; (try dsimp only at hSw); go_simp; first | done | with_reducible rfl)
          try simp only [Act.put, List.setIfInBounds_toArray, List.set_cons_zero, List.set_cons_succ]
          refine wpAnyH_take (i := 6) (oi := ⟨some 80, _, _, _, _, _⟩) (v := ?_) rfl (by kernel_rfl) (by kernel_rfl) (by kernel_rfl) (fun _ _ _ h => h) (Or.inl ⟨by rfl, ?_⟩) (by assumption) ?_
          rotate_left
          focus (intro w hSw; (try dsimp only at hSw); go_simp; first | done | with_reducible rfl)
          try simp only [Act.put, List.setIfInBounds_toArray, List.set_cons_zero, List.set_cons_succ]
          refine wpAnyH_ready (rs := [7]) (by kernel_rfl) (by simp) ?_
          refine AllReadyH.cons (o := ⟨some 81, _, _, _, _, _⟩) rfl (fun K hK => ?_) AllReadyH.nil
          go_simp
          (with_reducible refine HUN.out.mono ?_); intro e w5 hq5; obtain ⟨b5, k5, rfl, hk50, hk51, hkp5, ho5, hn5⟩ := hq5.split; have HO5 := Lib.hid ho5; have HN5 := Lib.hid hn5; have HKP5 := Lib.hid hkp5; have bx5 := hb_at (hkp5.block _ _ HBXD.out (by show w.heap.size + 1 + 1 + 1 ≠ w.heap.size + 1 + 1; omega) (fun cs fr e => by injection e with _ e _; exact absurd e (by decide))) 0 rfl; have hm5 := hkp5.block _ _ H12.out (by show wr.heap.size ≠ w.heap.size + 1 + 1; omega) (fun cs fr e => by injection e with _ e _; exact absurd e (by decide)); have m05 := hb_at hm5 0 rfl; have m15 := hb_at hm5 1 rfl; clear hq5 ho5 hn5 hkp5 hm5
          go_wp2_with fail
          refine hK.out _ _ (by exact ⟨bx5, m05, m15⟩) (fun hNew => ?_)
          clear hK K
          have hHeld := hNew
          try simp only [Act.put, List.setIfInBounds_toArray, List.set_cons_zero, List.set_cons_succ]
          refine wpAnyH_take (i := 8) (oi := ⟨some 82, _, _, _, _, _⟩) (v := ?_) rfl (by kernel_rfl) (by kernel_rfl) (by kernel_rfl) (fun _ _ _ h => h) (Or.inl ⟨by rfl, ?_⟩) (by assumption) ?_
          rotate_left
          focus (intro w hSw; (try dsimp only at hSw); go_simp; first | done | with_reducible rfl)
          try simp only [Act.put, List.setIfInBounds_toArray, List.set_cons_zero, List.set_cons_succ]
          refine wpAnyH_done (by kernel_rfl) ?_ _
          clear hHeld
          cases b5 with
          | false =>
            go_wp2
            go_ret2
            have hU := HU.out
            have ho := HN5.out trivial
            have hrun := HRUN.out
            rw [ho] at hrun
            have hnr : A.NoRig := fun i x hx => HS.out.is.kd i x (by rw [← hU.lA]; exact hx)
            have hno := hrun.sem (hU.inv.pair (by omega) (by omega)) hnr
            refine ⟨?_, .inl ⟨rfl, Abs.no_sol HS.out.is.wf HS.out.is.tab HS.out.eqs (fun θ hθ => ?_)⟩⟩
            · exact (HS.out.bel.trans hU.kp.below).trans ((HB12.out.mono (by have := HS.out.bel.size; have := hU.kp.size; omega)).trans HKP5.out.below)
            · refine hno θ ⟨(hU.sem θ).2 ⟨hθ.1, fun s hs => hθ.2 s (List.mem_of_mem_take hs)⟩, fun x hx => ?_⟩
              cases List.mem_singleton.1 hx
              exact hθ.2 s (List.mem_of_getElem? HSS.out)
          | true =>
            go_wp2
            have hU := HU.out
            obtain ⟨B, ho, hst5, hinv5⟩ := HO5.out rfl
            have hrun := HRUN.out
            rw [ho] at hrun
            have hnr : A.NoRig := fun i x hx => HS.out.is.kd i x (by rw [← hU.lA]; exact hx)
            obtain ⟨_, hlB, hsemB⟩ := hrun.sem (hU.inv.pair (by omega) (by omega)) hnr
            have herl := hrun.erl (hU.inv.pair (by omega) (by omega)) hU.erl B rfl
            have htk : sd.take (j + 1) = sd.take j ++ [s] := by rw [List.take_add_one, HSS.out]; rfl
            refine ⟨⟨j + 1, B, k5, by go_num, by omega, ⟨hst5, hinv5, hlB.trans hU.lA, herl, fun θ => ?_, hk50, ?_, (hU.kp.trans (Kp.of_below (by show w.heap.size ≤ _; omega) HB12.out)).trans ⟨HKP5.out.below, HKP5.out.size, HKP5.out.block⟩⟩⟩, by simp [intOf]; omega⟩
            · rw [← hsemB θ]
              constructor
              · rintro ⟨h1, h2⟩
                obtain ⟨h3, h4⟩ := (hU.sem θ).1 h1
                refine ⟨h3, fun s' hs' => ?_⟩
                rw [htk] at hs'
                rcases List.mem_append.1 hs' with hs' | hs'
                · exact h4 s' hs'
                · cases List.mem_singleton.1 hs'; exact h2 (.pr s.1 s.2) (List.mem_singleton.2 rfl)
              · rintro ⟨h1, h2⟩
                refine ⟨(hU.sem θ).2 ⟨h1, fun s' hs' => h2 s' (by rw [htk]; exact List.mem_append_left _ hs')⟩, fun x hx => ?_⟩
                cases List.mem_singleton.1 hx
                exact h2 s (by rw [htk]; simp)
            · have h1 := hU.k1
              have h2 : ((j + 1 : Nat) : Int) * ((l.length : Int) + 1) = (j : Int) * ((l.length : Int) + 1) + ((l.length : Int) + 1) := by rw [Int.natCast_add, Int.add_mul]; simp
              rw [h2]
              have h3 : k5 ≤ kk + (A.l.length : Int) + 1 := hk51
              omega
        · have hki2 : ¬ (j : Int) < (sd.length : Int) := by omega
          obtain rfl : j = sd.length := by omega
          have hbxr := hU.kp.block _ _ HS.out.is.boxN (by show w.heap.size + 1 + 1 + 1 ≠ w.heap.size + 1 + 1; omega) (fun cs fr e => by injection e with _ e _; exact absurd e (by decide))
          have hte := own_kpN HS.out.terms (hU.kp.m (M := w.heap.size)) ⟨by decide, by decide⟩ HS.out.is.blkN HS.out.is.map.heap
          have hsd := own_kpN HS.out.sides (hU.kp.m (M := w.heap.size)) ⟨by decide, by decide⟩ HS.out.is.blkN HS.out.is.map.heap
          have hbelr : Below w.heap.size w wr := HS.out.bel.trans hU.kp.below
          have hkt : KidsT wr d (.slice qt ts.length ct) (two E) := kidsT_of hte HS.out.tlen (by rw [two_len]; unfold maxLen; omega) (fun i x hx => by
            obtain ⟨t, e1, e2⟩ := HS.out.trm i x hx
            exact ⟨t, e1, e2.below hbelr⟩)
          have hbd := (Below.refl wr.heap.size wr).drew
          have HVA := Lib.hid (vars_any d (two E) (.slice qt ts.length ct) wr.drew (hkt.below hbd) (by show tot d E ≤ _; omega))
          obtain ⟨vt, L, rk, p1, p2, p3⟩ := hU.st
          have hblk : wr.heap[w.heap.size + 1 + 1]? = some (.cells #[vt, .int .i64 9223372036854775807, .bool true, .bool false, .int .i64 kk, .slice qs sd.length cs, .slice none 0 0, .map (some w.heap.size), .map (some (w.heap.size + 1))] 86 (0, 0)) := p1.blk
          have bx0 := hb_at hbxr 0 rfl
          have HBXR := Lib.hid hbxr
          have HBLK := Lib.hid hblk
          have HU := Lib.hid hU
          have HSD := Lib.hid hsd
          have HBELR := Lib.hid hbelr
          have hszr : w.heap.size + 1 + 1 + 1 < wr.heap.size := hb_lt hbxr
          clear p1 p2 p3 hbxr hte hsd hbelr hkt hbd hblk hU
          go_upto_region 16 with (fail)
          refine wp_region_held_drew (S := (fun w' => w'.cell? ⟨w.heap.size + 1 + 1 + 1, 0, none⟩ = some (.pointer (some ⟨w.heap.size + 1 + 1, 0, none⟩)))) (by kernel_rfl) (by exact bx0) (fun hHeld => ?_)
          refine wpAnyH_take (i := 0) (oi := ⟨some 84, _, _, _, _, _⟩) (v := ?_) rfl (by kernel_rfl) (by kernel_rfl) (by kernel_rfl) (fun _ _ _ h => h) (Or.inl ⟨by rfl, ?_⟩) (by assumption) ?_
          rotate_left
          focus (intro w hSw; (try dsimp only at hSw); go_simp; first | done | with_reducible rfl)
          try simp only [Act.put, List.setIfInBounds_toArray, List.set_cons_zero, List.set_cons_succ]
          refine wpAnyH_take (i := 1) (oi := ⟨some 85, _, _, _, _, _⟩) (v := ?_) rfl (by kernel_rfl) (by kernel_rfl) (by kernel_rfl) (fun _ _ _ h => h) (Or.inl ⟨by rfl, ?_⟩) (by assumption) ?_
          rotate_left
          focus (intro w hSw; (try dsimp only at hSw); go_simp; first | done | with_reducible rfl)
          try simp only [Act.put, List.setIfInBounds_toArray, List.set_cons_zero, List.set_cons_succ]
          refine wpAnyH_ready (rs := [2]) (by kernel_rfl) (by simp) ?_
          refine AllReadyH.cons (o := ⟨some 86, _, _, _, _, _⟩) rfl (fun K hK => ?_) AllReadyH.nil
          go_simp
          (with_reducible refine HVA.out.mono ?_); rintro e w5 ⟨v5, rfl, hown5, hb5⟩; have hsh5 : ∃ qn cn, v5 = Value.slice qn (nmsE d E).length cn := (by rcases hown5.2 with ⟨rfl, h0⟩ | ⟨g', cap, cur, rfl, _⟩; exact ⟨none, 0, by rw [show (nmsE d E).length = 0 from h0]⟩; exact ⟨_, _, rfl⟩); obtain ⟨qn, cn, rfl⟩ := hsh5; have hb5 : Below wr.heap.size wr w5 := ((Below.refl wr.heap.size wr).drew).trans hb5; have HOWN5 := Lib.hid hown5; have HB5 := Lib.hid hb5; have bk5 := hb_below HBLK.out hb5 (hb_lt HBLK.out); have b56 := hb_at bk5 6 rfl; have f56 := hb_free bk5 6; have bx5 := hb_at (hb_below HBXR.out hb5 (hb_lt HBXR.out)) 0 rfl; have HBK5 := Lib.hid bk5; clear hown5 hb5 bk5
          go_wp2_with fail
          refine hK.out _ _ (by exact bx5) (fun hNew => ?_)
          clear hK K
          have hHeld := hNew
          try simp only [Act.put, List.setIfInBounds_toArray, List.set_cons_zero, List.set_cons_succ]
          refine wpAnyH_take (i := 3) (oi := ⟨some 87, _, _, _, _, _⟩) (v := ?_) rfl (by kernel_rfl) (by kernel_rfl) (by kernel_rfl) (fun _ _ _ h => h) (Or.inl ⟨by rfl, ?_⟩) (by assumption) ?_
          rotate_left
          focus (intro w hSw; (try dsimp only at hSw); go_simp; first | done | with_reducible rfl)
          try simp only [Act.put, List.setIfInBounds_toArray, List.set_cons_zero, List.set_cons_succ]
          refine wpAnyH_take (i := 4) (oi := ⟨some 88, _, _, _, _, _⟩) (v := ?_) rfl (by kernel_rfl) (by kernel_rfl) (by kernel_rfl) (fun _ _ _ h => h) (Or.inl ⟨by rfl, ?_⟩) (by assumption) ?_
          rotate_left
          focus (intro w hSw; (try dsimp only at hSw); go_simp; first | done | with_reducible rfl)
          try simp only [Act.put, List.setIfInBounds_toArray, List.set_cons_zero, List.set_cons_succ]
          refine wpAnyH_ready (rs := [5]) (by kernel_rfl) (by simp) ?_
          refine AllReadyH.cons (o := ⟨none, _, _, _, _, _⟩) rfl (fun K hK => ?_) AllReadyH.nil
          go_simp
          refine hK.out _ _ (by exact hb_at (hb_set_other (hb_below HBXR.out HB5.out (hb_lt HBXR.out)) (.slice qn (nmsE d E).length cn) (a := ⟨w.heap.size + 1 + 1, 6, none⟩) (by show w.heap.size + 1 + 1 + 1 ≠ w.heap.size + 1 + 1; omega)) 0 rfl) (fun hNew => ?_)
          clear hK K
          have hHeld := hNew
          try simp only [Act.put, List.setIfInBounds_toArray, List.set_cons_zero, List.set_cons_succ]
          refine wpAnyH_done (by kernel_rfl) ?_ _
          clear hHeld
          have HC := HB5
          have hset3 : ∀ (b : Nat) (ob : Obj), w5.heap[b]? = some ob → b ≠ w.heap.size + 1 + 1 → (w5.setCell ⟨w.heap.size + 1 + 1, 6, none⟩ (.slice qn (nmsE d E).length cn)).heap[b]? = some ob := fun b ob hb hne => hb_set_other hb _ hne
          have hu5 : St { cfgN w (.slice qs sd.length cs) with wks := kk } A w5 := HU.out.st.below HB5.out
          have hst3 : StA (fun _ => False) { cfgN w (.slice qs sd.length cs) with wks := kk, rest := [.slice qs sd.length cs, .slice qn (nmsE d E).length cn, .map (some w.heap.size), .map (some (w.heap.size + 1))] } A (w5.setCell ⟨w.heap.size + 1 + 1, 6, none⟩ (.slice qn (nmsE d E).length cn)) :=
            hu5.toA.rest (i := 6) (u := .slice qn (nmsE d E).length cn) (r := [.slice qs sd.length cs, .slice qn (nmsE d E).length cn, .map (some w.heap.size), .map (some (w.heap.size + 1))]) (fun v => rfl)
          have hrow3 : (w5.setCell ⟨w.heap.size + 1 + 1, 6, none⟩ (.slice qn (nmsE d E).length cn)).ownsRow w.heap.size 9 1 (.slice qn (nmsE d E).length cn) (nmsE d E).length ((nmsE d E).map .string) := by
            have h1 : w5.ownsRow w.heap.size 9 1 (.slice qn (nmsE d E).length cn) (nmsE d E).length ((nmsE d E).map .string) := by
              obtain ⟨hl, h2⟩ := HOWN5.out
              refine ⟨hl, ?_⟩
              rcases h2 with h2 | ⟨g, cap, cur, e, h3, h4, h5⟩
              · exact .inl h2
              · exact .inr ⟨g, cap, cur, e, by have h6 : w.heap.size ≤ wr.drew.heap.size := HBELR.out.size; omega, h4, h5⟩
            refine own_kept h1 fun b y hb hy => hset3 b y hy ?_
            obtain ⟨h6, cs', h7⟩ := own_blk HOWN5.out b hb
            have h8 : wr.drew.heap.size = wr.heap.size := rfl
            omega
          have hsd3 : PRow w.heap.size (w5.setCell ⟨w.heap.size + 1 + 1, 6, none⟩ (.slice qn (nmsE d E).length cn)) (.slice qs sd.length cs) (sd.map fun s => (((s.1 : Nat) : Int), ((s.2 : Nat) : Int))) := own_kept HSD.out fun b y hb hy => by
            obtain ⟨h6, cs', h7⟩ := own_blk HSD.out b hb
            refine hset3 b y (hb_below hy HB5.out (hb_lt hy)) (fun e => ?_)
            rw [e] at h7
            exact type_ne h7 HBLK.out (by decide) rfl
          have hbel3 : Below w.heap.size w (w5.setCell ⟨w.heap.size + 1 + 1, 6, none⟩ (.slice qn (nmsE d E).length cn)) := (HBELR.out.trans (HB5.out.mono HBELR.out.size)).setCell (by show w.heap.size ≤ w.heap.size + 1 + 1; omega) _
          have hmp : ∀ m es cl, W0.heap[m]? = some (Obj.map es cl) → (w5.setCell ⟨w.heap.size + 1 + 1, 6, none⟩ (.slice qn (nmsE d E).length cn)).heap[m]? = some (Obj.map es cl) := fun m es cl hm => by
            have h1 : wr.heap[m]? = some (Obj.map es cl) := HU.out.kp.block _ _ hm (fun e => by obtain ⟨cb, hB⟩ := HS.out.is.blkN; rw [e, hB] at hm; cases hm) (fun cs fr e => by cases e)
            refine hset3 m _ (hb_below h1 HB5.out (hb_lt h1)) (fun e => ?_)
            rw [e, HBLK.out] at h1
            cases h1
          have hvm3 : PMap (w5.setCell ⟨w.heap.size + 1 + 1, 6, none⟩ (.slice qn (nmsE d E).length cn)) w.heap.size (nmsE d E).length fun n => (ρ n).map Int.ofNat := by
            have h1 : (nmsE d (E.take E.length)) = nmsE d E := by rw [List.take_length]
            obtain ⟨es, cl, hm⟩ := HS.out.is.map.heap
            exact HS.out.is.map.same ((hmp _ _ _ hm).trans hm.symm)
          have hpl3 : IMap (w5.setCell ⟨w.heap.size + 1 + 1, 6, none⟩ (.slice qn (nmsE d E).length cn)) (w.heap.size + 1) 0 fun _ => none := by
            obtain ⟨es, cl, hm⟩ := HS.out.pl.heap
            exact HS.out.pl.same ((hmp _ _ _ hm).trans hm.symm)
          have hbx3 := hset3 _ _ (hb_below HBXR.out HB5.out (hb_lt HBXR.out)) (by omega)
          have hbk3 : (w5.setCell ⟨w.heap.size + 1 + 1, 6, none⟩ (.slice qn (nmsE d E).length cn)).heap[w.heap.size + 1 + 1]? = some (.cells #[vt, .int .i64 9223372036854775807, .bool true, .bool false, .int .i64 kk, .slice qs sd.length cs, .slice qn (nmsE d E).length cn, .map (some w.heap.size), .map (some (w.heap.size + 1))] 86 (0, 0)) := hb_set_same HBK5.out 6 _
          have HST3 := Lib.hid hst3
          have HROW3 := Lib.hid hrow3
          have HSD3 := Lib.hid hsd3
          have HBEL3 := Lib.hid hbel3
          have HVM3 := Lib.hid hvm3
          have HPL3 := Lib.hid hpl3
          have HBX3 := Lib.hid hbx3
          have HBK3 := Lib.hid hbk3
          clear hset3 hu5 hst3 hrow3 hsd3 hbel3 hmp hvm3 hpl3 hbx3 hbk3 HVA
          generalize w5.setCell ⟨w.heap.size + 1 + 1, 6, none⟩ (.slice qn (nmsE d E).length cn) = W3 at *
          have bx3 := hb_at HBX3.out 0 rfl
          have b63 := hb_at HBK3.out 6 rfl
          have hnl : (nmsE d E).length ≤ l.length := HS.out.is.tab.len
          go_wp2
          generalize hwq9 : wr = wq at *
          clear hwq9
          go_loopw [94] (fun t wr => ∃ j : Nat, t = .int .i64 (j : Nat) ∧ j ≤ (nmsE d E).length ∧ (∀ (g : Nat) (ob : Obj), W3.heap[g]? = some ob → g ≠ w.heap.size + 1 → wr.heap[g]? = some ob) ∧ Below w.heap.size W3 wr ∧ ∃ n g, IMap wr (w.heap.size + 1) n g ∧ n ≤ j ∧ ∀ (i z : Nat) (nm : ByteArray), i < j → (nmsE d E)[i]? = some nm → ρ nm = some z → g (z : Int) = some (i : Int)) (fun t _ => (nmsE d E).length - (intOf t).toNat)
          case atStart => exact ⟨0, rfl, Nat.zero_le _, fun g ob h _ => h, Below.refl _ _, 0, _, HPL3.out, Nat.le_refl _, fun i z nm h => absurd h (Nat.not_lt_zero _)⟩
          case round =>
            obtain ⟨j, rfl, hjn, hkp, hbw3, n, g, hgm, hnj, hgp⟩ := hrel
            have hbkx := hkp _ _ HBK3.out (by omega)
            have hbxx := hkp _ _ HBX3.out (by omega)
            have bx4 := hb_at hbxx 0 rfl
            have b74 := hb_at hbkx 7 rfl
            have b84 := hb_at hbkx 8 rfl
            by_cases hlt3 : j < (nmsE d E).length
            · have hki3 : (j : Int) < ((nmsE d E).length : Int) := by omega
              obtain ⟨nm, hnm⟩ : ∃ nm, (nmsE d E)[j]? = some nm := ⟨_, List.getElem?_eq_getElem hlt3⟩
              have htab : Abs.Tab l (nmsE d E) ρ := HS.out.is.tab
              obtain ⟨z, hz⟩ := (htab.dom nm).1 (List.mem_of_getElem? hnm)
              have hzl := htab.lt hz
              have hnsz : nm.size ≤ maxLen := HS.out.is.sm.2 nm (List.mem_of_getElem? hnm)
              have hcell : ∃ gq, qn = some ⟨gq, 0, none⟩ ∧ wr.cell? ⟨gq, j, none⟩ = some (.string nm) := by
                rcases HROW3.out.2 with ⟨_, h0⟩ | ⟨gq, cap, cur, e, _, hg, _, _, _, htk⟩
                · omega
                · injection e with e1 _ _
                  have hgP : gq ≠ w.heap.size + 1 := fun e => by obtain ⟨es, cl, hm⟩ := HPL3.out.heap; rw [e, hm] at hg; cases hg
                  refine ⟨gq, e1, ?_⟩
                  rw [hb_cell (hkp _ _ hg hgP)]
                  have e : (cur.toList.take ((nmsE d E).length * 1))[j]? = ((nmsE d E).map Value.string)[j]? := by rw [htk]
                  rw [List.getElem?_take, if_pos (by omega), List.getElem?_map, hnm, Array.getElem?_toList] at e
                  exact e
              obtain ⟨gq, rfl, cq⟩ := hcell
              have hvx : PMap wr w.heap.size (nmsE d E).length fun n => (ρ n).map Int.ofNat := by
                obtain ⟨es, cl, hm⟩ := HVM3.out.heap
                exact HVM3.out.same ((hkp _ _ hm (by omega)).trans hm.symm)
              have hvi : ((ρ nm).map Int.ofNat).getD 0 = (z : Int) := by rw [hz]; rfl
              have hzwf : (Lit.int .i64 (z : Nat)).wf = true := WalkArith.wf_i64 (by omega)
              have hjwf : (Lit.int .i64 (j : Nat)).wf = true := WalkArith.wf_i64 (by omega)
              have HVX := Lib.hid hvx
              have HGM := Lib.hid hgm
              have HGP := Lib.hid hgp
              have HKX := Lib.hid hkp
              have HBW3 := Lib.hid hbw3
              have HNM := Lib.hid hnm
              have HZ := Lib.hid hz
              have HTAB := Lib.hid htab
              have HBKX := Lib.hid hbkx
              have HBXX := Lib.hid hbxx
              have hn2 : n < maxLen := by unfold maxLen; omega
              clear hvx hgm hgp hkp hbw3 hnm hz htab hbkx hbxx b63
              go_upto_region 20 with (fail)
              refine wp_region_held_drew (S := (fun w' => RowKit.Hid (PMap w' w.heap.size (nmsE d E).length fun n => (ρ n).map Int.ofNat) ∧ w'.cell? ⟨w.heap.size + 1 + 1 + 1, 0, none⟩ = some (.pointer (some ⟨w.heap.size + 1 + 1, 0, none⟩)) ∧ w'.cell? ⟨w.heap.size + 1 + 1, 7, none⟩ = some (.map (some w.heap.size)) ∧ w'.cell? ⟨w.heap.size + 1 + 1, 8, none⟩ = some (.map (some (w.heap.size + 1))))) (by kernel_rfl) (by exact ⟨Lib.hid (HVX.out.below (Below.refl _ _).drew), bx4, b74, b84⟩) (fun hHeld => ?_)
              refine wpAnyH_take (i := 0) (oi := ⟨some 99, _, _, _, _, _⟩) (v := ?_) rfl (by kernel_rfl) (by kernel_rfl) (by kernel_rfl) (fun _ _ _ h => h) (Or.inl ⟨by rfl, ?_⟩) (by assumption) ?_
              rotate_left
              focus (intro w hSw; (try dsimp only at hSw); go_simp; first | done | with_reducible rfl)
              try simp only [Act.put, List.setIfInBounds_toArray, List.set_cons_zero, List.set_cons_succ]
              refine wpAnyH_take (i := 1) (oi := ⟨some 100, _, _, _, _, _⟩) (v := ?_) rfl (by kernel_rfl) (by kernel_rfl) (by kernel_rfl) (fun _ _ _ h => h) (Or.inl ⟨by rfl, ?_⟩) (by assumption) ?_
              rotate_left
              focus (intro w hSw; (try dsimp only at hSw); go_simp; first | done | with_reducible rfl)
              try simp only [Act.put, List.setIfInBounds_toArray, List.set_cons_zero, List.set_cons_succ]
              refine wpAnyH_take (i := 2) (oi := ⟨some 101, _, _, _, _, _⟩) (v := ?_) rfl (by kernel_rfl) (by kernel_rfl) (by kernel_rfl) (fun _ _ _ h => h) (Or.inl ⟨by rfl, ?_⟩) (by assumption) ?_
              rotate_left
              focus (intro w hSw; (try dsimp only at hSw); go_simp; first | done | with_reducible rfl)
              try simp only [Act.put, List.setIfInBounds_toArray, List.set_cons_zero, List.set_cons_succ]
              refine wpAnyH_take (i := 3) (oi := ⟨some 102, _, _, _, _, _⟩) (v := ?_) rfl (by kernel_rfl) (by kernel_rfl) (by kernel_rfl) (fun _ _ _ h => h) (Or.inl ⟨by rfl, ?_⟩) (by assumption) ?_
              rotate_left
              focus (intro w hSw; (try dsimp only at hSw); go_simp; first | done | with_reducible rfl)
              try simp only [Act.put, List.setIfInBounds_toArray, List.set_cons_zero, List.set_cons_succ]
              refine wpAnyH_take (i := 4) (oi := ⟨some 103, _, _, _, _, _⟩) (v := ?_) rfl (by kernel_rfl) (by kernel_rfl) (by kernel_rfl) (fun _ _ _ h => h) (Or.inl ⟨by rfl, ?_⟩) (by assumption) ?_
              rotate_left
              focus (intro w hSw; (try dsimp only at hSw); go_simp; first | done | with_reducible rfl)
              try simp only [Act.put, List.setIfInBounds_toArray, List.set_cons_zero, List.set_cons_succ]
              refine wpAnyH_take (i := 5) (oi := ⟨some 104, _, _, _, _, _⟩) (v := ?_) rfl (by kernel_rfl) (by kernel_rfl) (by kernel_rfl) (fun _ _ _ h => h) (Or.inl ⟨by rfl, ?_⟩) (by assumption) ?_
              rotate_left
              focus (intro w hSw; (try dsimp only at hSw); go_simp; first | done | with_reducible rfl)
              try simp only [Act.put, List.setIfInBounds_toArray, List.set_cons_zero, List.set_cons_succ]
              refine wpAnyH_take (i := 6) (oi := ⟨some 105, _, _, _, _, _⟩) (v := ?_) rfl (by kernel_rfl) (by kernel_rfl) (by kernel_rfl) (fun _ _ _ h => h) (Or.inl ⟨by rfl, ?_⟩) (by assumption) ?_
              rotate_left
              focus (intro w hSw; (try dsimp only at hSw); go_simp; first | done | with_reducible rfl)
              try simp only [Act.put, List.setIfInBounds_toArray, List.set_cons_zero, List.set_cons_succ]
              refine wpAnyH_take (i := 7) (oi := ⟨some 106, _, _, _, _, _⟩) (v := ?_) rfl (by kernel_rfl) (by kernel_rfl) (by kernel_rfl) (fun _ _ _ h => h) (Or.inl ⟨by rfl, ?_⟩) (by assumption) ?_
              rotate_left
              focus (intro w hSw; (try dsimp only at hSw); go_simp; first | done | with_reducible rfl)
              try simp only [Act.put, List.setIfInBounds_toArray, List.set_cons_zero, List.set_cons_succ]
              refine wpAnyH_take (i := 8) (oi := ⟨some 107, _, _, _, _, _⟩) (v := ?_) rfl (by kernel_rfl) (by kernel_rfl) (by kernel_rfl) (fun _ _ _ h => h) (Or.inl ⟨by rfl, ?_⟩) (by assumption) ?_
              rotate_left
              focus (intro w hSw; (try dsimp only at hSw); go_simp; first | done | with_reducible rfl)
              try simp only [Act.put, List.setIfInBounds_toArray, List.set_cons_zero, List.set_cons_succ]
              refine wpAnyH_take (i := 9) (oi := ⟨some 108, _, _, _, _, _⟩) (v := ?_) rfl (by kernel_rfl) (by kernel_rfl) (by kernel_rfl) (fun _ _ _ h => h) (Or.inl ⟨by rfl, ?_⟩) (by assumption) ?_
              rotate_left
              focus (intro w hSw; (try dsimp only at hSw); have hl := hSw.1.out.look1 nm hnsz; rw [hvi] at hl; go_simp; first | done | with_reducible rfl)
              try simp only [Act.put, List.setIfInBounds_toArray, List.set_cons_zero, List.set_cons_succ]
              refine wpAnyH_take (i := 10) (oi := ⟨some 109, _, _, _, _, _⟩) (v := ?_) rfl (by kernel_rfl) (by kernel_rfl) (by kernel_rfl) (fun _ _ _ h => h) (Or.inl ⟨by rfl, ?_⟩) (by assumption) ?_
              rotate_left
              focus (intro w hSw; (try dsimp only at hSw); go_simp; first | done | with_reducible rfl)
              try simp only [Act.put, List.setIfInBounds_toArray, List.set_cons_zero, List.set_cons_succ]
              refine wpAnyH_ready (rs := [11]) (by kernel_rfl) (by simp) ?_
              refine AllReadyH.cons (o := ⟨none, _, _, _, _, _⟩) rfl (fun K hK => ?_) AllReadyH.nil
              refine step_imput rfl (.tmp 102) (.tmp 108) (.tmp 109) rfl rfl (HGM.out.below (Below.refl _ _).drew) hn2 (z : Int) rfl hzwf (j : Int) hjwf rfl ?_
              intro w8 hg8 ht8
              have HG20 := Lib.hid hg8
              have HT20 := Lib.hid ht8
              clear hg8 ht8
              have hk8 : ∀ (b : Nat) (ob : Obj), wr.heap[b]? = some ob → b ≠ w.heap.size + 1 → w8.heap[b]? = some ob := fun b ob hb hne => hb_grown (show wr.drew.heap[b]? = some ob from hb) HT20.out.grown (fun e => hne (Option.some.inj e))
              refine hK.out _ _ (by exact ⟨Lib.hid (by obtain ⟨es, cl, hm⟩ := HVX.out.heap; exact HVX.out.same ((hk8 _ _ hm (by omega)).trans hm.symm)), hb_at (hk8 _ _ HBXX.out (by omega)) 0 rfl, hb_at (hk8 _ _ HBKX.out (by omega)) 7 rfl, hb_at (hk8 _ _ HBKX.out (by omega)) 8 rfl⟩) (fun hNew => ?_)
              clear hK K
              have hHeld := hNew
              try simp only [Act.put, List.setIfInBounds_toArray, List.set_cons_zero, List.set_cons_succ]
              refine wpAnyH_done (by kernel_rfl) ?_ _
              clear hHeld
              go_wp2
              refine ⟨⟨j + 1, by go_num, by omega, fun b ob hb hne => hk8 b ob (HKX.out b ob hb hne) hne, ?_, n + 1, _, HG20.out, by omega, fun i z' nm' hi hnm' hz' => ?_⟩, by simp [intOf]; omega⟩
              · exact HBW3.out.drew.grown HT20.out.grown (by have := HBEL3.out.size; have := HBW3.out.size; show w.heap.size ≤ wr.heap.size; omega) (fun b hb => by cases hb; omega)
              · show (if (z' : Int) = (z : Int) then some (j : Int) else g (z' : Int)) = some (i : Int)
                by_cases hij : i = j
                · subst hij
                  have e : nm' = nm := by have h1 := HNM.out; rw [hnm'] at h1; exact Option.some.inj h1
                  subst e
                  have e2 : z' = z := by have h1 := HZ.out; rw [hz'] at h1; exact Option.some.inj h1
                  rw [e2, if_pos rfl]
                · have hlt4 := HTAB.out.ord i j nm' nm z' z hnm' HNM.out hz' HZ.out (by omega)
                  rw [if_neg (by omega)]
                  exact HGP.out i z' nm' (by omega) hnm' hz'
            · have hki3 : ¬ (j : Int) < ((nmsE d E).length : Int) := by omega
              obtain rfl : j = (nmsE d E).length := by omega
              have htab : Abs.Tab l (nmsE d E) ρ := HS.out.is.tab
              have hsm := HS.out.is.sm
              have hU := HU.out
              have hfin : NslQ w d E (.returned (.tuple #[.pointer (some ⟨w.heap.size + 1 + 1, 0, none⟩), .int .i64 0])) wr := by
                refine ⟨HBEL3.out.trans hbw3, .inr ⟨rfl, { cfgN w (.slice qs sd.length cs) with wks := kk, rest := [.slice qs sd.length cs, .slice qn (nmsE d E).length cn, .map (some w.heap.size), .map (some (w.heap.size + 1))] }, A, l, ρ, sd, .slice qs sd.length cs, .slice qn (nmsE d E).length cn, rfl, rfl, ⟨HST3.out.cells (fun b cs t fr hb => hkp _ _ hb (fun e => by obtain ⟨es, cl, hm⟩ := HPL3.out.heap; rw [e, hm] at hb; cases hb)), rfl, rfl, own_kept HROW3.out (fun b y hb hy => ?_), ?_, ⟨g, hgm.le hnj, fun n' z' j' h1 h2 => hgp j' z' n' ((List.getElem?_eq_some_iff.1 h2).1) h2 h1⟩, by omega, htab.dom⟩, own_kept HSD3.out (fun b y hb hy => ?_), htab, HS.out.eqs, HS.out.is.wf, HS.out.is.kd, hU.inv, hU.lA, hU.erl, fun θ => by have h1 := hU.sem θ; rw [List.take_length] at h1; exact h1, hsm⟩⟩
                · obtain ⟨_, cs', h7⟩ := own_blk HROW3.out b hb
                  exact hkp _ _ hy (fun e => by obtain ⟨es, cl, hm⟩ := HPL3.out.heap; rw [e, hm] at h7; cases h7)
                · obtain ⟨es, cl, hm⟩ := HVM3.out.heap
                  exact HVM3.out.same ((hkp _ _ hm (by omega)).trans hm.symm)
                · obtain ⟨_, cs', h7⟩ := own_blk HSD3.out b hb
                  exact hkp _ _ hy (fun e => by obtain ⟨es, cl, hm⟩ := HPL3.out.heap; rw [e, hm] at h7; cases h7)
              have HFIN := Lib.hid hfin
              clear hkp hbw3 hgm hgp hbkx hbxx htab hsm hU hfin b74 b84
              go_wp2
              go_ret2
              exact HFIN.out
end Go.Proofs.YtncebhddcokkoaaDoor
